/-
  Drawing functions of chapter 2: anyName.
-/
import Derived.Test.YtdjkgkfgnmcldaaDoorDnN
namespace Go.Proofs.YtdjkgkfgnmcldaaDoor.StN
open Go.RowKit Pl Cur Draw0 Strs Help Name
set_option linter.unusedVariables false
set_option linter.unusedSimpArgs false

theorem two_new (w : World) (t : TypeId) (x y : Value) : ∀ (j : Nat) u, ([x, y] : List Value)[j]? = some u → (w.alloc (.cells #[x, y] t)).cell? ((⟨w.heap.size, 0, none⟩ : Addr).add j) = some u := by
  intro j u hu
  match j, hu with
  | 0, hu => cases hu; simp [Addr.add]
  | 1, hu => cases hu; simp [Addr.add]
  | j + 2, hu => simp at hu
theorem Gv.snoc2 {W : World} {B : Nat} {v : Value} {xs : List ByteArray} {y z : ByteArray} (h : W.ownsRow B 9 1 v (xs.length + 2) (xs.map Value.string ++ [.string y, .string z])) : Gv W B v (xs ++ [y, z]) := by
  unfold Gv
  rw [List.length_append, List.map_append]
  exact h
set_option maxRecDepth 100000 in
set_option maxHeartbeats 8000000 in
theorem anyName_any (g : Nat) (A : Option Addr) (n c k : Nat) (s : Int) (w : World) (hk : k ≤ 1030000) (hn : n ≤ 1048576) (hcur : IsCur w g A n c k s) (hr : RdB w A n) (ha : Apart A n g) :
    Calls Tryd.prog 27 #[.pointer (some ⟨g, 0, none⟩)] w (SomeNm w g A n c k 40 4) := by
  obtain ⟨i0, hi, hz0, hz1, hz2⟩ := info_parts infoS
  have hgl : g < w.heap.size := hcur.lt
  have HA := Lib.hid ha
  have HZ := Lib.hid (C4F.new w (.slice none 0 0) ⟨#[]⟩ ⟨#[]⟩ ⟨#[]⟩ 43)
  have HS1 := Lib.hid ((St.start hcur hr ha).alloc (.cells #[.slice none 0 0, .string ⟨#[]⟩, .string ⟨#[]⟩, .string ⟨#[]⟩] 43))
  have HSz : Hid ((w.alloc (.cells #[.slice none 0 0, .string ⟨#[]⟩, .string ⟨#[]⟩, .string ⟨#[]⟩] 43)).heap.size = w.heap.size + 1) := Lib.hid (by simp)
  clear hcur hr ha
  go_enter Tryd.func27, Tryd.ntmps27
  go_wp2_with fail
  generalize hW : w.alloc _ = w1 at HZ HS1 HSz ⊢
  clear hW
  obtain ⟨k1, s1, hk1, hc1⟩ := HS1.out.cur
  refine (name_any g A n c k1 s1 _ (by omega) hn hc1 HS1.out.rd HA.out).mono ?_
  rintro e w2 ⟨Av, cv, xs, p, fam, sf, rfl, hG, hxl, hX, hp, hf, hs, hl⟩
  have HX := Lib.hid hX
  have HS2 := Lib.hid (HS1.out.call hk1 hl)
  have HZ2 := Lib.hid (C4F.grown hl.2 (by simp <;> omega) HZ.out)
  have hle2 : w.heap.size + 1 ≤ w2.heap.size := by have h1 := hl.2.size; have h2 := HSz.out; omega
  have HG2 := Lib.hid (hG.base (show w.heap.size + 1 ≤ w1.heap.size + 1 by have := HSz.out; omega))
  obtain ⟨A0, c0, he0, hcv⟩ := hG.form
  clear hl hc1 HS1 HZ HSz hX hG he0
  have HB3 := Lib.hid (C4F.new w2 (.slice Av xs.length cv) p fam sf 43)
  have HS3 := Lib.hid (HS2.out.alloc (.cells #[.slice Av xs.length cv, .string p, .string fam, .string sf] 43))
  have HZ3 := Lib.hid (HZ2.out.alloc (.cells #[.slice Av xs.length cv, .string p, .string fam, .string sf] 43))
  have HG3 := Lib.hid (HG2.out.alloc (.cells #[.slice Av xs.length cv, .string p, .string fam, .string sf] 43))
  have hng : ∀ j, (Value.slice Av xs.length cv).ownBlock = some j → j < w2.heap.size := fun j hj => (HG2.out.at_least hj).1
  have hsz3 : (w2.alloc (.cells #[.slice Av xs.length cv, .string p, .string fam, .string sf] 43)).heap.size = w2.heap.size + 1 := by simp
  clear HS2 HZ2 HG2
  go_wp2_with fail
  generalize hW : w2.alloc _ = w3 at HB3 HS3 HZ3 HG3 hsz3 ⊢
  clear hW
  generalize hb : w2.heap.size = bx at *
  clear hb
  obtain ⟨k3, s3, hk3, hc3⟩ := HS3.out.cur
  refine (pick_any 16 (by omega) (by omega) g A n c k3 s3 _ (by omega) hn hc3 HS3.out.rd HA.out).mono ?_
  rintro e w4 ⟨r, rfl, hr0, hr1, hl⟩
  have HS4 := Lib.hid (HS3.out.call hk3 hl)
  have HZ4 := Lib.hid (C4F.grown hl.2 (by simp <;> omega) HZ3.out)
  have HB4 := Lib.hid (C4F.grown hl.2 (by simp <;> omega) HB3.out)
  have HG4 := Lib.hid (HG3.out.call hl.2 (by omega))
  have hsz4 : bx + 1 ≤ w4.heap.size := by have := hl.2.size; omega
  clear hl hc3 HS3 HZ3 HB3 HG3
  obtain ⟨i, rfl⟩ := Int.eq_ofNat_of_zero_le hr0
  rcases (show i = 0 ∨ i = 1 ∨ i = 2 ∨ i = 3 ∨ 4 ≤ i by omega) with rfl | rfl | rfl | rfl | hi4
  · obtain ⟨k4, s4, hk4, hc4⟩ := HS4.out.cur
    go_wp2_with fail
    refine (of_any Sm _ _ 7 [⟨#[]⟩, ⟨#[98, 101, 114, 103]⟩, ⟨#[66, 45]⟩, ⟨#[66, 45, 45, 99]⟩, ⟨#[65, 98, 99, 100, 101, 102, 103, 104, 105, 106, 107, 108]⟩, ⟨#[65, 98, 99, 100, 101, 102, 103, 104, 105, 106, 107, 108, 109]⟩, ⟨#[66, 57]⟩] (by unfold Sm; decide) rfl (by omega) (by omega) g (Nat.ne_of_gt hc4.lt) A n c k4 s4 _ (by omega) hn (hc4.alloc _) (HS4.out.rd.alloc HA.out hc4.lt _) HA.out (Txt.lit rfl)).mono ?_
    rintro e w5 ⟨nf, hnf, rfl, hl⟩
    have HS5 := Lib.hid (HS4.out.call hk4 hl.alloc)
    have HZ5 := Lib.hid (C4F.grown hl.alloc.2 (by simp <;> omega) HZ4.out)
    have HB5 := Lib.hid (C4F.grown hl.alloc.2 (by simp <;> omega) HB4.out)
    have HG5 := Lib.hid (HG4.out.call hl.alloc.2 (by omega))
    clear hl hc4 HS4 HZ4 HB4 HG4
    obtain ⟨⟨bl, b0, b1, b2, b3⟩, bf0, bf1, bf2, bf3⟩ := HB5.out
    have HS6 := Lib.hid (HS5.out.set bx 2 (.string nf) (by omega))
    have HZ6 := Lib.hid (HZ5.out.far (b := bx) (j := 2) (u := .string nf) (by omega))
    have HB6 := Lib.hid (HB5.out.set2 nf)
    have HG6 := Lib.hid (HG5.out.kept (grown_setc w5 bx 2 (.string nf)) (.inr fun e => by have := hng _ e; omega))
    clear HS5 HZ5 HB5 HG5
    go_upto_region 11 with fail
    generalize hW : w5.setCell _ _ = w6 at HS6 HZ6 HB6 HG6 ⊢
    clear hW bl b0 b1 b2 b3 bf0 bf1 bf2 bf3
    obtain ⟨⟨zl, z0, z1, z2, z3⟩, zf0, zf1, zf2, zf3⟩ := HZ6.out
    obtain ⟨⟨bl, b0, b1, b2, b3⟩, bf0, bf1, bf2, bf3⟩ := HB6.out
    have hne : w.heap.size ≠ bx := by omega
    go_wp2_with fail
    exact bodyPost_ret (v := nmV (.slice Av xs.length cv) p nf sf) (by simp [results, Tryd.results27, go_sem, z0, z1, z2, z3, b0, b1, b2, b3]) rfl ⟨Av, cv, xs, p, nf, sf, rfl, (((HG6.out.setc (by omega) 0 _).setc (by omega) 1 _).setc (by omega) 2 _).setc (by omega) 3 _, by omega, HX.out, hp, hnf, hs, (St.mono ((((HS6.out.set w.heap.size 0 _ (Nat.le_refl _)).set w.heap.size 1 _ (Nat.le_refl _)).set w.heap.size 2 _ (Nat.le_refl _)).set w.heap.size 3 _ (Nat.le_refl _)) (by omega)).left⟩
  · obtain ⟨k4, s4, hk4, hc4⟩ := HS4.out.cur
    go_wp2_with fail
    refine (of_any Sm _ _ 6 [⟨#[86, 97, 110]⟩, ⟨#[118, 97, 110, 32, 100, 101, 114, 32, 100, 101]⟩, ⟨#[118, 97, 110, 32]⟩, ⟨#[100, 39]⟩, ⟨#[100, 39, 97]⟩, ⟨#[118, 97, 110, 32, 32, 100, 101, 114]⟩] (by unfold Sm; decide) rfl (by omega) (by omega) g (Nat.ne_of_gt hc4.lt) A n c k4 s4 _ (by omega) hn (hc4.alloc _) (HS4.out.rd.alloc HA.out hc4.lt _) HA.out (Txt.lit rfl)).mono ?_
    rintro e w5 ⟨np, hnp, rfl, hl⟩
    have HS5 := Lib.hid (HS4.out.call hk4 hl.alloc)
    have HZ5 := Lib.hid (C4F.grown hl.alloc.2 (by simp <;> omega) HZ4.out)
    have HB5 := Lib.hid (C4F.grown hl.alloc.2 (by simp <;> omega) HB4.out)
    have HG5 := Lib.hid (HG4.out.call hl.alloc.2 (by omega))
    clear hl hc4 HS4 HZ4 HB4 HG4
    obtain ⟨⟨bl, b0, b1, b2, b3⟩, bf0, bf1, bf2, bf3⟩ := HB5.out
    have HS6 := Lib.hid (HS5.out.set bx 1 (.string np) (by omega))
    have HZ6 := Lib.hid (HZ5.out.far (b := bx) (j := 1) (u := .string np) (by omega))
    have HB6 := Lib.hid (HB5.out.set1 np)
    have HG6 := Lib.hid (HG5.out.kept (grown_setc w5 bx 1 (.string np)) (.inr fun e => by have := hng _ e; omega))
    clear HS5 HZ5 HB5 HG5
    go_upto_region 11 with fail
    generalize hW : w5.setCell _ _ = w6 at HS6 HZ6 HB6 HG6 ⊢
    clear hW bl b0 b1 b2 b3 bf0 bf1 bf2 bf3
    obtain ⟨⟨zl, z0, z1, z2, z3⟩, zf0, zf1, zf2, zf3⟩ := HZ6.out
    obtain ⟨⟨bl, b0, b1, b2, b3⟩, bf0, bf1, bf2, bf3⟩ := HB6.out
    have hne : w.heap.size ≠ bx := by omega
    go_wp2_with fail
    exact bodyPost_ret (v := nmV (.slice Av xs.length cv) np fam sf) (by simp [results, Tryd.results27, go_sem, z0, z1, z2, z3, b0, b1, b2, b3]) rfl ⟨Av, cv, xs, np, fam, sf, rfl, (((HG6.out.setc (by omega) 0 _).setc (by omega) 1 _).setc (by omega) 2 _).setc (by omega) 3 _, by omega, HX.out, hnp, hf, hs, (St.mono ((((HS6.out.set w.heap.size 0 _ (Nat.le_refl _)).set w.heap.size 1 _ (Nat.le_refl _)).set w.heap.size 2 _ (Nat.le_refl _)).set w.heap.size 3 _ (Nat.le_refl _)) (by omega)).left⟩
  · obtain ⟨k4, s4, hk4, hc4⟩ := HS4.out.cur
    go_wp2_with fail
    refine (of_any Sm _ _ 3 [⟨#[45]⟩, ⟨#[74, 32, 114]⟩, ⟨#[120]⟩] (by unfold Sm; decide) rfl (by omega) (by omega) g (Nat.ne_of_gt hc4.lt) A n c k4 s4 _ (by omega) hn (hc4.alloc _) (HS4.out.rd.alloc HA.out hc4.lt _) HA.out (Txt.lit rfl)).mono ?_
    rintro e w5 ⟨ns, hns, rfl, hl⟩
    have HS5 := Lib.hid (HS4.out.call hk4 hl.alloc)
    have HZ5 := Lib.hid (C4F.grown hl.alloc.2 (by simp <;> omega) HZ4.out)
    have HB5 := Lib.hid (C4F.grown hl.alloc.2 (by simp <;> omega) HB4.out)
    have HG5 := Lib.hid (HG4.out.call hl.alloc.2 (by omega))
    clear hl hc4 HS4 HZ4 HB4 HG4
    obtain ⟨⟨bl, b0, b1, b2, b3⟩, bf0, bf1, bf2, bf3⟩ := HB5.out
    have HS6 := Lib.hid (HS5.out.set bx 3 (.string ns) (by omega))
    have HZ6 := Lib.hid (HZ5.out.far (b := bx) (j := 3) (u := .string ns) (by omega))
    have HB6 := Lib.hid (HB5.out.set3 ns)
    have HG6 := Lib.hid (HG5.out.kept (grown_setc w5 bx 3 (.string ns)) (.inr fun e => by have := hng _ e; omega))
    clear HS5 HZ5 HB5 HG5
    go_upto_region 11 with fail
    generalize hW : w5.setCell _ _ = w6 at HS6 HZ6 HB6 HG6 ⊢
    clear hW bl b0 b1 b2 b3 bf0 bf1 bf2 bf3
    obtain ⟨⟨zl, z0, z1, z2, z3⟩, zf0, zf1, zf2, zf3⟩ := HZ6.out
    obtain ⟨⟨bl, b0, b1, b2, b3⟩, bf0, bf1, bf2, bf3⟩ := HB6.out
    have hne : w.heap.size ≠ bx := by omega
    go_wp2_with fail
    exact bodyPost_ret (v := nmV (.slice Av xs.length cv) p fam ns) (by simp [results, Tryd.results27, go_sem, z0, z1, z2, z3, b0, b1, b2, b3]) rfl ⟨Av, cv, xs, p, fam, ns, rfl, (((HG6.out.setc (by omega) 0 _).setc (by omega) 1 _).setc (by omega) 2 _).setc (by omega) 3 _, by omega, HX.out, hp, hf, hns, (St.mono ((((HS6.out.set w.heap.size 0 _ (Nat.le_refl _)).set w.heap.size 1 _ (Nat.le_refl _)).set w.heap.size 2 _ (Nat.le_refl _)).set w.heap.size 3 _ (Nat.le_refl _)) (by omega)).left⟩
  · obtain ⟨⟨bl, b0, b1, b2, b3⟩, f0, f1, f2, f3⟩ := HB4.out
    obtain ⟨k5, s5, hk5, hc5⟩ := HS4.out.cur
    have hc5d : IsCur w4.drew g A n c k5 s5 := hc5
    have hrd : RdB w4.drew A n := HS4.out.rd
    have HBd : Hid (C4F w4.drew bx (.slice Av xs.length cv) p fam sf) := Lib.hid HB4.out
    have HGd : Hid (Gv w4.drew (w.heap.size + 1) (.slice Av xs.length cv) xs) := Lib.hid HG4.out
    have hd0 : w4.drew.cell? ⟨bx, 0, none⟩ = some (.slice Av xs.length cv) := b0
    have ha0 : ∀ o, (w4.drew.alloc o).cell? ⟨bx, 0, none⟩ = some (.slice Av xs.length cv) := fun o => (HBd.out.alloc o).1.2.1
    have HNg := Lib.hid hng
    clear hng
    go_upto_region 10 with fail
    go_region_law (first
      | (refine Rr.step_append_own rfl (.tmp 29) (.tmp 33) 41 rfl (w.heap.size + 1) 9 i0 (.string ByteArray.empty) 1 16 Tryd.underlying41 hi hz0 hz1 hz2 rfl (by decide) (.slice Av xs.length cv) xs.length (xs.map Value.string) rfl (HG5.out.alloc _) ⟨w5.heap.size, 0, none⟩ 2 2 [.string y, .string ⟨#[69, 118, 101]⟩] rfl rfl (two_new _ _ _ _) (by simp [Value.oneCell']) (by unfold maxLen; omega) (by omega) (by simp; omega) ?_; intro v' w9 hown' hgrow hat; obtain ⟨g', cap', rfl⟩ := ownsRow_succ (show w9.ownsRow (w.heap.size + 1) 9 1 v' (xs.length + 1 + 1) _ from hown'); have HB9 := Lib.hid (C4F.grown hgrow (fun e => by have := HNg.out bx e.symm; omega) (HB5.out.alloc _)); obtain ⟨⟨bl9, d0, d1, d2, d3⟩, df0, df1, df2, df3⟩ := HB9.out)
      | (go_simp; go_at_call 22; refine (of_any Sm _ _ 4 [⟨#[97, 110, 110, 97]⟩, ⟨#[]⟩, ⟨#[67]⟩, ⟨#[68, 32, 101]⟩] (by unfold Sm; decide) rfl (by omega) (by omega) g (Nat.ne_of_gt hc5d.lt) A n c k5 s5 _ (by omega) hn (hc5d.alloc _) (hrd.alloc HA.out hc5d.lt _) HA.out (Txt.lit rfl)).mono ?_; rintro e w5 ⟨y, hy, rfl, hl⟩; have HL5 := Lib.hid hl.alloc; have HB5 := Lib.hid (C4F.grown hl.alloc.2 (by simp <;> omega) HBd.out); have HG5 := Lib.hid (HGd.out.call hl.alloc.2 (by omega)); have hsz5 : bx + 1 ≤ w5.heap.size := Nat.le_trans hsz4 hl.alloc.2.size; obtain ⟨⟨bl5, q0, q1, q2, q3⟩, qf0, qf1, qf2, qf3⟩ := HB5.out; have qa0 : ∀ o, (w5.alloc o).cell? ⟨bx, 0, none⟩ = some (.slice Av xs.length cv) := fun o => (HB5.out.alloc o).1.2.1))
    all_goals
      have hat' : (Value.slice (some ⟨g', 0, none⟩) (xs.length + 2) cap').ownBlock ≠ some bx := fun e => by
        rcases hat with h | h
        · have h2 : (Value.slice Av xs.length cv).ownBlock = some bx := h.symm.trans e
          have := HNg.out bx h2
          omega
        · have h2 := h.symm.trans e
          simp at h2
          omega
      have HS5 := Lib.hid (St.call HS4.out.drew hk5 HL5.out)
      have HZ5 := Lib.hid (C4F.grown HL5.out.2 (by simp <;> omega) (show C4F w4.drew w.heap.size (.slice none 0 0) ⟨#[]⟩ ⟨#[]⟩ ⟨#[]⟩ from HZ4.out))
      have HS9 := Lib.hid (((HS5.out.alloc (.cells #[.string y, .string ⟨#[69, 118, 101]⟩] 9)).grow hgrow (fun j hj => by have := (HG5.out.at_least hj).2; omega)).set bx 0 (.slice (some ⟨g', 0, none⟩) (xs.length + 2) cap') (by omega))
      have HZ9 := Lib.hid ((C4F.grown hgrow (fun e => by have := (HG5.out.at_least e.symm).2; omega) (HZ5.out.alloc (.cells #[.string y, .string ⟨#[69, 118, 101]⟩] 9))).far (b := bx) (j := 0) (u := (.slice (some ⟨g', 0, none⟩) (xs.length + 2) cap')) (by omega))
      have HB10 := Lib.hid (HB9.out.set0 (.slice (some ⟨g', 0, none⟩) (xs.length + 2) cap'))
      have HG9 := Lib.hid ((Gv.snoc2 hown').kept (grown_setc w9 bx 0 (.slice (some ⟨g', 0, none⟩) (xs.length + 2) cap')) (.inr hat'))
      have HX9 := Lib.hid (show ∀ x ∈ xs ++ [y, ⟨#[69, 118, 101]⟩], Sm x from fun x hx => by
        rcases List.mem_append.1 hx with h | h
        · exact HX.out x h
        · rcases List.mem_cons.1 h with rfl | h
          · exact hy
          · rw [List.mem_singleton] at h; rw [h]; unfold Sm; decide)
      clear hown' hgrow hat hat' HB9 HB5 HG5 HL5 HS5 HZ5 bl9 d0 d1 d2 d3 df0 df1 df2 df3 bl5 q0 q1 q2 q3 qf0 qf1 qf2 qf3 qa0 hd0 ha0 bl b0 b1 b2 b3 f0 f1 f2 f3 hl
      obtain ⟨⟨zl, z0, z1, z2, z3⟩, zf0, zf1, zf2, zf3⟩ := HZ9.out
      obtain ⟨⟨bl, b0, b1, b2, b3⟩, bf0, bf1, bf2, bf3⟩ := HB10.out
      have hne : w.heap.size ≠ bx := by omega
      have hl9 : (xs ++ [y, (⟨#[69, 118, 101]⟩ : ByteArray)]).length = xs.length + 2 := by simp
      go_wp2_with fail
      exact bodyPost_ret (v := nmV (.slice (some ⟨g', 0, none⟩) (xs.length + 2) cap') p fam sf) (by simp [results, Tryd.results27, go_sem, z0, z1, z2, z3, b0, b1, b2, b3]) rfl ⟨some ⟨g', 0, none⟩, cap', xs ++ [y, ⟨#[69, 118, 101]⟩], p, fam, sf, by rw [hl9], by rw [hl9]; exact (((HG9.out.setc (by omega) 0 _).setc (by omega) 1 _).setc (by omega) 2 _).setc (by omega) 3 _, by omega, HX9.out, hp, hf, hs, (St.mono ((((HS9.out.set w.heap.size 0 _ (Nat.le_refl _)).set w.heap.size 1 _ (Nat.le_refl _)).set w.heap.size 2 _ (Nat.le_refl _)).set w.heap.size 3 _ (Nat.le_refl _)) (by omega)).left⟩
  · have h0 : ((i : Int) == 0) = false := by simp; omega
    have h1 : ((i : Int) == 1) = false := by simp; omega
    have h2 : ((i : Int) == 2) = false := by simp; omega
    have h3 : ((i : Int) == 3) = false := by simp; omega
    obtain ⟨⟨zl, z0, z1, z2, z3⟩, zf0, zf1, zf2, zf3⟩ := HZ4.out
    obtain ⟨⟨bl, b0, b1, b2, b3⟩, bf0, bf1, bf2, bf3⟩ := HB4.out
    have hne : w.heap.size ≠ bx := by omega
    go_wp2_with fail
    exact bodyPost_ret (v := nmV (.slice Av xs.length cv) p fam sf) (by simp [results, Tryd.results27, go_sem, z0, z1, z2, z3, b0, b1, b2, b3]) rfl ⟨Av, cv, xs, p, fam, sf, rfl, (((HG4.out.setc (by omega) 0 _).setc (by omega) 1 _).setc (by omega) 2 _).setc (by omega) 3 _, by omega, HX.out, hp, hf, hs, (St.mono ((((HS4.out.set w.heap.size 0 _ (Nat.le_refl _)).set w.heap.size 1 _ (Nat.le_refl _)).set w.heap.size 2 _ (Nat.le_refl _)).set w.heap.size 3 _ (Nat.le_refl _)) (by omega)).left⟩
end Go.Proofs.YtdjkgkfgnmcldaaDoor.StN
