/-
  Drawing functions of chapter 2: name. Only bounds of what is drawn are told.
-/
import Derived.Test.YtdjkgkfgnmcldaaDoorStN
import Derived.Test.YtdjkgkfgnmcldaaDoorRr
import Derived.Deep.DeepCutAuto
import Derived.Deep.RegionLaw
import Derived.IntWalk
namespace Go.Proofs.YtdjkgkfgnmcldaaDoor.StN
open Go.RowKit Pl Cur Draw0 Strs Help Name
set_option linter.unusedVariables false
set_option linter.unusedSimpArgs false

theorem infoS : (Tryd.prog.info? 9).map (fun i => (i.zero, i.size, i.bytes)) = some (some (.string ByteArray.empty), 1, 16) := by kernel_rfl
/-- small texts -/
def Sm (x : ByteArray) : Prop := x.size ≤ 16
/-- a drawn name -/
def SomeNm (w : World) (g : Nat) (A : Option Addr) (n c k m q : Nat) (e : Ending) (w' : World) : Prop :=
  ∃ A' c' xs p f s, e = .returned (nmV (.slice A' (xs : List ByteArray).length c') p f s) ∧ Gv w' (w.heap.size + 1) (.slice A' xs.length c') xs ∧ xs.length ≤ q ∧ (∀ x ∈ xs, Sm x) ∧ Sm p ∧ Sm f ∧ Sm s ∧ LeftC w g A n c k m w'
set_option maxRecDepth 100000 in
set_option maxHeartbeats 8000000 in
theorem name_any (g : Nat) (A : Option Addr) (n c k : Nat) (s : Int) (w : World) (hk : k ≤ 1040000) (hn : n ≤ 1048576) (hcur : IsCur w g A n c k s) (hr : RdB w A n) (ha : Apart A n g) :
    Calls Tryd.prog 28 #[.pointer (some ⟨g, 0, none⟩)] w (SomeNm w g A n c k 30 2) := by
  obtain ⟨i0, hi, hz0, hz1, hz2⟩ := info_parts infoS
  have hgl : g < w.heap.size := hcur.lt
  have HA := Lib.hid ha
  have HZ := Lib.hid (C4F.new w (.slice none 0 0) ⟨#[]⟩ ⟨#[]⟩ ⟨#[]⟩ 43)
  have HS1 := Lib.hid ((St.start hcur hr ha).alloc (.cells #[.slice none 0 0, .string ⟨#[]⟩, .string ⟨#[]⟩, .string ⟨#[]⟩] 43))
  have HSz : Hid ((w.alloc (.cells #[.slice none 0 0, .string ⟨#[]⟩, .string ⟨#[]⟩, .string ⟨#[]⟩] 43)).heap.size = w.heap.size + 1) := Lib.hid (by simp)
  clear hcur hr ha
  go_enter Tryd.func28, Tryd.ntmps28
  go_wp2_with fail
  generalize hW : w.alloc _ = w1 at HZ HS1 HSz ⊢
  clear hW
  obtain ⟨k1, s1, hk1, hc1⟩ := HS1.out.cur
  have HC1 := Lib.hid hc1
  have hg1 : g < w1.heap.size := hc1.lt
  clear hc1
  refine (of_any Sm _ _ 5 [⟨#[66, 101, 114, 103]⟩, ⟨#[83, 109, 105, 116, 104]⟩, ⟨#[79, 39, 78, 101, 105, 108, 108]⟩, ⟨#[76, 101, 101]⟩, ⟨#[66, 101, 114, 103, 45, 72, 97, 108, 108]⟩] (by unfold Sm; decide) rfl (by omega) (by omega) g (by omega) A n c k1 s1 _ (by omega) hn (HC1.out.alloc _) (HS1.out.rd.alloc HA.out HC1.out.lt _) HA.out (fun j x hx => by
    have := (Txt.lit (w := w1) (cs := #[.string ⟨#[66, 101, 114, 103]⟩, .string ⟨#[83, 109, 105, 116, 104]⟩, .string ⟨#[79, 39, 78, 101, 105, 108, 108]⟩, .string ⟨#[76, 101, 101]⟩, .string ⟨#[66, 101, 114, 103, 45, 72, 97, 108, 108]⟩, .string ⟨#[115, 109, 105, 116, 104, 115, 111, 110]⟩]) (t := 9) (xs := [⟨#[66, 101, 114, 103]⟩, ⟨#[83, 109, 105, 116, 104]⟩, ⟨#[79, 39, 78, 101, 105, 108, 108]⟩, ⟨#[76, 101, 101]⟩, ⟨#[66, 101, 114, 103, 45, 72, 97, 108, 108]⟩, ⟨#[115, 109, 105, 116, 104, 115, 111, 110]⟩]) rfl) j x (by
      have hj : j < 5 := (List.getElem?_eq_some_iff.1 hx).1
      rw [← hx]
      match j, hj with
      | 0, _ => rfl
      | 1, _ => rfl
      | 2, _ => rfl
      | 3, _ => rfl
      | 4, _ => rfl)
    rw [HSz.out] at this
    exact this)).mono ?_
  rintro e w2 ⟨fam, hfam, rfl, hl⟩
  have HS2 := Lib.hid (HS1.out.call hk1 hl.alloc)
  have HZ2 := Lib.hid (C4F.grown hl.alloc.2 (by simp; omega) HZ.out)
  have hle2 : w.heap.size + 1 ≤ w2.heap.size := by have h1 := hl.alloc.2.size; have h2 := HSz.out; omega
  clear hl HC1 HS1 HZ HSz hg1
  have HB3 := Lib.hid (C4F.new w2 (.slice none 0 0) ⟨#[]⟩ fam ⟨#[]⟩ 43)
  have HS3 := Lib.hid (HS2.out.alloc (.cells #[.slice none 0 0, .string ⟨#[]⟩, .string fam, .string ⟨#[]⟩] 43))
  have HZ3 := Lib.hid (HZ2.out.alloc (.cells #[.slice none 0 0, .string ⟨#[]⟩, .string fam, .string ⟨#[]⟩] 43))
  have hsz3 : (w2.alloc (.cells #[.slice none 0 0, .string ⟨#[]⟩, .string fam, .string ⟨#[]⟩] 43)).heap.size = w2.heap.size + 1 := by simp
  clear HS2 HZ2
  go_wp2_with fail
  generalize hW : w2.alloc _ = w3 at HB3 HS3 HZ3 hsz3 ⊢
  clear hW
  generalize hb : w2.heap.size = bx at *
  clear hb
  obtain ⟨k3, s3, hk3, hc3⟩ := HS3.out.cur
  refine (pick_any 3 (by omega) (by omega) g A n c k3 s3 _ (by omega) hn hc3 HS3.out.rd HA.out).mono ?_
  rintro e w4 ⟨r, rfl, hr0, hr1, hl⟩
  have HS4 := Lib.hid (HS3.out.call hk3 hl)
  have HZ4 := Lib.hid (C4F.grown hl.2 (by simp; omega) HZ3.out)
  have HB4 := Lib.hid (C4F.grown hl.2 (by simp; omega) HB3.out)
  have hsz4 : bx + 1 ≤ w4.heap.size := by have := hl.2.size; omega
  clear hl hc3 HS3 HZ3 HB3
  obtain ⟨i, rfl⟩ := Int.eq_ofNat_of_zero_le hr0
  go_wp2_with fail
  go_loopw [4] (fun vi wr => ∃ (i km : Nat) (v : Value) (xs : List ByteArray), i ≤ 2 ∧ vi = .int .i64 i ∧ xs.length + i ≤ 2 ∧ km + 2 * i ≤ 10 ∧ Hid (St w g A n c k km wr) ∧ Hid (C4F wr w.heap.size (.slice none 0 0) ⟨#[]⟩ ⟨#[]⟩ ⟨#[]⟩) ∧ Hid (C4F wr bx v ⟨#[]⟩ fam ⟨#[]⟩) ∧ Hid (Gv wr (bx + 1) v xs) ∧ Hid (∀ x ∈ xs, Sm x) ∧ bx + 1 ≤ wr.heap.size) (fun vi _ => (intOf vi).toNat)
  case atStart => exact ⟨i, _, _, [], by omega, rfl, by simp; omega, by omega, HS4, HZ4, HB4, Lib.hid (Gv.nil _ _), Lib.hid (by simp), hsz4⟩
  case round =>
    obtain ⟨i, km, v, xs, hi2, rfl, hxi, hkm, HS, HZ, HB, HG, HX, hsz⟩ := hrel
    by_cases h0 : 0 < i
    · obtain ⟨⟨bl, b0, b1, b2, b3⟩, f0, f1, f2, f3⟩ := HB.out
      obtain ⟨k5, s5, hk5, hc5⟩ := HS.out.cur
      have hdi : decide (0 < i) = true := by simpa using h0
      have hbl := hsz
      have hc5d : IsCur wr.drew g A n c k5 s5 := hc5
      have hrd : RdB wr.drew A n := HS.out.rd
      have HBd : Hid (C4F wr.drew bx v ⟨#[]⟩ fam ⟨#[]⟩) := Lib.hid HB.out
      have HGd : Hid (Gv wr.drew (bx + 1) v xs) := Lib.hid HG.out
      have hxl : xs.length ≤ 2 := by omega
      have hd0 : wr.drew.cell? ⟨bx, 0, none⟩ = some v := b0
      have ha0 : ∀ o, (wr.drew.alloc o).cell? ⟨bx, 0, none⟩ = some v := fun o => (HBd.out.alloc o).1.2.1
      go_upto_region 5 with fail
      go_region_law (first
        | (refine Rr.step_append_own rfl (.tmp 17) (.tmp 21) 41 rfl (bx + 1) 9 i0 (.string ByteArray.empty) 1 16 Tryd.underlying41 hi hz0 hz1 hz2 rfl (by decide) v xs.length (xs.map Value.string) rfl (HG5.out.alloc _) ⟨w5.heap.size, 0, none⟩ 1 1 [.string y] rfl rfl (cell_one_new _ _ _) (by simp [Value.oneCell']) (by unfold maxLen; omega) (by omega) (by simp; omega) ?_; intro v' w9 hown' hgrow hat; obtain ⟨g', cap', rfl⟩ := ownsRow_succ hown'; have HB9 := Lib.hid (C4F.grown hgrow (fun e => by have := (HG5.out.at_least e.symm).2; omega) (HB5.out.alloc _)); obtain ⟨⟨bl9, d0, d1, d2, d3⟩, df0, df1, df2, df3⟩ := HB9.out)
        | (go_simp; go_at_call 22; refine (of_any Sm _ _ 7 [⟨#[65, 110, 110, 97]⟩, ⟨#[65]⟩, ⟨#[74, 101, 97, 110, 45, 80, 97, 117, 108]⟩, ⟨#[77, 97, 114, 105, 97]⟩, ⟨#[66]⟩, ⟨#[66, 101, 110]⟩, ⟨#[74, 101, 97, 110, 45, 112, 97, 117, 108]⟩] (by unfold Sm; decide) rfl (by omega) (by omega) g (Nat.ne_of_gt hc5d.lt) A n c k5 s5 _ (by omega) hn (hc5d.alloc _) (hrd.alloc HA.out hc5d.lt _) HA.out (Txt.lit rfl)).mono ?_; rintro e w5 ⟨y, hy, rfl, hl⟩; have HL5 := Lib.hid hl.alloc; have HB5 := Lib.hid (C4F.grown hl.alloc.2 (by simp <;> omega) HBd.out); have HG5 := Lib.hid (HGd.out.kept hl.alloc.2 (by first | exact .inr (fun e => by have := (HGd.out.at_least e).2; omega))); have hsz5 : bx + 1 ≤ w5.heap.size := Nat.le_trans hbl hl.alloc.2.size; obtain ⟨⟨bl5, q0, q1, q2, q3⟩, qf0, qf1, qf2, qf3⟩ := HB5.out; have qa0 : ∀ o, (w5.alloc o).cell? ⟨bx, 0, none⟩ = some v := fun o => (HB5.out.alloc o).1.2.1))
      all_goals
        have HS5 := Lib.hid (St.call HS.out.drew hk5 HL5.out)
        have HZ5 := Lib.hid (C4F.grown HL5.out.2 (by simp <;> omega) (show C4F wr.drew w.heap.size (.slice none 0 0) ⟨#[]⟩ ⟨#[]⟩ ⟨#[]⟩ from HZ.out))
        have HS9 := Lib.hid (((HS5.out.alloc (.cells #[.string y] 9)).grow hgrow (fun j hj => by have := (HG5.out.at_least hj).2; omega)).set bx 0 (.slice (some ⟨g', 0, none⟩) (xs.length + 1) cap') (by omega))
        have HZ9 := Lib.hid ((C4F.grown hgrow (fun e => by have := (HG5.out.at_least e.symm).2; omega) (HZ5.out.alloc (.cells #[.string y] 9))).far (b := bx) (j := 0) (u := .slice (some ⟨g', 0, none⟩) (xs.length + 1) cap') (by omega))
        have HB10 := Lib.hid (HB9.out.set0 (.slice (some ⟨g', 0, none⟩) (xs.length + 1) cap'))
        have HG9 := Lib.hid ((Gv.snoc hown').setc (b := bx) (by omega) 0 (.slice (some ⟨g', 0, none⟩) (xs.length + 1) cap'))
        have hsz9 : bx + 1 ≤ (w9.setCell ⟨bx, 0, none⟩ (.slice (some ⟨g', 0, none⟩) (xs.length + 1) cap')).heap.size := by
          have h1 := hgrow.size
          have h2 : w5.heap.size ≤ (w5.alloc (.cells #[.string y] 9)).heap.size := by simp
          simp [World.setCell]
          omega
        have HX9 := Lib.hid (show ∀ x ∈ xs ++ [y], Sm x from fun x hx => by
          rcases List.mem_append.1 hx with h | h
          · exact HX.out x h
          · rw [List.mem_singleton] at h; rw [h]; exact hy)
        have hw1 : IntKind.i64.wrap ((i : Int) - 1) = ((i - 1 : Nat) : Int) := by rw [show (i : Int) - 1 = ((i - 1 : Nat) : Int) by omega]; exact IntWalk.i64_in _ (by omega)
        clear hown' hgrow hat HB9 HB5 HG5 HL5 HS5 HZ5 bl9 d0 d1 d2 d3 df0 df1 df2 df3 bl5 q0 q1 q2 q3 qf0 qf1 qf2 qf3 qa0 hd0 ha0 bl b0 b1 b2 b3 f0 f1 f2 f3 hl
        go_wp2_with fail
        go_roundw
        case rel => exact ⟨i - 1, km + 2, _, xs ++ [y], by omega, rfl, by rw [List.length_append]; simp; omega, by omega, HS9, HZ9, HB10, HG9, HX9, hsz9⟩
        case measure => simp [intOf]; omega
    · obtain rfl : i = 0 := by omega
      obtain ⟨Av, cv, rfl, hcv⟩ := HG.out.form
      have HS20 := HS
      have HZ20 := HZ
      have HB20 := HB
      have HG20 := HG
      clear HS HZ HB HG
      obtain ⟨k20, s20, hk20, hc20⟩ := HS20.out.cur
      go_wp2_with fail
      refine (one_any 3 (by omega) (by omega) g A n c k20 s20 _ (by omega) hn hc20 HS20.out.rd HA.out).mono ?_
      rintro e w21 ⟨q21, rfl, hl⟩
      have HS21 := Lib.hid (HS20.out.call hk20 hl)
      have HZ21 := Lib.hid (C4F.grown hl.2 (by simp <;> omega) HZ20.out)
      have HB21 := Lib.hid (C4F.grown hl.2 (by simp <;> omega) HB20.out)
      have HG21 := Lib.hid (HG20.out.call hl.2 (by omega))
      clear hl hc20 HS20 HZ20 HB20 HG20
      cases q21 with
      | true =>
        obtain ⟨k21, s21, hk21, hc21⟩ := HS21.out.cur
        go_wp2_with fail
        refine (of_any Sm _ _ 3 [⟨#[118, 97, 110]⟩, ⟨#[100, 101]⟩, ⟨#[118, 97, 110, 32, 100, 101, 114]⟩] (by unfold Sm; decide) rfl (by omega) (by omega) g (Nat.ne_of_gt hc21.lt) A n c k21 s21 _ (by omega) hn (hc21.alloc _) (HS21.out.rd.alloc HA.out hc21.lt _) HA.out (Txt.lit rfl)).mono ?_
        rintro e w22 ⟨par, hpar, rfl, hl⟩
        have HS22 := Lib.hid (HS21.out.call hk21 hl.alloc)
        have HZ22 := Lib.hid (C4F.grown hl.alloc.2 (by simp <;> omega) HZ21.out)
        have HB22 := Lib.hid (C4F.grown hl.alloc.2 (by simp <;> omega) HB21.out)
        have HG22 := Lib.hid (HG21.out.call hl.alloc.2 (by omega))
        clear hl hc21 HS21 HZ21 HB21 HG21
        obtain ⟨⟨bl, b0, b1, b2, b3⟩, bf0, bf1, bf2, bf3⟩ := HB22.out
        have HS23 := Lib.hid (HS22.out.set bx 1 (.string par) (by omega))
        have HZ23 := Lib.hid (HZ22.out.far (b := bx) (j := 1) (u := .string par) (by omega))
        have HB23 := Lib.hid (HB22.out.set1 par)
        have HG23 := Lib.hid (HG22.out.setc (b := bx) (by omega) 1 (.string par))
        clear HS22 HZ22 HB22 HG22
        go_upto_region 8 with fail
        generalize hW : w22.setCell _ _ = w23 at HS23 HZ23 HB23 HG23 ⊢
        clear hW bl b0 b1 b2 b3 bf0 bf1 bf2 bf3
        obtain ⟨k23, s23, hk23, hc23⟩ := HS23.out.cur
        go_wp2_with fail
        refine (one_any 5 (by omega) (by omega) g A n c k23 s23 _ (by omega) hn hc23 HS23.out.rd HA.out).mono ?_
        rintro e w24 ⟨q24, rfl, hl⟩
        have HS24 := Lib.hid (HS23.out.call hk23 hl)
        have HZ24 := Lib.hid (C4F.grown hl.2 (by simp <;> omega) HZ23.out)
        have HB24 := Lib.hid (C4F.grown hl.2 (by simp <;> omega) HB23.out)
        have HG24 := Lib.hid (HG23.out.call hl.2 (by omega))
        clear hl hc23 HS23 HZ23 HB23 HG23
        cases q24 with
        | true =>
          obtain ⟨k24, s24, hk24, hc24⟩ := HS24.out.cur
          go_wp2_with fail
          refine (of_any Sm _ _ 3 [⟨#[74, 114]⟩, ⟨#[73, 73, 73]⟩, ⟨#[106, 114]⟩] (by unfold Sm; decide) rfl (by omega) (by omega) g (Nat.ne_of_gt hc24.lt) A n c k24 s24 _ (by omega) hn (hc24.alloc _) (HS24.out.rd.alloc HA.out hc24.lt _) HA.out (Txt.lit rfl)).mono ?_
          rintro e w25 ⟨suf, hsuf, rfl, hl⟩
          have HS25 := Lib.hid (HS24.out.call hk24 hl.alloc)
          have HZ25 := Lib.hid (C4F.grown hl.alloc.2 (by simp <;> omega) HZ24.out)
          have HB25 := Lib.hid (C4F.grown hl.alloc.2 (by simp <;> omega) HB24.out)
          have HG25 := Lib.hid (HG24.out.call hl.alloc.2 (by omega))
          clear hl hc24 HS24 HZ24 HB24 HG24
          obtain ⟨⟨bl, b0, b1, b2, b3⟩, bf0, bf1, bf2, bf3⟩ := HB25.out
          have HS26 := Lib.hid (HS25.out.set bx 3 (.string suf) (by omega))
          have HZ26 := Lib.hid (HZ25.out.far (b := bx) (j := 3) (u := .string suf) (by omega))
          have HB26 := Lib.hid (HB25.out.set3 suf)
          have HG26 := Lib.hid (HG25.out.setc (b := bx) (by omega) 3 (.string suf))
          clear HS25 HZ25 HB25 HG25
          go_upto_region 10 with fail
          generalize hW : w25.setCell _ _ = w26 at HS26 HZ26 HB26 HG26 ⊢
          clear hW bl b0 b1 b2 b3 bf0 bf1 bf2 bf3
          obtain ⟨⟨zl, z0, z1, z2, z3⟩, zf0, zf1, zf2, zf3⟩ := HZ26.out
          obtain ⟨⟨bl, b0, b1, b2, b3⟩, bf0, bf1, bf2, bf3⟩ := HB26.out
          have hne : w.heap.size ≠ bx := by omega
          go_wp2_with fail
          exact bodyPost_ret (v := nmV (.slice Av xs.length cv) par fam suf) (by simp [results, Tryd.results28, go_sem, z0, z1, z2, z3, b0, b1, b2, b3]) rfl ⟨Av, cv, xs, par, fam, suf, rfl, ((((HG26.out.base (show w.heap.size + 1 ≤ bx + 1 by omega)).setc (by omega) 0 _).setc (by omega) 1 _).setc (by omega) 2 _).setc (by omega) 3 _, by omega, HX.out, hpar, hfam, hsuf, (St.mono ((((HS26.out.set w.heap.size 0 _ (Nat.le_refl _)).set w.heap.size 1 _ (Nat.le_refl _)).set w.heap.size 2 _ (Nat.le_refl _)).set w.heap.size 3 _ (Nat.le_refl _)) (by omega)).left⟩
        | false =>
          obtain ⟨⟨zl, z0, z1, z2, z3⟩, zf0, zf1, zf2, zf3⟩ := HZ24.out
          obtain ⟨⟨bl, b0, b1, b2, b3⟩, bf0, bf1, bf2, bf3⟩ := HB24.out
          have hne : w.heap.size ≠ bx := by omega
          go_wp2_with fail
          exact bodyPost_ret (v := nmV (.slice Av xs.length cv) par fam ⟨#[]⟩) (by simp [results, Tryd.results28, go_sem, z0, z1, z2, z3, b0, b1, b2, b3]) rfl ⟨Av, cv, xs, par, fam, ⟨#[]⟩, rfl, ((((HG24.out.base (show w.heap.size + 1 ≤ bx + 1 by omega)).setc (by omega) 0 _).setc (by omega) 1 _).setc (by omega) 2 _).setc (by omega) 3 _, by omega, HX.out, hpar, hfam, (by unfold Sm; decide), (St.mono ((((HS24.out.set w.heap.size 0 _ (Nat.le_refl _)).set w.heap.size 1 _ (Nat.le_refl _)).set w.heap.size 2 _ (Nat.le_refl _)).set w.heap.size 3 _ (Nat.le_refl _)) (by omega)).left⟩
      | false =>
        obtain ⟨k21, s21, hk21, hc21⟩ := HS21.out.cur
        go_wp2_with fail
        refine (one_any 5 (by omega) (by omega) g A n c k21 s21 _ (by omega) hn hc21 HS21.out.rd HA.out).mono ?_
        rintro e w22 ⟨q22, rfl, hl⟩
        have HS22 := Lib.hid (HS21.out.call hk21 hl)
        have HZ22 := Lib.hid (C4F.grown hl.2 (by simp <;> omega) HZ21.out)
        have HB22 := Lib.hid (C4F.grown hl.2 (by simp <;> omega) HB21.out)
        have HG22 := Lib.hid (HG21.out.call hl.2 (by omega))
        clear hl hc21 HS21 HZ21 HB21 HG21
        cases q22 with
        | true =>
          obtain ⟨k22, s22, hk22, hc22⟩ := HS22.out.cur
          go_wp2_with fail
          refine (of_any Sm _ _ 3 [⟨#[74, 114]⟩, ⟨#[73, 73, 73]⟩, ⟨#[106, 114]⟩] (by unfold Sm; decide) rfl (by omega) (by omega) g (Nat.ne_of_gt hc22.lt) A n c k22 s22 _ (by omega) hn (hc22.alloc _) (HS22.out.rd.alloc HA.out hc22.lt _) HA.out (Txt.lit rfl)).mono ?_
          rintro e w23 ⟨suf, hsuf, rfl, hl⟩
          have HS23 := Lib.hid (HS22.out.call hk22 hl.alloc)
          have HZ23 := Lib.hid (C4F.grown hl.alloc.2 (by simp <;> omega) HZ22.out)
          have HB23 := Lib.hid (C4F.grown hl.alloc.2 (by simp <;> omega) HB22.out)
          have HG23 := Lib.hid (HG22.out.call hl.alloc.2 (by omega))
          clear hl hc22 HS22 HZ22 HB22 HG22
          obtain ⟨⟨bl, b0, b1, b2, b3⟩, bf0, bf1, bf2, bf3⟩ := HB23.out
          have HS24 := Lib.hid (HS23.out.set bx 3 (.string suf) (by omega))
          have HZ24 := Lib.hid (HZ23.out.far (b := bx) (j := 3) (u := .string suf) (by omega))
          have HB24 := Lib.hid (HB23.out.set3 suf)
          have HG24 := Lib.hid (HG23.out.setc (b := bx) (by omega) 3 (.string suf))
          clear HS23 HZ23 HB23 HG23
          go_upto_region 10 with fail
          generalize hW : w23.setCell _ _ = w24 at HS24 HZ24 HB24 HG24 ⊢
          clear hW bl b0 b1 b2 b3 bf0 bf1 bf2 bf3
          obtain ⟨⟨zl, z0, z1, z2, z3⟩, zf0, zf1, zf2, zf3⟩ := HZ24.out
          obtain ⟨⟨bl, b0, b1, b2, b3⟩, bf0, bf1, bf2, bf3⟩ := HB24.out
          have hne : w.heap.size ≠ bx := by omega
          go_wp2_with fail
          exact bodyPost_ret (v := nmV (.slice Av xs.length cv) ⟨#[]⟩ fam suf) (by simp [results, Tryd.results28, go_sem, z0, z1, z2, z3, b0, b1, b2, b3]) rfl ⟨Av, cv, xs, ⟨#[]⟩, fam, suf, rfl, ((((HG24.out.base (show w.heap.size + 1 ≤ bx + 1 by omega)).setc (by omega) 0 _).setc (by omega) 1 _).setc (by omega) 2 _).setc (by omega) 3 _, by omega, HX.out, (by unfold Sm; decide), hfam, hsuf, (St.mono ((((HS24.out.set w.heap.size 0 _ (Nat.le_refl _)).set w.heap.size 1 _ (Nat.le_refl _)).set w.heap.size 2 _ (Nat.le_refl _)).set w.heap.size 3 _ (Nat.le_refl _)) (by omega)).left⟩
        | false =>
          obtain ⟨⟨zl, z0, z1, z2, z3⟩, zf0, zf1, zf2, zf3⟩ := HZ22.out
          obtain ⟨⟨bl, b0, b1, b2, b3⟩, bf0, bf1, bf2, bf3⟩ := HB22.out
          have hne : w.heap.size ≠ bx := by omega
          go_wp2_with fail
          exact bodyPost_ret (v := nmV (.slice Av xs.length cv) ⟨#[]⟩ fam ⟨#[]⟩) (by simp [results, Tryd.results28, go_sem, z0, z1, z2, z3, b0, b1, b2, b3]) rfl ⟨Av, cv, xs, ⟨#[]⟩, fam, ⟨#[]⟩, rfl, ((((HG22.out.base (show w.heap.size + 1 ≤ bx + 1 by omega)).setc (by omega) 0 _).setc (by omega) 1 _).setc (by omega) 2 _).setc (by omega) 3 _, by omega, HX.out, (by unfold Sm; decide), hfam, (by unfold Sm; decide), (St.mono ((((HS22.out.set w.heap.size 0 _ (Nat.le_refl _)).set w.heap.size 1 _ (Nat.le_refl _)).set w.heap.size 2 _ (Nat.le_refl _)).set w.heap.size 3 _ (Nat.le_refl _)) (by omega)).left⟩
end Go.Proofs.YtdjkgkfgnmcldaaDoor.StN
