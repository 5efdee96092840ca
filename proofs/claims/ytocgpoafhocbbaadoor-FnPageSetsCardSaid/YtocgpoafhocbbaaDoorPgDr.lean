/-
  Drawing functions of chapter 7: pageRange.
-/
import Derived.Test.YtocgpoafhocbbaaDoorStC
import Derived.Test.YtocgpoafhocbbaaDoorAmongA
import Derived.Test.YtocgpoafhocbbaaDoorPgHr
import Derived.RegionTactic
import Derived.BigRegion
import Derived.Deep.DeepCutAuto
import Derived.Deep.RegionLaw
import Derived.IntWalk
namespace Go.Proofs.YtocgpoafhocbbaaDoor.PgDr
open Go.RowKit Pl Cur Draw0 StN PgPl Pg
set_option linter.unusedVariables false
set_option linter.unusedSimpArgs false

/-- block b holds a range and may be written -/
def R3 (W : World) (b : Nat) (l : ByteArray) (f t : Int) : Prop := (b < W.heap.size ∧ W.cell? ⟨b, 0, none⟩ = some (.string l) ∧ W.cell? ⟨b, 1, none⟩ = some (.int .i64 f) ∧ W.cell? ⟨b, 2, none⟩ = some (.int .i64 t)) ∧ W.frozen? ⟨b, 0, none⟩ = false ∧ W.frozen? ⟨b, 1, none⟩ = false ∧ W.frozen? ⟨b, 2, none⟩ = false
theorem R3.new (w : World) (l : ByteArray) (f t : Int) (ty : TypeId) : R3 (w.alloc (.cells #[.string l, .int .i64 f, .int .i64 t] ty)) w.heap.size l f t :=
  ⟨⟨by simp, by simp, by simp, by simp⟩, by simp, by simp, by simp⟩
theorem R3.grown {w w' : World} {r : Option Nat} {b : Nat} {l : ByteArray} {f t : Int} (h : w.grownBy w' r) (hne : some b ≠ r) (hd : R3 w b l f t) : R3 w' b l f t := by
  have hblk := h.block b hd.1.1 hne
  obtain ⟨⟨hl, h0, h1, h2⟩, f0, f1, f2⟩ := hd
  refine ⟨⟨Nat.lt_of_lt_of_le hl h.size, ?_, ?_, ?_⟩, ?_, ?_, ?_⟩
  all_goals (first | (simp only [World.cell?, hblk] at *; assumption) | (simp only [World.frozen?, hblk] at *; assumption))
theorem R3.alloc {w : World} {b : Nat} {l : ByteArray} {f t : Int} (hd : R3 w b l f t) (o : Obj) : R3 (w.alloc o) b l f t := hd.grown (World.grownBy_alloc w o none) (by simp)
theorem c_ne {W : World} {b i j : Nat} {v : Value} (h : i ≠ j) : (W.setCell ⟨b, i, none⟩ v).cell? ⟨b, j, none⟩ = W.cell? ⟨b, j, none⟩ := World.cell?_setCell_other W _ _ _ (fun e => h (by cases e; rfl))
theorem c_far {W : World} {b b' i j : Nat} {v : Value} (h : b ≠ b') : (W.setCell ⟨b, i, none⟩ v).cell? ⟨b', j, none⟩ = W.cell? ⟨b', j, none⟩ := World.cell?_setCell_other W _ _ _ (fun e => h (by cases e; rfl))
theorem R3.far {W : World} {b b' j : Nat} {u : Value} {l : ByteArray} {f t : Int} (hne : b ≠ b') (h : R3 W b' l f t) : R3 (W.setCell ⟨b, j, none⟩ u) b' l f t := by
  obtain ⟨⟨hl, h0, h1, h2⟩, f0, f1, f2⟩ := h
  refine ⟨⟨by simpa [World.setCell] using hl, ?_, ?_, ?_⟩, ?_, ?_, ?_⟩
  all_goals first | (rw [c_far hne]; assumption) | (rw [World.frozen?_setCell]; assumption)
theorem R3.set0 {W : World} {b : Nat} {l : ByteArray} {f t : Int} (h : R3 W b l f t) (u : ByteArray) : R3 (W.setCell ⟨b, 0, none⟩ (.string u)) b u f t := by
  obtain ⟨⟨hl, h0, h1, h2⟩, f0, f1, f2⟩ := h
  exact ⟨⟨by simpa [World.setCell] using hl, World.cell?_setCell_same _ _ _ h0, by rw [c_ne (by decide)]; exact h1, by rw [c_ne (by decide)]; exact h2⟩, by rw [World.frozen?_setCell]; exact f0, by rw [World.frozen?_setCell]; exact f1, by rw [World.frozen?_setCell]; exact f2⟩
theorem R3.set1 {W : World} {b : Nat} {l : ByteArray} {f t : Int} (h : R3 W b l f t) (u : Int) : R3 (W.setCell ⟨b, 1, none⟩ (.int .i64 u)) b l u t := by
  obtain ⟨⟨hl, h0, h1, h2⟩, f0, f1, f2⟩ := h
  exact ⟨⟨by simpa [World.setCell] using hl, by rw [c_ne (by decide)]; exact h0, World.cell?_setCell_same _ _ _ h1, by rw [c_ne (by decide)]; exact h2⟩, by rw [World.frozen?_setCell]; exact f0, by rw [World.frozen?_setCell]; exact f1, by rw [World.frozen?_setCell]; exact f2⟩
theorem R3.set2 {W : World} {b : Nat} {l : ByteArray} {f t : Int} (h : R3 W b l f t) (u : Int) : R3 (W.setCell ⟨b, 2, none⟩ (.int .i64 u)) b l f u := by
  obtain ⟨⟨hl, h0, h1, h2⟩, f0, f1, f2⟩ := h
  exact ⟨⟨by simpa [World.setCell] using hl, by rw [c_ne (by decide)]; exact h0, by rw [c_ne (by decide)]; exact h1, World.cell?_setCell_same _ _ _ h2⟩, by rw [World.frozen?_setCell]; exact f0, by rw [World.frozen?_setCell]; exact f1, by rw [World.frozen?_setCell]; exact f2⟩
/-- a drawn range -/
def SomeR (w : World) (g : Nat) (A : Option Addr) (n c k : Nat) (e : Ending) (w' : World) : Prop := ∃ (l : ByteArray) (f t : Int), e = .returned (.agg #[.string l, .int .i64 f, .int .i64 t]) ∧ LeftC w g A n c k 12 w'
set_option maxRecDepth 100000 in
set_option maxHeartbeats 8000000 in
theorem pageRange_any (g : Nat) (A : Option Addr) (n c k : Nat) (s : Int) (w : World) (hk : k ≤ 1040000) (hn : n ≤ 1048576) (hcur : IsCur w g A n c k s) (hr : RdB w A n) (ha : Apart A n g) :
    Calls Tryd.prog 36 #[.pointer (some ⟨g, 0, none⟩)] w (SomeR w g A n c k) := by
  have hgl : g < w.heap.size := hcur.lt
  have HA := Lib.hid ha
  have HS0 := Lib.hid ((St.start hcur hr ha).alloc (.cells #[.string ⟨#[]⟩, .int .i64 0, .int .i64 0] 34))
  have HZ0 := Lib.hid (R3.new w ⟨#[]⟩ 0 0 34)
  clear hcur hr ha
  go_enter Tryd.func36, Tryd.ntmps36
  go_upto_region 1 with fail
  generalize w.alloc (.cells #[.string ⟨#[]⟩, .int .i64 0, .int .i64 0] 34) = w0 at *
  obtain ⟨k1, s1, hk1, hc1⟩ := HS0.out.cur
  have HC1 := Lib.hid hc1
  clear hc1
  go_wp2_with fail
  refine (of_any (fun _ => True) _ _ 5 [⟨#[]⟩, ⟨#[]⟩, ⟨#[]⟩, ⟨#[65]⟩, ⟨#[66]⟩] (by simp) rfl (by omega) (by omega) g (Nat.ne_of_gt HC1.out.lt) A n c k1 s1 _ (by omega) hn (HC1.out.alloc _) (HS0.out.rd.alloc HA.out HC1.out.lt _) HA.out (Txt.lit rfl)).mono ?_
  rintro e w1 ⟨l, -, rfl, hl⟩
  have HS1 := Lib.hid (HS0.out.call hk1 hl.alloc)
  have HZ1 := Lib.hid (R3.grown hl.alloc.2 (by simp <;> omega) HZ0.out)
  clear hl HC1 HS0 HZ0
  obtain ⟨k2, s2, hk2, hc2⟩ := HS1.out.cur
  have HC2 := Lib.hid hc2
  clear hc2
  go_wp2_with fail
  refine (Among.among_in _ _ 8 [1, 5, 12, 99, 100, 321, 1234, 99990] rfl (by omega) (by omega) g (Nat.ne_of_gt HC2.out.lt) A n c k2 s2 _ (by omega) hn (HC2.out.alloc _) (HS1.out.rd.alloc HA.out HC2.out.lt _) HA.out (Among.Its.lit rfl)).mono ?_
  rintro e w2 ⟨f, -, rfl, hl⟩
  have HS2 := Lib.hid (HS1.out.call hk2 hl.alloc)
  have HZ2 := Lib.hid (R3.grown hl.alloc.2 (by simp <;> omega) HZ1.out)
  have hz2 : w.heap.size < w2.heap.size := HZ2.out.1.1
  clear hl HC2 HS1 HZ1
  go_upto_region 2 with fail
  have HB3 := Lib.hid (R3.new w2 l f 0 34)
  have HS3 := Lib.hid (HS2.out.alloc (.cells #[.string l, .int .i64 f, .int .i64 0] 34))
  have HZ3 := Lib.hid (HZ2.out.alloc (.cells #[.string l, .int .i64 f, .int .i64 0] 34))
  clear HS2 HZ2
  generalize w2.alloc (.cells #[.string l, .int .i64 f, .int .i64 0] 34) = w3 at *
  generalize w2.heap.size = bx at *
  have HS3 := Lib.hid HS3.out.drew
  have HZ3 : Hid (R3 w3.drew w.heap.size ⟨#[]⟩ 0 0) := HZ3
  have HB3 : Hid (R3 w3.drew bx l f 0) := HB3
  obtain ⟨k3, s3, hk3, hc3⟩ := HS3.out.cur
  have HC3 := Lib.hid hc3
  clear hc3
  obtain ⟨⟨bl3, b0, b1, b2⟩, bf0, bf1, bf2⟩ := HB3.out
  have b1' : w3.cell? ⟨bx, 1, none⟩ = some (.int .i64 f) := b1
  have qa1' : ∀ o, (w3.alloc o).cell? ⟨bx, 1, none⟩ = some (.int .i64 f) := fun o => (R3.alloc (w := w3) HB3.out o).1.2.2.1
  have qa1 : ∀ o, (w3.drew.alloc o).cell? ⟨bx, 1, none⟩ = some (.int .i64 f) := fun o => (HB3.out.alloc o).1.2.2.1
  go_region_with (first
    | (go_at_call 48; (refine (Among.among_in _ _ 7 [0, 0, 1, 3, 7, 20, 900] rfl (by omega) (by omega) g (Nat.ne_of_gt HC3.out.lt) A n c k3 s3 _ (by omega) hn (HC3.out.alloc _) (HS3.out.rd.alloc HA.out HC3.out.lt _) HA.out (Among.Its.lit rfl)).mono ?_); rintro e w4 ⟨d, -, rfl, hl⟩; have HS4 := Lib.hid (HS3.out.call hk3 hl.alloc); have HZ4 := Lib.hid (R3.grown hl.alloc.2 (by simp <;> omega) HZ3.out); have HB4 := Lib.hid (R3.grown hl.alloc.2 (by simp <;> omega) HB3.out); obtain ⟨⟨bl4, p0, p1, p2⟩, pf0, pf1, pf2⟩ := HB4.out; clear hl)
    | fail)
  all_goals
    have HB5 := Lib.hid (HB4.out.set2 (IntKind.i64.wrap (f + d)))
    have HS5 := Lib.hid (HS4.out.set bx 2 (.int .i64 (IntKind.i64.wrap (f + d))) (by omega))
    have HZ5 := Lib.hid (HZ4.out.far (b := bx) (j := 2) (u := .int .i64 (IntKind.i64.wrap (f + d))) (by omega))
    clear HS3 HZ3 HB3 HC3 HS4 HZ4 HB4 b0 b1 b2 bf0 bf1 bf2 qa1 qa1' b1' p0 p1 p2 pf0 pf1 pf2
    generalize w4.setCell ⟨bx, 2, none⟩ (.int .i64 (IntKind.i64.wrap (f + d))) = w5 at *
    generalize IntKind.i64.wrap (f + d) = t at *
    obtain ⟨k5, s5, hk5, hc5⟩ := HS5.out.cur
    have HC5 := Lib.hid hc5
    clear hc5
    go_wp2_with fail
    refine (pick_any 50 (by omega) (by omega) g A n c k5 s5 _ (by omega) hn HC5.out HS5.out.rd HA.out).mono ?_
    rintro e w6 ⟨r, rfl, hr0, hr1, hl⟩
    have HS6 := Lib.hid (HS5.out.call hk5 hl)
    have HZ6 := Lib.hid (R3.grown hl.2 (by simp <;> omega) HZ5.out)
    have HB6 := Lib.hid (R3.grown hl.2 (by simp <;> omega) HB5.out)
    clear hl HC5 HS5 HZ5 HB5
    obtain ⟨k6, s6, hk6, hc6⟩ := HS6.out.cur
    have HC6 := Lib.hid hc6
    clear hc6
    rcases (show r = 0 ∨ r = 1 ∨ r = 2 ∨ (r ≠ 0 ∧ r ≠ 1 ∧ r ≠ 2) by omega) with h | h | h | ⟨h, h', h''⟩
    · subst h
      go_wp2_with fail
      refine (of_any (fun _ => True) _ _ 4 [⟨#[97]⟩, ⟨#[65, 66]⟩, ⟨#[49]⟩, ⟨#[90]⟩] (by simp) rfl (by omega) (by omega) g (Nat.ne_of_gt HC6.out.lt) A n c k6 s6 _ (by omega) hn (HC6.out.alloc _) (HS6.out.rd.alloc HA.out HC6.out.lt _) HA.out (Txt.lit rfl)).mono ?_
      rintro e w7 ⟨l2, -, rfl, hl⟩
      have HS7 := Lib.hid (HS6.out.call hk6 hl.alloc)
      have HZ7 := Lib.hid (R3.grown hl.alloc.2 (by simp <;> omega) HZ6.out)
      have HB7 := Lib.hid (R3.grown hl.alloc.2 (by simp <;> omega) HB6.out)
      have HS9 := Lib.hid (HS7.out.set bx 0 (.string l2) (by omega))
      have HZ9 := Lib.hid (HZ7.out.far (b := bx) (j := 0) (u := .string l2) (by omega))
      have HB9 := Lib.hid (HB7.out.set0 l2)
      obtain ⟨⟨bl, b0, b1, b2⟩, bf0, bf1, bf2⟩ := HB7.out
      clear hl HC6 HS6 HZ6 HB6 HS7 HZ7 HB7
      go_upto_region 10 with fail
      generalize w7.setCell ⟨bx, 0, none⟩ (.string l2) = w9 at *
      clear bl b0 b1 b2 bf0 bf1 bf2
      obtain ⟨⟨zl, z0, z1, z2⟩, zf0, zf1, zf2⟩ := HZ9.out
      obtain ⟨⟨bl, b0, b1, b2⟩, bf0, bf1, bf2⟩ := HB9.out
      have hne : w.heap.size ≠ bx := by omega
      go_wp2_with fail
      exact bodyPost_ret (v := .agg #[.string l2, .int .i64 f, .int .i64 t]) (by simp [results, Tryd.results36, go_sem, z0, z1, z2, b0, b1, b2]) rfl ⟨l2, f, t, rfl, (St.mono (((HS9.out.set w.heap.size 0 _ (Nat.le_refl _)).set w.heap.size 1 _ (Nat.le_refl _)).set w.heap.size 2 _ (Nat.le_refl _)) (by omega)).left⟩
    · subst h
      go_wp2_with fail
      refine (Among.among_in _ _ 2 [0, -1] rfl (by omega) (by omega) g (Nat.ne_of_gt HC6.out.lt) A n c k6 s6 _ (by omega) hn (HC6.out.alloc _) (HS6.out.rd.alloc HA.out HC6.out.lt _) HA.out (Among.Its.lit rfl)).mono ?_
      rintro e w7 ⟨f2, -, rfl, hl⟩
      have HS7 := Lib.hid (HS6.out.call hk6 hl.alloc)
      have HZ7 := Lib.hid (R3.grown hl.alloc.2 (by simp <;> omega) HZ6.out)
      have HB7 := Lib.hid (R3.grown hl.alloc.2 (by simp <;> omega) HB6.out)
      have HS9 := Lib.hid (HS7.out.set bx 1 (.int .i64 f2) (by omega))
      have HZ9 := Lib.hid (HZ7.out.far (b := bx) (j := 1) (u := .int .i64 f2) (by omega))
      have HB9 := Lib.hid (HB7.out.set1 f2)
      obtain ⟨⟨bl, b0, b1, b2⟩, bf0, bf1, bf2⟩ := HB7.out
      clear hl HC6 HS6 HZ6 HB6 HS7 HZ7 HB7
      go_upto_region 10 with fail
      generalize w7.setCell ⟨bx, 1, none⟩ (.int .i64 f2) = w9 at *
      clear bl b0 b1 b2 bf0 bf1 bf2
      obtain ⟨⟨zl, z0, z1, z2⟩, zf0, zf1, zf2⟩ := HZ9.out
      obtain ⟨⟨bl, b0, b1, b2⟩, bf0, bf1, bf2⟩ := HB9.out
      have hne : w.heap.size ≠ bx := by omega
      go_wp2_with fail
      exact bodyPost_ret (v := .agg #[.string l, .int .i64 f2, .int .i64 t]) (by simp [results, Tryd.results36, go_sem, z0, z1, z2, b0, b1, b2]) rfl ⟨l, f2, t, rfl, (St.mono (((HS9.out.set w.heap.size 0 _ (Nat.le_refl _)).set w.heap.size 1 _ (Nat.le_refl _)).set w.heap.size 2 _ (Nat.le_refl _)) (by omega)).left⟩
    · subst h
      obtain ⟨⟨bl, b0, b1, b2⟩, bf0, bf1, bf2⟩ := HB6.out
      obtain ⟨m, hm⟩ : ∃ m, IntKind.i64.wrap (f - 1) = m := ⟨_, rfl⟩
      go_wp2_with fail
      refine (Among.among_in _ _ 3 [m, 99999, 100000] rfl (by omega) (by omega) g (Nat.ne_of_gt HC6.out.lt) A n c k6 s6 _ (by omega) hn (HC6.out.alloc _) (HS6.out.rd.alloc HA.out HC6.out.lt _) HA.out (Among.Its.lit rfl)).mono ?_
      rintro e w7 ⟨t2, -, rfl, hl⟩
      clear bl b0 b1 b2 bf0 bf1 bf2
      have HS7 := Lib.hid (HS6.out.call hk6 hl.alloc)
      have HZ7 := Lib.hid (R3.grown hl.alloc.2 (by simp <;> omega) HZ6.out)
      have HB7 := Lib.hid (R3.grown hl.alloc.2 (by simp <;> omega) HB6.out)
      have HS9 := Lib.hid (HS7.out.set bx 2 (.int .i64 t2) (by omega))
      have HZ9 := Lib.hid (HZ7.out.far (b := bx) (j := 2) (u := .int .i64 t2) (by omega))
      have HB9 := Lib.hid (HB7.out.set2 t2)
      obtain ⟨⟨bl, b0, b1, b2⟩, bf0, bf1, bf2⟩ := HB7.out
      clear hl HC6 HS6 HZ6 HB6 HS7 HZ7 HB7
      go_upto_region 10 with fail
      generalize w7.setCell ⟨bx, 2, none⟩ (.int .i64 t2) = w9 at *
      clear bl b0 b1 b2 bf0 bf1 bf2
      obtain ⟨⟨zl, z0, z1, z2⟩, zf0, zf1, zf2⟩ := HZ9.out
      obtain ⟨⟨bl, b0, b1, b2⟩, bf0, bf1, bf2⟩ := HB9.out
      have hne : w.heap.size ≠ bx := by omega
      go_wp2_with fail
      exact bodyPost_ret (v := .agg #[.string l, .int .i64 f, .int .i64 t2]) (by simp [results, Tryd.results36, go_sem, z0, z1, z2, b0, b1, b2]) rfl ⟨l, f, t2, rfl, (St.mono (((HS9.out.set w.heap.size 0 _ (Nat.le_refl _)).set w.heap.size 1 _ (Nat.le_refl _)).set w.heap.size 2 _ (Nat.le_refl _)) (by omega)).left⟩
    · have e0 : (r == 0) = false := by simpa using h
      have e1 : (r == 1) = false := by simpa using h'
      have e2 : (r == 2) = false := by simpa using h''
      have HS9 := HS6
      have HZ9 := HZ6
      have HB9 := HB6
      clear HC6 HS6 HZ6 HB6
      go_upto_region 10 with fail
      obtain ⟨⟨zl, z0, z1, z2⟩, zf0, zf1, zf2⟩ := HZ9.out
      obtain ⟨⟨bl, b0, b1, b2⟩, bf0, bf1, bf2⟩ := HB9.out
      have hne : w.heap.size ≠ bx := by omega
      go_wp2_with fail
      exact bodyPost_ret (v := .agg #[.string l, .int .i64 f, .int .i64 t]) (by simp [results, Tryd.results36, go_sem, z0, z1, z2, b0, b1, b2]) rfl ⟨l, f, t, rfl, (St.mono (((HS9.out.set w.heap.size 0 _ (Nat.le_refl _)).set w.heap.size 1 _ (Nat.le_refl _)).set w.heap.size 2 _ (Nat.le_refl _)) (by omega)).left⟩
end Go.Proofs.YtocgpoafhocbbaaDoor.PgDr
