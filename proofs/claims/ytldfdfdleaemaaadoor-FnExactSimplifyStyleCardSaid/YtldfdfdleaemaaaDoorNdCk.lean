/-
  KindWord of the program; ChooseKind of the program.
-/
import Derived.Test.YtldfdfdleaemaaaDoorNdCn
namespace Go.Proofs.YtldfdfdleaemaaaDoor.Nd
open Go.RowKit NdPl Ns LaidS
set_option linter.unusedSimpArgs false
set_option linter.unusedVariables false

/-- the word of a kind -/
def kwB (k : Nat) : ByteArray := Pl.ba (kdw.getD (k - 1) [])
/-- what KindWord answers -/
def kwS (z : Int) : ByteArray := if 1 ≤ z ∧ z ≤ 4 then kwB z.toNat else ⟨#[]⟩
theorem isKind (z : Int) (r : Bool) (w : World) (hr : decide (1 ≤ z ∧ z ≤ 4) = r) : Calls Tryd.prog 51 #[.int .i64 z] w fun e w' => e = .returned (.bool r) ∧ w = w' := by
  subst hr
  by_cases h1 : 1 ≤ z
  · have HE : Hid (decide (1 ≤ z ∧ z ≤ 4) = decide (z ≤ 4)) := Lib.hid (by simp [h1])
    have hd : decide (1 ≤ z) = true := by simpa using h1
    go_enter Tryd.func51, Tryd.ntmps51
    go_wp2_with fail
    go_ret
    exact ⟨by rw [HE.out]; rfl, rfl⟩
  · have HE : Hid (decide (1 ≤ z ∧ z ≤ 4) = false) := Lib.hid (by simp [h1])
    have hd : decide (1 ≤ z) = false := by simpa using h1
    rw [HE.out]
    clear HE
    go_enter Tryd.func51, Tryd.ntmps51
    go_wp2_with fail
    go_ret
    exact ⟨rfl, rfl⟩
set_option maxHeartbeats 1000000 in
theorem kindWord_i (z : Int) (w : World) (ht : StrTab 0 kdw w) : Calls Tryd.prog 33 #[.int .i64 z] w fun e w' => e = .returned (.tuple #[.string (kwS z), .bool (decide (1 ≤ z ∧ z ≤ 4))]) ∧ w = w' := by
  by_cases h : 1 ≤ z ∧ z ≤ 4
  · have HE : Hid (kwS z = kwB z.toNat) := Lib.hid (if_pos h)
    have HD : Hid (decide (1 ≤ z ∧ z ≤ 4) = true) := Lib.hid (decide_eq_true h)
    have HI := Lib.hid (isKind z true w (decide_eq_true h))
    rw [HE.out, HD.out]
    obtain ⟨k, rfl⟩ := Int.eq_ofNat_of_zero_le (show 0 ≤ z by omega)
    simp only [Int.toNat_natCast] at HE ⊢
    have hk1 : 1 ≤ k := by omega
    have hk4 : k ≤ 4 := by omega
    have hm1 : (k : Int) - 1 = ((k - 1 : Nat) : Int) := by omega
    have hc : w.cell? ⟨0, k - 1, none⟩ = some (.string (kwB k)) := ht.2 _ _ (by
      have hl : kdw.length = 4 := rfl
      rw [List.getD_eq_getElem?_getD, List.getElem?_eq_getElem (by omega)]
      rfl)
    clear h ht
    generalize kwB k = x at *
    go_enter Tryd.func33, Tryd.ntmps33
    go_wp2_with fail
    refine HI.out.mono ?_
    rintro e w1 ⟨rfl, rfl⟩
    go_wp2_with fail
    go_ret2
    exact ⟨rfl, rfl⟩
  · have HE : Hid (kwS z = ⟨#[]⟩) := Lib.hid (if_neg h)
    have HD : Hid (decide (1 ≤ z ∧ z ≤ 4) = false) := Lib.hid (decide_eq_false h)
    have HI := Lib.hid (isKind z false w (decide_eq_false h))
    rw [HE.out, HD.out]
    clear h ht
    go_enter Tryd.func33, Tryd.ntmps33
    go_wp2_with fail
    refine HI.out.mono ?_
    rintro e w1 ⟨rfl, rfl⟩
    go_wp2_with fail
    go_ret2
    exact ⟨rfl, rfl⟩

/-- what ChooseKind answers -/
def ckB (k : Int) (nm : Int) (x : Tr) : Bool := decide (1 ≤ k ∧ k ≤ 4) && gdB nm x
def ckN (k : Int) (nm : Int) (x : Tr) : Int := if ckB k nm x = true then nm else 0
def ckT (k : Int) (nm : Int) (x : Tr) : Tr := if ckB k nm x = true then chT (ckF (kwS k)) x else zT
theorem two_world (w : World) (cs1 cs2 : Array Value) (t1 t2 : TypeId) : Below w.heap.size w ((w.alloc (.cells cs1 t1)).alloc (.cells cs2 t2)) ∧
    Bw ((w.alloc (.cells cs1 t1)).alloc (.cells cs2 t2)) w.heap.size cs1.toList ∧ Bw ((w.alloc (.cells cs1 t1)).alloc (.cells cs2 t2)) (w.heap.size + 1) cs2.toList ∧ w.heap.size + 2 ≤ ((w.alloc (.cells cs1 t1)).alloc (.cells cs2 t2)).heap.size := by
  have al : ∀ (w : World) o, Below w.heap.size w (w.alloc o) := fun w o => (Below.refl _ w).alloc (Nat.le_refl _) o
  have h1 := Bw.new w cs1 t1
  have h2 := Bw.new (w.alloc (.cells cs1 t1)) cs2 t2
  rw [show (w.alloc (.cells cs1 t1)).heap.size = w.heap.size + 1 by simp] at h2
  exact ⟨(al w _).alloc (by simp) _, h1.below (al _ _), h2, by simp⟩
set_option maxRecDepth 100000 in
set_option maxHeartbeats 4000000 in
theorem choose_i (k : Int) (nm : Int) (x : Tr) (B : Option Addr) (c d : Nat) (w : World) (hr : RdL d w B x.ps) (hz : szT x ≤ 1048576) (hT : Tabs w) :
    Calls Tryd.prog 16 #[stV nm x.op x.wd x.tx x.af B x.ps.length c, .int .i64 k] w (StPost (d + 1) w w.heap.size (ckB k nm x) (ckN k nm x) (ckT k nm x)) := by
  have H1 := Lib.hid (fun w1 (h : Below w.heap.size w w1) => kindWord_i k w1 (hT.below h).2)
  have HC := Lib.hid (fun b1 w1 (h : Below w.heap.size w w1) hc => nodesCk b1 (kwS k) nm x B c d w1 (hr.below h) hz (hT.below h) hc)
  have HR : Hid (ckB k nm x = (decide (1 ≤ k ∧ k ≤ 4) && gdB nm x)) := Lib.hid rfl
  have HN : Hid (ckN k nm x = if ckB k nm x = true then nm else 0) := Lib.hid rfl
  have HG : Hid (ckT k nm x = if ckB k nm x = true then chT (ckF (kwS k)) x else zT) := Lib.hid rfl
  have HN1 : Hid (cgN (ckF (kwS k)) nm x = if gdB nm x = true then nm else 0) := Lib.hid rfl
  have HG1 : Hid (cgT (ckF (kwS k)) nm x = if gdB nm x = true then chT (ckF (kwS k)) x else zT) := Lib.hid rfl
  generalize cgN (ckF (kwS k)) nm x = cn at *
  generalize cgT (ckF (kwS k)) nm x = z at *
  generalize chT (ckF (kwS k)) x = zz at *
  generalize ckN k nm x = rn at *
  generalize ckT k nm x = rt at *
  generalize ckB k nm x = rb at *
  generalize gdB nm x = ok at *
  generalize decide (1 ≤ k ∧ k ≤ 4) = s1 at *
  generalize kwS k = word at *
  clear hr hz hT
  obtain ⟨op, wd, tx, af, ps⟩ := x
  simp only [op_mk, wd_mk, tx_mk, af_mk, ps_mk] at *
  generalize ps.length = n at *
  have HW := Lib.hid (two_world w #[.int .i64 nm, .int .i64 op, .string wd, .string tx, .string af, .slice B n c] #[.int .i64 0, .int .i64 0, .string ⟨#[]⟩, .string ⟨#[]⟩, .string ⟨#[]⟩, .slice none 0 0] 32 32)
  go_enter Tryd.func16, Tryd.ntmps16
  go_wp2_with fail
  generalize (w.alloc _).alloc _ = w0 at HW ⊢
  obtain ⟨hB0, hX0, hY0, hS0⟩ := HW.out
  clear HW
  refine (H1.out _ hB0).mono ?_
  rintro e w1 ⟨rfl, rfl⟩
  have hb1 : Below w0.heap.size w0 (w0.alloc (.cells #[.string word] 9)) := (Below.refl _ _).alloc (Nat.le_refl _) _
  have HB1 := Lib.hid (hB0.trans (hb1.mono hB0.size))
  have HB0 := Lib.hid hB0
  have HX1 := Lib.hid (hX0.below hb1)
  have HO1 := Lib.hid (Bx.new w0 #[.string word] 9)
  have HY1 := Lib.hid (hY0.below hb1)
  have HS1 := Lib.hid (Nat.le_trans hS0 hb1.size)
  have HCx := Lib.hid (HC.out w0.heap.size _ HB1.out HO1.out)
  clear hb1 hB0 hS0 HC
  cases s1 with
  | false =>
    have hY := hY0
    clear hX0 hY0
    have y0 := hY.1.2 0 _ rfl
    have q0 := hY.2 0
    have y1 := hY.1.2 1 _ rfl
    have q1 := hY.2 1
    have y2 := hY.1.2 2 _ rfl
    have q2 := hY.2 2
    have y3 := hY.1.2 3 _ rfl
    have q3 := hY.2 3
    have y4 := hY.1.2 4 _ rfl
    have q4 := hY.2 4
    have y5 := hY.1.2 5 _ rfl
    have q5 := hY.2 5
    have hsz9 : w.heap.size + 1 < w0.heap.size := hY.1.1
    go_wp2_with fail
    refine bodyPost_ret (v := .tuple #[stV 0 0 ⟨#[]⟩ ⟨#[]⟩ ⟨#[]⟩ none 0 0, .bool false]) (by simp [results, Tryd.results16, go_sem, *]) rfl ?_
    refine ⟨none, 0, [], by rw [HN.out, HG.out, HR.out]; rfl, by rw [HG.out, HR.out]; exact OwL.nil, List.nodup_nil, fun b hb => (by cases hb), ?_⟩
    have B2 := HB1.out
    have B0 := HB0.out
    have hsw := B0.size
    first
      | (with_reducible exact B2)
      | (with_reducible refine Below.alloc ?_ (by simp; omega) _
         iterate 6 (with_reducible refine Below.setCell ?_ (by simp <;> omega) _)
         with_reducible exact B0)
      | (with_reducible refine Below.alloc ?_ (by simp; omega) _
         with_reducible exact B0)
  | true =>
    have x0 := hX0.1.2 0 _ rfl
    have x1 := hX0.1.2 1 _ rfl
    have x2 := hX0.1.2 2 _ rfl
    have x3 := hX0.1.2 3 _ rfl
    have x4 := hX0.1.2 4 _ rfl
    have x5 := hX0.1.2 5 _ rfl
    have hxs := hX0.1.1
    clear hX0 hY0
    go_wp2_with fail
    generalize w0.alloc (.cells #[.string word] 9) = w2 at *
    refine HCx.out.mono ?_
    rintro e w3 ⟨A6, c6, F6, rfl, o6, n6, f6, b6⟩
    have HO6 := Lib.hid o6
    have HN6 := Lib.hid n6
    have HF6 := Lib.hid f6
    have HB6 := Lib.hid (HB1.out.trans (b6.mono HB1.out.size))
    have hY := HY1.out.below b6
    have Hz : Hid (rt = z ∧ rn = cn ∧ rb = ok) := Lib.hid (by rw [HG.out, HG1.out, HN.out, HN1.out, HR.out]; exact ⟨rfl, rfl, rfl⟩)
    clear HG HG1 HN HN1 HR x0 x1 x2 x3 x4 x5
    obtain ⟨zo, zw, zt, za, zp⟩ := z
    simp only [op_mk, wd_mk, tx_mk, af_mk, ps_mk] at HO6 ⊢
    obtain ⟨zn, hzn⟩ : ∃ n, n = zp.length := ⟨_, rfl⟩
    have HZn := Lib.hid hzn
    rw [← hzn]
    have y0 := hY.1.2 0 _ rfl
    have q0 := hY.2 0
    have y1 := hY.1.2 1 _ rfl
    have q1 := hY.2 1
    have y2 := hY.1.2 2 _ rfl
    have q2 := hY.2 2
    have y3 := hY.1.2 3 _ rfl
    have q3 := hY.2 3
    have y4 := hY.1.2 4 _ rfl
    have q4 := hY.2 4
    have y5 := hY.1.2 5 _ rfl
    have q5 := hY.2 5
    have hsz9 : w.heap.size + 1 < w3.heap.size := hY.1.1
    clear o6 n6 f6 b6 hY HY1 hzn HCx HX1 HO1
    go_wp2_with fail
    refine bodyPost_ret (v := .tuple #[stV cn zo zw zt za A6 zn c6, .bool ok]) (by simp [results, Tryd.results16, go_sem, *]) rfl ?_
    refine ⟨A6, c6, F6, by rw [Hz.out.1, Hz.out.2.1, Hz.out.2.2, HZn.out]; rfl, ?_, HN6.out, fun b hb => by have := HF6.out b hb; have := HS1.out; omega, ?_⟩
    · rw [Hz.out.1]
      have O2 := HO6.out
      have hF2 : ∀ b ∈ F6, w.heap.size + 2 ≤ b := fun b hb => Nat.le_trans HS1.out (HF6.out b hb)
      iterate 6 (refine own_off ?_ hF2 (by simp <;> omega) _)
      exact O2
    · have B2 := HB6.out
      iterate 6 (refine Below.setCell ?_ (by simp <;> omega) _)
      exact B2
end Go.Proofs.YtldfdfdleaemaaaDoor.Nd
