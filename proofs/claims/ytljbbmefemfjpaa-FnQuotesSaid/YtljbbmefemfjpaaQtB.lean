/-
  Rows of pairs of marks; slices.BinarySearchFunc at them with the order of close.
-/
import Derived.Test.YtljbbmefemfjpaaRows
import Derived.WalkKit
import Derived.LoopTactic
import Derived.Lib.Hide
import Derived.Deep.QuietTactic
import Derived.BigQuiet
import Derived.Below
import Derived.Deep.RegionHeld3
import Derived.Deep.Slices
import Derived.Deep.Fields
import Derived.ProofKit
import Derived.ChangeOld
import Derived.Lib.SmallJoins
import Derived.Maps.AppendAt
import Derived.Laws.AppendOwn
import Derived.Laws.OwnMore
import Derived.Deep.AppendLies
import Derived.Deep.DeepCutAuto
import Derived.IntWalk
namespace Go.Proofs.Ytljbbmefemfjpaa.QtB
open Go.RowKit
set_option linter.unusedSimpArgs false
set_option linter.unusedVariables false

/-- the cells of a list of pairs -/
def qc (P : List (Nat × Nat)) : List Value := P.flatMap fun x => [.int .i64 (x.1 : Int), .int .i64 (x.2 : Int)]
theorem qc_len (P : List (Nat × Nat)) : (qc P).length = P.length * 2 := by
  induction P with
  | nil => rfl
  | cons x r ih =>
    have e : qc (x :: r) = [.int .i64 (x.1 : Int), .int .i64 (x.2 : Int)] ++ qc r := rfl
    rw [e, List.length_append, ih, List.length_cons]
    simp
    omega
theorem qc_app (P Q : List (Nat × Nat)) : qc (P ++ Q) = qc P ++ qc Q := by unfold qc; rw [List.flatMap_append]
theorem qc_take (P : List (Nat × Nat)) (k : Nat) : (qc P).take (k * 2) = qc (P.take k) := by
  conv => lhs; rw [← List.take_append_drop k P, qc_app]
  rcases Nat.le_total k P.length with h | h
  · exact List.take_left' (by rw [qc_len, List.length_take, Nat.min_eq_left h])
  · rw [List.drop_eq_nil_of_le h, List.take_of_length_le (l := P) h]
    show (qc P ++ []).take _ = _
    rw [List.append_nil]
    exact List.take_of_length_le (by rw [qc_len]; omega)
theorem qc_drop (P : List (Nat × Nat)) (k : Nat) : (qc P).drop (k * 2) = qc (P.drop k) := by
  conv => lhs; rw [← List.take_append_drop k P, qc_app]
  rcases Nat.le_total k P.length with h | h
  · exact List.drop_left' (by rw [qc_len, List.length_take, Nat.min_eq_left h])
  · rw [List.drop_eq_nil_of_le h, List.take_of_length_le (l := P) h]
    show (qc P ++ []).drop _ = _
    rw [List.append_nil]
    exact List.drop_eq_nil_of_le (by rw [qc_len]; omega)
theorem qc_at {P : List (Nat × Nat)} {j : Nat} {x : Nat × Nat} (h : P[j]? = some x) : (qc P)[j * 2]? = some (.int .i64 (x.1 : Int)) ∧ (qc P)[j * 2 + 1]? = some (.int .i64 (x.2 : Int)) := by
  induction P generalizing j with
  | nil => simp at h
  | cons y r ih =>
    have e : qc (y :: r) = [.int .i64 (y.1 : Int), .int .i64 (y.2 : Int)] ++ qc r := rfl
    rw [e]
    cases j with
    | zero => simp at h; subst h; exact ⟨rfl, rfl⟩
    | succ j =>
      obtain ⟨h0, h1⟩ := ih (j := j) (by simpa using h)
      refine ⟨?_, ?_⟩
      · rw [show (j + 1) * 2 = j * 2 + 2 by omega, List.getElem?_append_right (by simp)]; simpa using h0
      · rw [show (j + 1) * 2 + 1 = j * 2 + 1 + 2 by omega, List.getElem?_append_right (by simp)]; simpa using h1
theorem qc_one (P : List (Nat × Nat)) : ∀ v ∈ qc P, v.oneCell' = true := by
  intro v hv
  unfold qc at hv
  obtain ⟨x, _, hx⟩ := List.mem_flatMap.1 hv
  simp at hx
  rcases hx with rfl | rfl <;> rfl
/-- the slice at A holds the pairs P -/
def RdQ (w : World) (A : Option Addr) (P : List (Nat × Nat)) : Prop :=
  ∀ j x, P[j]? = some x → ∃ g, A = some ⟨g, 0, none⟩ ∧ g < w.heap.size ∧ w.cell? ⟨g, j * 2, none⟩ = some (.int .i64 (x.1 : Int)) ∧ w.cell? ⟨g, j * 2 + 1, none⟩ = some (.int .i64 (x.2 : Int))
theorem RdQ.below {w w' : World} {A : Option Addr} {P : List (Nat × Nat)} (h : RdQ w A P) (hb : Below w.heap.size w w') : RdQ w' A P := by
  intro j x hx
  obtain ⟨g, e, hg, h0, h1⟩ := h j x hx
  exact ⟨g, e, Nat.lt_of_lt_of_le hg hb.size, (hb.cell (p := ⟨g, j * 2, none⟩) hg).trans h0, (hb.cell (p := ⟨g, j * 2 + 1, none⟩) hg).trans h1⟩
theorem own_rq {w : World} {base : Nat} {A : Option Addr} {c n : Nat} {P : List (Nat × Nat)} (h : w.ownsRow base 56 2 (.slice A n c) n (qc P)) : RdQ w A P := by
  intro j x hx
  have hl := h.1
  rw [qc_len] at hl
  have hj : j < P.length := (List.getElem?_eq_some_iff.1 hx).1
  rcases h.2 with ⟨h0, h00⟩ | ⟨g, cap, cur, h0, hb, hg, hnc, _⟩
  · omega
  · cases h0
    obtain ⟨e0, e1⟩ := qc_at hx
    exact ⟨g, rfl, (Array.getElem?_eq_some_iff.1 hg).1, (World.ownsRow.cellAt h (j * 2) (by omega)).trans e0, (World.ownsRow.cellAt h (j * 2 + 1) (by omega)).trans e1⟩
/-- nothing of W has changed in w' -/
def Kp (W w' : World) : Prop := Below W.heap.size W w'
theorem kre (W : World) : Kp W W := Below.refl _ _
theorem kdr {W w : World} (h : Kp W w) : Kp W w.drew := Below.drew h
theorem kal {W w : World} (h : Kp W w) (o : Obj) : Kp W (w.alloc o) := Below.alloc h (Below.size h) o
theorem kdn {W w : World} (h : Kp W w) (q : Nat) : Kp W (w.drewN q) := ⟨h.os, h.tape, h.output, h.size, h.block⟩
theorem ksz {W w : World} (h : Kp W w) : W.heap.size ≤ w.heap.size := Below.size h
theorem ktr {W w1 w2 : World} (h : Kp W w1) (h2 : Kp w1 w2) : Kp W w2 := Below.trans h (Below.mono h2 (Below.size h))
theorem knx {W w1 w2 : World} (h : Kp W w1) (h2 : Below w1.heap.size w1 w2) : Kp W w2 := Below.trans h (h2.mono (Below.size h))
theorem own_kp {w w' : World} {base : Nat} {e : TypeId} {size n : Nat} {v : Value} {xs : List Value} (h : w.ownsRow base e size v n xs) (hb : Kp w w') : w'.ownsRow base e size v n xs :=
  h.kept (row := none) ⟨hb.os, hb.tape, hb.output, hb.size, fun k hk _ => hb.block k hk⟩ (by
    cases hv : v.ownBlock with
    | none => exact .inl rfl
    | some g => exact .inr (fun e => by cases e))
theorem below_grown {B : Nat} {w0 w w' : World} {row : Option Nat} (h : Below B w0 w) (hg : w.grownBy w' row) (hB : B ≤ w.heap.size) (hrow : ∀ k, row = some k → B ≤ k) : Below B w0 w' :=
  h.trans ⟨hg.os, hg.tape, hg.output, hg.size, fun k hk => hg.block k (Nat.lt_of_lt_of_le hk hB) (fun e => by have := hrow k e.symm; omega)⟩
theorem kgr {W w w' : World} {row : Option Nat} (h : Kp W w) (hg : w.grownBy w' row) (hrow : ∀ k, row = some k → W.heap.size ≤ k) : Kp W w' := below_grown h hg (Below.size h) hrow
theorem own_far {w w' : World} {base : Nat} {e : TypeId} {size n : Nat} {v : Value} {xs : List Value} {row : Option Nat} (h : w.ownsRow base e size v n xs) (hg : w.grownBy w' row) (hne : v.ownBlock ≠ row) : w'.ownsRow base e size v n xs :=
  h.kept hg (.inr hne)

theorem nan_q (a : Int) (w : World) : Calls Try.prog 73 #[.int .i64 a] w fun e w' => e = .returned (.bool false) ∧ w = w' := by
  go_enter Try.func73, Try.ntmps73
  go_wp2_with fail
  go_ret
  exact ⟨rfl, rfl⟩
def c3 (a b : Nat) : Int := if a < b then -1 else if b < a then 1 else 0
theorem cmp_q (a b : Nat) (w : World) : Calls Try.prog 68 #[.int .i64 a, .int .i64 b] w fun e w' => e = .returned (.int .i64 (c3 a b)) ∧ w = w' := by
  rcases Nat.lt_trichotomy a b with h | h | h
  · have HC : Hid (c3 a b = -1) := Lib.hid (by unfold c3; rw [if_pos h])
    go_enter Try.func68, Try.ntmps68
    go_wp2_with (go_at_call 73; refine (nan_q _ _).mono ?_; rintro e w' ⟨rfl, rfl⟩)
    all_goals go_ret
    all_goals exact ⟨by rw [HC.out]; rfl, rfl⟩
  · have HC : Hid (c3 a b = 0) := Lib.hid (by unfold c3; rw [if_neg (by omega), if_neg (by omega)])
    subst h
    go_enter Try.func68, Try.ntmps68
    go_wp2_with (go_at_call 73; refine (nan_q _ _).mono ?_; rintro e w' ⟨rfl, rfl⟩)
    all_goals go_ret
    all_goals exact ⟨by rw [HC.out]; rfl, rfl⟩
  · have HC : Hid (c3 a b = 1) := Lib.hid (by unfold c3; rw [if_neg (by omega), if_pos h])
    have h' : ¬ a < b := by omega
    go_enter Try.func68, Try.ntmps68
    go_wp2_with (go_at_call 73; refine (nan_q _ _).mono ?_; rintro e w' ⟨rfl, rfl⟩)
    all_goals go_ret
    all_goals exact ⟨by rw [HC.out]; rfl, rfl⟩
theorem ord_q (a b c d : Nat) (w : World) : Calls Try.prog 67 #[.agg #[.int .i64 a, .int .i64 b], .agg #[.int .i64 c, .int .i64 d]] w fun e w' => e = .returned (.int .i64 (c3 a c)) ∧ Below w.heap.size w w' := by
  go_enter Try.func67, Try.ntmps67
  go_wp2_with (go_at_call 68; refine (cmp_q _ _ _).mono ?_; rintro e w' ⟨rfl, rfl⟩)
  go_ret
  exact ⟨rfl, ((Below.refl _ _).alloc (Nat.le_refl _) _).alloc (by simp) _⟩

def SrPost (p : Nat) (w : World) (e : Ending) (w' : World) : Prop := (∃ f, e = .returned (.tuple #[.int .i64 p, .bool f])) ∧ Below w.heap.size w w'
set_option maxHeartbeats 2000000 in
theorem search_q (A : Option Addr) (c n : Nat) (P : List (Nat × Nat)) (a b p : Nat) (w : World) (h : RdQ w A P) (hn : P.length = n) (hN : n ≤ 1048576) (hp : p ≤ n) (hlt : ∀ j x, P[j]? = some x → (x.1 < a ↔ j < p)) :
    Calls Try.prog 66 #[.slice A n c, .agg #[.int .i64 a, .int .i64 b], .func (.func 67) #[] #[]] w (SrPost p w) := by
  have HR := Lib.hid h
  have HN := Lib.hid hn
  have HL := Lib.hid hlt
  clear h hn hlt
  go_enter Try.func66, Try.ntmps66
  go_wp2_with fail
  go_loopw [9, 10] (fun i j wr => ∃ i0 j0 : Nat, i0 ≤ p ∧ p ≤ j0 ∧ j0 ≤ n ∧ i = .int .i64 i0 ∧ j = .int .i64 j0 ∧ (wr.cell? ⟨w.heap.size, 0, none⟩ = some (.int .i64 (a : Int)) ∧ wr.cell? ⟨w.heap.size, 1, none⟩ = some (.int .i64 (b : Int)) ∧ w.heap.size < wr.heap.size) ∧ Below w.heap.size w wr) (fun i j _ => (intOf j).toNat - (intOf i).toNat)
  case atStart => exact ⟨0, n, Nat.zero_le _, hp, Nat.le_refl _, rfl, rfl, ⟨by simp, by simp, by simp⟩, (Below.refl _ _).alloc (Nat.le_refl _) _⟩
  case round =>
    obtain ⟨i0, j0, h1, h2, h3, rfl, rfl, ⟨d0, d1, hs⟩, hb⟩ := hrel
    by_cases hij : i0 < j0
    · obtain ⟨mid, hm1, hm2, hme⟩ : ∃ mid : Nat, i0 ≤ mid ∧ mid < j0 ∧ ((i0 : Int) + (j0 : Int)) / 2 = (mid : Int) := ⟨(i0 + j0) / 2, by omega, by omega, by omega⟩
      have hmN : mid < n := by omega
      have hkx : mid < P.length := by rw [HN.out]; omega
      have hx? := List.getElem?_eq_getElem hkx
      obtain ⟨g, rfl, hg, c0, c1⟩ := (HR.out.below hb) mid P[mid] hx?
      have HX := Lib.hid (HL.out mid P[mid] hx?)
      clear hx?
      generalize P[mid] = x at *
      obtain ⟨xa, xb⟩ := x
      dsimp only at c0 c1 HX
      have HSS : Hid (∀ w', Kp wr w' → ((w'.cell? ⟨g, mid * 2, none⟩ = some (.int .i64 (xa : Int)) ∧ w'.cell? ⟨g, mid * 2 + 1, none⟩ = some (.int .i64 (xb : Int)) ∧ w'.cell? ⟨w.heap.size, 0, none⟩ = some (.int .i64 (a : Int)) ∧ w'.cell? ⟨w.heap.size, 1, none⟩ = some (.int .i64 (b : Int))) ∧ Kp wr w')) := Lib.hid (fun w' h => ⟨⟨(h.cell (p := ⟨g, mid * 2, none⟩) hg).trans c0, (h.cell (p := ⟨g, mid * 2 + 1, none⟩) hg).trans c1, (h.cell (p := ⟨w.heap.size, 0, none⟩) hs).trans d0, (h.cell (p := ⟨w.heap.size, 1, none⟩) hs).trans d1⟩, h⟩)
      have HK0 := Lib.hid (kdr (kre wr))
      clear c0 c1 d0 d1
      by_cases hl : xa < a
      · have HC : Hid (c3 xa a = -1) := Lib.hid (by unfold c3; rw [if_pos hl])
        have hmp := HX.out.1 hl
        clear hl
        go_wp2_with fail
        go_region_held3 (fun w' => (w'.cell? ⟨g, mid * 2, none⟩ = some (.int .i64 (xa : Int)) ∧ w'.cell? ⟨g, mid * 2 + 1, none⟩ = some (.int .i64 (xb : Int)) ∧ w'.cell? ⟨w.heap.size, 0, none⟩ = some (.int .i64 (a : Int)) ∧ w'.cell? ⟨w.heap.size, 1, none⟩ = some (.int .i64 (b : Int))) ∧ Kp wr w')
          (first | exact HSS.out _ HK0.out | exact HSS.out _ (by assumption))
          (first | (go_at_call 67; refine (ord_q _ _ _ _ _).mono ?_; rintro e w1 ⟨rfl, b1⟩; have hk1 : Kp wr w1 := knx HK0.out b1))
        rw [HC.out]
        have hS1 := HSS.out _ hk1
        have hb1 := hb.trans (Below.mono hk1 hb.size)
        have hs1 : w.heap.size < w1.heap.size := Nat.lt_of_lt_of_le hs (ksz hk1)
        (try clear hHeld)
        clear b1 HSS HK0
        go_wp2_with fail
        go_roundw
        case rel => exact ⟨mid + 1, j0, by omega, h2, h3, by go_num, rfl, ⟨hS1.1.2.2.1, hS1.1.2.2.2, hs1⟩, hb1⟩
        case measure => (simp [intOf] <;> omega)
      · have HC : Hid (∃ z : Int, c3 xa a = z ∧ 0 ≤ z) := Lib.hid ⟨_, rfl, by unfold c3; rw [if_neg hl]; split <;> omega⟩
        have hmp : p ≤ mid := by
          rcases Nat.lt_or_ge mid p with h9 | h9
          · exact absurd (HX.out.2 h9) hl
          · exact h9
        clear hl
        go_wp2_with fail
        go_region_held3 (fun w' => (w'.cell? ⟨g, mid * 2, none⟩ = some (.int .i64 (xa : Int)) ∧ w'.cell? ⟨g, mid * 2 + 1, none⟩ = some (.int .i64 (xb : Int)) ∧ w'.cell? ⟨w.heap.size, 0, none⟩ = some (.int .i64 (a : Int)) ∧ w'.cell? ⟨w.heap.size, 1, none⟩ = some (.int .i64 (b : Int))) ∧ Kp wr w')
          (first | exact HSS.out _ HK0.out | exact HSS.out _ (by assumption))
          (first | (go_at_call 67; refine (ord_q _ _ _ _ _).mono ?_; rintro e w1 ⟨rfl, b1⟩; have hk1 : Kp wr w1 := knx HK0.out b1))
        obtain ⟨z, hz1, hz2⟩ := HC.out
        rw [hz1]
        have hS1 := HSS.out _ hk1
        have hb1 := hb.trans (Below.mono hk1 hb.size)
        have hs1 : w.heap.size < w1.heap.size := Nat.lt_of_lt_of_le hs (ksz hk1)
        have hzd : decide (z < 0) = false := by simp; omega
        (try clear hHeld)
        clear b1 HSS HK0 hz1
        go_wp2_with fail
        go_roundw
        case rel => exact ⟨i0, mid, h1, hmp, by omega, rfl, rfl, ⟨hS1.1.2.2.1, hS1.1.2.2.2, hs1⟩, hb1⟩
        case measure => (simp [intOf] <;> omega)
    · obtain rfl : i0 = p := by omega
      obtain rfl : j0 = i0 := by omega
      by_cases hpn : j0 < n
      · have hkx : j0 < P.length := by rw [HN.out]; omega
        have hx? := List.getElem?_eq_getElem hkx
        obtain ⟨g, rfl, hg, c0, c1⟩ := (HR.out.below hb) j0 P[j0] hx?
        clear hx?
        generalize P[j0] = x at *
        obtain ⟨xa, xb⟩ := x
        dsimp only at c0 c1
        have HSS : Hid (∀ w', Kp wr w' → ((w'.cell? ⟨g, j0 * 2, none⟩ = some (.int .i64 (xa : Int)) ∧ w'.cell? ⟨g, j0 * 2 + 1, none⟩ = some (.int .i64 (xb : Int)) ∧ w'.cell? ⟨w.heap.size, 0, none⟩ = some (.int .i64 (a : Int)) ∧ w'.cell? ⟨w.heap.size, 1, none⟩ = some (.int .i64 (b : Int))) ∧ Kp wr w')) := Lib.hid (fun w' h => ⟨⟨(h.cell (p := ⟨g, j0 * 2, none⟩) hg).trans c0, (h.cell (p := ⟨g, j0 * 2 + 1, none⟩) hg).trans c1, (h.cell (p := ⟨w.heap.size, 0, none⟩) hs).trans d0, (h.cell (p := ⟨w.heap.size, 1, none⟩) hs).trans d1⟩, h⟩)
        have HK0 := Lib.hid (kdr (kre wr))
        clear c0 c1 d0 d1 hij h1 h2
        go_wp2_with fail
        go_region_held3 (fun w' => (w'.cell? ⟨g, j0 * 2, none⟩ = some (.int .i64 (xa : Int)) ∧ w'.cell? ⟨g, j0 * 2 + 1, none⟩ = some (.int .i64 (xb : Int)) ∧ w'.cell? ⟨w.heap.size, 0, none⟩ = some (.int .i64 (a : Int)) ∧ w'.cell? ⟨w.heap.size, 1, none⟩ = some (.int .i64 (b : Int))) ∧ Kp wr w')
          (first | exact HSS.out _ HK0.out | exact HSS.out _ (by assumption))
          (first | (go_at_call 67; refine (ord_q _ _ _ _ _).mono ?_; rintro e w1 ⟨rfl, b1⟩; have hk1 : Kp wr w1 := knx HK0.out b1))
        have hb1 := hb.trans (Below.mono hk1 hb.size)
        (try clear hHeld)
        clear b1 HSS HK0
        go_wp2_with fail
        go_ret2
        exact ⟨⟨_, rfl⟩, hb1⟩
      · clear hij h1 h2
        go_wp2_with fail
        go_quiet (fail)
        go_wp2_with fail
        go_ret2
        exact ⟨⟨_, rfl⟩, kdn hb _⟩
end Go.Proofs.Ytljbbmefemfjpaa.QtB
