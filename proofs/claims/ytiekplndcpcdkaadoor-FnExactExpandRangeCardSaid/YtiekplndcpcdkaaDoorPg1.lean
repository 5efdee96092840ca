/-
  Contracts of chapter 7's first functions: isPageLetter, isValidRange, l7Letter, l7Range; a slice that holds ranges; IsValidPages, l7Good.
-/
import Derived.Test.YtiekplndcpcdkaaDoorL1In
import Derived.Test.YtiekplndcpcdkaaDoorRows
import Derived.Test.YtiekplndcpcdkaaDoorPlain
import Derived.Test.YtiekplndcpcdkaaDoorPgPl
import Derived.Test.YtiekplndcpcdkaaDoorLetI
import Derived.WalkKit
import Derived.LoopTactic
import Derived.Lib.Hide
import Derived.Deep.QuietTactic
import Derived.BigQuiet
import Derived.Below
namespace Go.Proofs.YtiekplndcpcdkaaDoor.Pg
open Go.RowKit PgPl NmPl
open Dt (l1In_any)
set_option linter.unusedSimpArgs false
set_option linter.unusedVariables false

/-- a range as a value -/
@[reducible] def prV (l : ByteArray) (f t : Int) : Value := .agg #[.string l, .int .i64 f, .int .i64 t]
theorem ret_bool {a b : Bool} (h : a = b) : Ending.returned (.bool a) = .returned (.bool b) := by rw [h]
theorem box_below (w : World) (o : Obj) : Below w.heap.size w (w.alloc o) := (Below.refl _ w).alloc (Nat.le_refl _) o

theorem ne_emp {s : ByteArray} (h : 0 < s.size) : s.toList.isEmpty = false := by
  rw [Lib.toList_data, List.isEmpty_eq_false_iff]
  intro e
  have h1 := Pl.len_size s
  rw [e] at h1
  exact absurd h1 (by simp; omega)
theorem letter_i (s : ByteArray) (r : Bool) (w : World) (hr : lB s = r) :
    Calls Tryd.prog 29 #[.string s] w fun e w' => e = .returned (.bool r) ∧ w = w' := by
  subst hr
  rcases Nat.lt_trichotomy s.size 1 with h | h | h
  · obtain rfl := emp (by omega : s.size = 0)
    go_enter Tryd.func29, Tryd.ntmps29
    go_wp2_with fail
    go_ret
    exact ⟨rfl, rfl⟩
  · have HE := Lib.hid (lB_1 h)
    have hne := ne_emp (by omega : 0 < s.size)
    have hk : 0 < s.size := by omega
    have hs1 : ((s.size : Int) == 1) = true := by rw [h]; rfl
    generalize hu : isUp s[0] = r at HE
    have HU := Lib.hid hu
    clear hu
    go_enter Tryd.func29, Tryd.ntmps29
    go_wp2_with (first | (go_at_call 27; refine (Word.up_i _ r _ HU.out).mono ?_; rintro e w' ⟨rfl, rfl⟩))
    go_ret
    exact ⟨by rw [HE.out]; rfl, rfl⟩
  · have HE := Lib.hid (lB_2 h)
    have hne := ne_emp (by omega : 0 < s.size)
    have hs1 : ((s.size : Int) == 1) = false := by rw [beq_eq_false_iff_ne]; omega
    go_enter Tryd.func29, Tryd.ntmps29
    go_wp2_with fail
    go_ret
    exact ⟨by rw [HE.out]; rfl, rfl⟩
theorem letter_s (s : ByteArray) (r : Bool) (w : World) (hr : lB s = r) :
    Calls Tryd.prog 17 #[.string s] w fun e w' => e = .returned (.bool r) ∧ w = w' := by
  subst hr
  rcases Nat.lt_trichotomy s.size 1 with h | h | h
  · obtain rfl := emp (by omega : s.size = 0)
    go_enter Tryd.func17, Tryd.ntmps17
    go_wp2_with fail
    go_ret
    exact ⟨rfl, rfl⟩
  · have HE := Lib.hid ((lB_1 h).trans (show isUp (s[0]'(by omega)) = decide (65 ≤ (s[0]'(by omega)).toNat ∧ (s[0]'(by omega)).toNat ≤ 90) from rfl))
    have hne := ne_emp (by omega : 0 < s.size)
    have hk : 0 < s.size := by omega
    have hs1 : ((s.size : Int) == 1) = true := by rw [h]; rfl
    go_enter Tryd.func17, Tryd.ntmps17
    go_wp2_with fail
    all_goals go_ret
    all_goals exact ⟨ret_bool (by rw [HE.out, Bool.eq_iff_iff]; simp; omega), rfl⟩
  · have HE := Lib.hid (lB_2 h)
    have hne := ne_emp (by omega : 0 < s.size)
    have hs1 : ((s.size : Int) == 1) = false := by rw [beq_eq_false_iff_ne]; omega
    go_enter Tryd.func17, Tryd.ntmps17
    go_wp2_with fail
    go_ret
    exact ⟨by rw [HE.out]; rfl, rfl⟩

theorem valid_i (l : ByteArray) (f t : Int) (r : Bool) (w : World) (hr : okR l f t = r) :
    Calls Tryd.prog 24 #[prV l f t] w fun e w' => e = .returned (.bool r) ∧ Below w.heap.size w w' := by
  have HE : Hid ((lB l && decide (1 ≤ f ∧ f ≤ t ∧ t ≤ 99999)) = r) := Lib.hid hr
  generalize hl : lB l = b at HE
  have HL := Lib.hid hl
  clear hl hr
  cases b
  all_goals
    go_enter Tryd.func24, Tryd.ntmps24
    go_wp2_with (first | (go_at_call 29; refine (letter_i l _ _ HL.out).mono ?_; rintro e w' ⟨rfl, rfl⟩))
    all_goals go_ret
    all_goals exact ⟨ret_bool (by rw [← HE.out]; first | rfl | (rw [Bool.eq_iff_iff]; simp; omega)), box_below _ _⟩
theorem valid_s (l : ByteArray) (f t : Int) (r : Bool) (w : World) (hr : okR l f t = r) :
    Calls Tryd.prog 10 #[prV l f t] w fun e w' => e = .returned (.bool r) ∧ Below w.heap.size w w' := by
  have HE : Hid ((lB l && decide (1 ≤ f ∧ f ≤ t ∧ t ≤ 99999)) = r) := Lib.hid hr
  generalize hl : lB l = b at HE
  have HL := Lib.hid hl
  generalize hi : decide (1 ≤ f ∧ f ≤ t) = q
  have HI := Lib.hid hi
  clear hl hr hi
  cases b <;> cases q
  all_goals
    go_enter Tryd.func10, Tryd.ntmps10
    go_wp2_with (first | (go_at_call 17; refine (letter_s l _ _ HL.out).mono ?_; rintro e w' ⟨rfl, rfl⟩) | (go_at_call 18; refine (l1In_any f 1 t _ _ HI.out).mono ?_; rintro e w' ⟨rfl, rfl⟩))
    all_goals go_ret
    all_goals have hI := HI.out
    all_goals simp only [decide_eq_true_eq, decide_eq_false_iff_not] at hI
    all_goals exact ⟨ret_bool (by rw [← HE.out]; first | rfl | (rw [Bool.eq_iff_iff]; simp; omega)), box_below _ _⟩

/-- the slice at A holds the ranges L -/
def RdP (w : World) (A : Option Addr) (L : List Pr) : Prop :=
  ∀ j x, L[j]? = some x → ∃ g o, A = some ⟨g, o, none⟩ ∧ g < w.heap.size ∧ w.cell? ⟨g, o + j * 3, none⟩ = some (.string x.l) ∧ w.cell? ⟨g, o + j * 3 + 1, none⟩ = some (.int .i64 x.f) ∧ w.cell? ⟨g, o + j * 3 + 2, none⟩ = some (.int .i64 x.t)
theorem RdP.below {w w' : World} {A : Option Addr} {L : List Pr} (h : RdP w A L) (hb : Below w.heap.size w w') : RdP w' A L := by
  intro j x hx
  obtain ⟨g, o, e, hg, h0, h1, h2⟩ := h j x hx
  exact ⟨g, o, e, Nat.lt_of_lt_of_le hg hb.size, (hb.cell (p := ⟨g, o + j * 3, none⟩) hg).trans h0, (hb.cell (p := ⟨g, o + j * 3 + 1, none⟩) hg).trans h1, (hb.cell (p := ⟨g, o + j * 3 + 2, none⟩) hg).trans h2⟩

end Go.Proofs.YtiekplndcpcdkaaDoor.Pg
