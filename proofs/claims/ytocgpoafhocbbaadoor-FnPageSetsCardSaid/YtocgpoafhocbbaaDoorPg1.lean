/-
  Contracts of chapter 7's first functions: isPageLetter, isValidRange, l7Letter, l7Range; a slice that holds ranges; IsValidPages, l7Good.
-/
import Derived.Test.YtocgpoafhocbbaaDoorL1In
import Derived.Test.YtocgpoafhocbbaaDoorRows
import Derived.Test.YtocgpoafhocbbaaDoorPlain
import Derived.Test.YtocgpoafhocbbaaDoorPgPl
import Derived.Test.YtocgpoafhocbbaaDoorLetI
import Derived.WalkKit
import Derived.LoopTactic
import Derived.Lib.Hide
import Derived.Deep.QuietTactic
import Derived.BigQuiet
import Derived.Below
namespace Go.Proofs.YtocgpoafhocbbaaDoor.Pg
open Go.RowKit PgPl NmPl
open Dt (l1In_any)
set_option linter.unusedSimpArgs false
set_option linter.unusedVariables false

/-- a range as a value -/
@[reducible] def prV (l : ByteArray) (f t : Int) : Value := .agg #[.string l, .int .i64 f, .int .i64 t]
theorem ret_bool {a b : Bool} (h : a = b) : Ending.returned (.bool a) = .returned (.bool b) := by rw [h]
theorem box_below (w : World) (o : Obj) : Below w.heap.size w (w.alloc o) := (Below.refl _ w).alloc (Nat.le_refl _) o

theorem ne_emp {s : ByteArray} (h : 0 < s.size) : s.toList.isEmpty = false := by
  rw [Lib.toList_data, List.isEmpty_eq_false_iff]
  intro e
  have h1 := Pl.len_size s
  rw [e] at h1
  exact absurd h1 (by simp; omega)
theorem letter_i (s : ByteArray) (r : Bool) (w : World) (hr : lB s = r) :
    Calls Tryd.prog 34 #[.string s] w fun e w' => e = .returned (.bool r) ∧ w = w' := by
  subst hr
  rcases Nat.lt_trichotomy s.size 1 with h | h | h
  · obtain rfl := emp (by omega : s.size = 0)
    go_enter Tryd.func34, Tryd.ntmps34
    go_wp2_with fail
    go_ret
    exact ⟨rfl, rfl⟩
  · have HE := Lib.hid (lB_1 h)
    have hne := ne_emp (by omega : 0 < s.size)
    have hk : 0 < s.size := by omega
    have hs1 : ((s.size : Int) == 1) = true := by rw [h]; rfl
    generalize hu : isUp s[0] = r at HE
    have HU := Lib.hid hu
    clear hu
    go_enter Tryd.func34, Tryd.ntmps34
    go_wp2_with (first | (go_at_call 46; refine (Word.up_i _ r _ HU.out).mono ?_; rintro e w' ⟨rfl, rfl⟩))
    go_ret
    exact ⟨by rw [HE.out]; rfl, rfl⟩
  · have HE := Lib.hid (lB_2 h)
    have hne := ne_emp (by omega : 0 < s.size)
    have hs1 : ((s.size : Int) == 1) = false := by rw [beq_eq_false_iff_ne]; omega
    go_enter Tryd.func34, Tryd.ntmps34
    go_wp2_with fail
    go_ret
    exact ⟨by rw [HE.out]; rfl, rfl⟩
theorem letter_s (s : ByteArray) (r : Bool) (w : World) (hr : lB s = r) :
    Calls Tryd.prog 45 #[.string s] w fun e w' => e = .returned (.bool r) ∧ w = w' := by
  subst hr
  rcases Nat.lt_trichotomy s.size 1 with h | h | h
  · obtain rfl := emp (by omega : s.size = 0)
    go_enter Tryd.func45, Tryd.ntmps45
    go_wp2_with fail
    go_ret
    exact ⟨rfl, rfl⟩
  · have HE := Lib.hid ((lB_1 h).trans (show isUp (s[0]'(by omega)) = decide (65 ≤ (s[0]'(by omega)).toNat ∧ (s[0]'(by omega)).toNat ≤ 90) from rfl))
    have hne := ne_emp (by omega : 0 < s.size)
    have hk : 0 < s.size := by omega
    have hs1 : ((s.size : Int) == 1) = true := by rw [h]; rfl
    go_enter Tryd.func45, Tryd.ntmps45
    go_wp2_with fail
    all_goals go_ret
    all_goals exact ⟨ret_bool (by rw [HE.out, Bool.eq_iff_iff]; simp; omega), rfl⟩
  · have HE := Lib.hid (lB_2 h)
    have hne := ne_emp (by omega : 0 < s.size)
    have hs1 : ((s.size : Int) == 1) = false := by rw [beq_eq_false_iff_ne]; omega
    go_enter Tryd.func45, Tryd.ntmps45
    go_wp2_with fail
    go_ret
    exact ⟨by rw [HE.out]; rfl, rfl⟩

theorem valid_i (l : ByteArray) (f t : Int) (r : Bool) (w : World) (hr : okR l f t = r) :
    Calls Tryd.prog 20 #[prV l f t] w fun e w' => e = .returned (.bool r) ∧ Below w.heap.size w w' := by
  have HE : Hid ((lB l && decide (1 ≤ f ∧ f ≤ t ∧ t ≤ 99999)) = r) := Lib.hid hr
  generalize hl : lB l = b at HE
  have HL := Lib.hid hl
  clear hl hr
  cases b
  all_goals
    go_enter Tryd.func20, Tryd.ntmps20
    go_wp2_with (first | (go_at_call 34; refine (letter_i l _ _ HL.out).mono ?_; rintro e w' ⟨rfl, rfl⟩))
    all_goals go_ret
    all_goals exact ⟨ret_bool (by rw [← HE.out]; first | rfl | (rw [Bool.eq_iff_iff]; simp; omega)), box_below _ _⟩
theorem valid_s (l : ByteArray) (f t : Int) (r : Bool) (w : World) (hr : okR l f t = r) :
    Calls Tryd.prog 30 #[prV l f t] w fun e w' => e = .returned (.bool r) ∧ Below w.heap.size w w' := by
  have HE : Hid ((lB l && decide (1 ≤ f ∧ f ≤ t ∧ t ≤ 99999)) = r) := Lib.hid hr
  generalize hl : lB l = b at HE
  have HL := Lib.hid hl
  generalize hi : decide (1 ≤ f ∧ f ≤ t) = q
  have HI := Lib.hid hi
  clear hl hr hi
  cases b <;> cases q
  all_goals
    go_enter Tryd.func30, Tryd.ntmps30
    go_wp2_with (first | (go_at_call 45; refine (letter_s l _ _ HL.out).mono ?_; rintro e w' ⟨rfl, rfl⟩) | (go_at_call 31; refine (l1In_any f 1 t _ _ HI.out).mono ?_; rintro e w' ⟨rfl, rfl⟩))
    all_goals go_ret
    all_goals have hI := HI.out
    all_goals simp only [decide_eq_true_eq, decide_eq_false_iff_not] at hI
    all_goals exact ⟨ret_bool (by rw [← HE.out]; first | rfl | (rw [Bool.eq_iff_iff]; simp; omega)), box_below _ _⟩

/-- the slice at A holds the ranges L -/
def RdP (w : World) (A : Option Addr) (L : List Pr) : Prop :=
  ∀ j x, L[j]? = some x → ∃ g o, A = some ⟨g, o, none⟩ ∧ g < w.heap.size ∧ w.cell? ⟨g, o + j * 3, none⟩ = some (.string x.l) ∧ w.cell? ⟨g, o + j * 3 + 1, none⟩ = some (.int .i64 x.f) ∧ w.cell? ⟨g, o + j * 3 + 2, none⟩ = some (.int .i64 x.t)
theorem RdP.below {w w' : World} {A : Option Addr} {L : List Pr} (h : RdP w A L) (hb : Below w.heap.size w w') : RdP w' A L := by
  intro j x hx
  obtain ⟨g, o, e, hg, h0, h1, h2⟩ := h j x hx
  exact ⟨g, o, e, Nat.lt_of_lt_of_le hg hb.size, (hb.cell (p := ⟨g, o + j * 3, none⟩) hg).trans h0, (hb.cell (p := ⟨g, o + j * 3 + 1, none⟩) hg).trans h1, (hb.cell (p := ⟨g, o + j * 3 + 2, none⟩) hg).trans h2⟩

set_option maxHeartbeats 2000000 in
theorem pages_i (A : Option Addr) (c N : Nat) (L : List Pr) (z : Bool) (w : World) (h : RdP w A L) (hn : L.length = N) (hN : N ≤ 1048576) (hz : okL L = z) :
    Calls Tryd.prog 15 #[.slice A N c] w fun e w' => e = .returned (.bool z) ∧ Below w.heap.size w w' := by
  have H := Lib.hid h
  have HN := Lib.hid hn
  have HZ : Hid ((decide (1 ≤ (N : Int) ∧ (N : Int) ≤ 8) && L.all Pr.ok) = z) := Lib.hid (by rw [← hz, ← hn]; rfl)
  clear h hn hz
  by_cases h18 : 1 ≤ N ∧ N ≤ 8
  · obtain ⟨h1, h8⟩ := h18
    have HE : Hid (L.all Pr.ok = z) := Lib.hid (by rw [← HZ.out, decide_eq_true (by omega)]; rfl)
    clear HZ
    go_enter Tryd.func15, Tryd.ntmps15
    go_wp2_with fail
    go_loopw [15] (fun i wr => ∃ k : Nat, k ≤ N ∧ i = .int .i64 k ∧ Hid ((L.drop k).all Pr.ok = L.all Pr.ok) ∧ Below w.heap.size w wr) (fun i _ => N - (intOf i).toNat)
    case atStart => exact ⟨0, Nat.zero_le _, rfl, Lib.hid rfl, Below.refl _ _⟩
    case round =>
      obtain ⟨k, hk, rfl, HD, hb⟩ := hrel
      by_cases hlt : k < N
      · have hkx : k < L.length := by rw [HN.out]; exact hlt
        have hx? := List.getElem?_eq_getElem hkx
        obtain ⟨g, o, rfl, hg, c0, c1, c2⟩ := (H.out.below hb) k L[k] hx?
        have HO := Lib.hid (oks_drop hx?)
        clear hx?
        generalize L[k] = x at *
        obtain ⟨l, f, t⟩ := x
        dsimp only at c0 c1 c2
        have HB5 := Lib.hid (box_below wr (.cells #[.string l, .int .i64 f, .int .i64 t] 34))
        cases hok : okR l f t with
        | false =>
          have HOK := Lib.hid hok
          clear hok
          have HF : Hid (z = false) := Lib.hid (by rw [← HE.out, ← HD.out, HO.out]; unfold Pr.ok; rw [HOK.out]; rfl)
          go_wp2_with fail
          refine (valid_i l f t false _ HOK.out).mono ?_
          rintro e w6 ⟨rfl, b6⟩
          go_wp2_with fail
          go_ret
          exact ⟨by rw [HF.out]; rfl, hb.trans ((HB5.out.trans (b6.mono HB5.out.size)).mono hb.size)⟩
        | true =>
          have HOK := Lib.hid hok
          clear hok
          go_wp2_with fail
          refine (valid_i l f t true _ HOK.out).mono ?_
          rintro e w6 ⟨rfl, b6⟩
          go_wp2_with fail
          go_roundw
          case rel => exact ⟨k + 1, by omega, by go_num, Lib.hid (by rw [← HD.out, HO.out]; unfold Pr.ok; rw [HOK.out]; rfl), hb.trans ((HB5.out.trans (b6.mono HB5.out.size)).mono hb.size)⟩
          case measure => simp [intOf]; omega
      · have HX : Hid (z = true) := Lib.hid (by rw [← HE.out, ← HD.out, List.drop_eq_nil_of_le (by rw [HN.out]; omega)]; rfl)
        go_wp2_with fail
        go_ret
        exact ⟨by rw [HX.out]; rfl, hb⟩
  · have HF : Hid (z = false) := Lib.hid (by rw [← HZ.out, decide_eq_false (by omega)]; rfl)
    clear HZ
    by_cases h1 : N < 1
    · go_enter Tryd.func15, Tryd.ntmps15
      go_wp2_with fail
      go_ret
      exact ⟨by rw [HF.out]; rfl, Below.refl _ _⟩
    · have h9 : 8 < N := by omega
      clear h18
      go_enter Tryd.func15, Tryd.ntmps15
      go_wp2_with fail
      go_ret
      exact ⟨by rw [HF.out]; rfl, Below.refl _ _⟩

set_option maxHeartbeats 2000000 in
theorem good_s (A : Option Addr) (c N : Nat) (L : List Pr) (z : Bool) (w : World) (h : RdP w A L) (hn : L.length = N) (hN : N ≤ 1048576) (hz : okL L = z) :
    Calls Tryd.prog 17 #[.slice A N c] w fun e w' => e = .returned (.bool z) ∧ Below w.heap.size w w' := by
  have H := Lib.hid h
  have HN := Lib.hid hn
  have HZ : Hid ((decide (1 ≤ (N : Int) ∧ (N : Int) ≤ 8) && L.all Pr.ok) = z) := Lib.hid (by rw [← hz, ← hn]; rfl)
  clear h hn hz
  go_enter Tryd.func17, Tryd.ntmps17
  go_wp2_with fail
  go_loopw [3] (fun i wr => ∃ k : Nat, k ≤ N ∧ i = .int .i64 k ∧ Hid ((L.drop k).all Pr.ok = L.all Pr.ok) ∧ Below w.heap.size w wr) (fun i _ => N - (intOf i).toNat)
  case atStart => exact ⟨0, Nat.zero_le _, rfl, Lib.hid rfl, Below.refl _ _⟩
  case round =>
    obtain ⟨k, hk, rfl, HD, hb⟩ := hrel
    by_cases hlt : k < N
    · have hkx : k < L.length := by rw [HN.out]; exact hlt
      have hx? := List.getElem?_eq_getElem hkx
      obtain ⟨g, o, rfl, hg, c0, c1, c2⟩ := (H.out.below hb) k L[k] hx?
      have HO := Lib.hid (oks_drop hx?)
      clear hx?
      generalize L[k] = x at *
      obtain ⟨l, f, t⟩ := x
      dsimp only at c0 c1 c2
      cases hok : okR l f t with
      | false =>
        have HOK := Lib.hid hok
        clear hok
        have HF : Hid (z = false) := Lib.hid (by rw [← HZ.out, ← HD.out, HO.out]; unfold Pr.ok; rw [HOK.out]; simp)
        go_wp2_with fail
        refine (valid_s l f t false _ HOK.out).mono ?_
        rintro e w6 ⟨rfl, b6⟩
        go_wp2_with fail
        go_ret
        exact ⟨by rw [HF.out]; rfl, hb.trans (b6.mono hb.size)⟩
      | true =>
        have HOK := Lib.hid hok
        clear hok
        go_wp2_with fail
        refine (valid_s l f t true _ HOK.out).mono ?_
        rintro e w6 ⟨rfl, b6⟩
        go_wp2_with fail
        go_roundw
        case rel => exact ⟨k + 1, by omega, by go_num, Lib.hid (by rw [← HD.out, HO.out]; unfold Pr.ok; rw [HOK.out]; rfl), hb.trans (b6.mono hb.size)⟩
        case measure => simp [intOf]; omega
    · have HX : Hid (decide (1 ≤ (N : Int) ∧ (N : Int) ≤ 8) = z) := Lib.hid (by rw [← HZ.out, ← HD.out, List.drop_eq_nil_of_le (by rw [HN.out]; omega)]; simp)
      go_wp2_with fail
      refine (l1In_any N 1 8 z _ HX.out).mono ?_
      rintro e w' ⟨rfl, rfl⟩
      go_wp2_with fail
      go_ret
      exact ⟨rfl, hb⟩
end Go.Proofs.YtocgpoafhocbbaaDoor.Pg
