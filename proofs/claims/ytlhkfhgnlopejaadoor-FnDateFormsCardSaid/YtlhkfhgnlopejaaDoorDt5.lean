/-
  Contracts of chapter 3: l3Compare, cmp.Compare and cmp.Or at int, compareBools.
-/
import Derived.Test.YtlhkfhgnlopejaaDoorDt4
import Derived.LoopTactic
namespace Go.Proofs.YtlhkfhgnlopejaaDoor.Dt
open Go.RowKit DtPl
set_option linter.unusedSimpArgs false
set_option linter.unusedVariables false

theorem isNaN (x : Int) (w : World) : Calls Tryd.prog 46 #[.int .i64 x] w fun e w' => e = .returned (.bool false) ∧ w = w' := by
  go_enter Tryd.func46, Tryd.ntmps46
  go_wp2_with fail
  go_ret
  exact ⟨ret_bool (by simp), rfl⟩
set_option maxHeartbeats 1000000 in
theorem compareInt (x y : Int) (w : World) : Calls Tryd.prog 28 #[.int .i64 x, .int .i64 y] w fun e w' => e = .returned (.int .i64 (cmpI x y)) ∧ w = w' := by
  go_enter Tryd.func28, Tryd.ntmps28
  go_wp2_with fail
  refine (isNaN x _).mono ?_
  rintro e w' ⟨rfl, rfl⟩
  go_wp2_with fail
  refine (isNaN y _).mono ?_
  rintro e w' ⟨rfl, rfl⟩
  go_wp2_with fail
  all_goals go_ret
  all_goals refine ⟨ret_int ?_, rfl⟩
  all_goals unfold cmpI
  all_goals repeat' split
  all_goals omega
theorem compareBools (a b : Bool) (w : World) : Calls Tryd.prog 29 #[.bool a, .bool b] w fun e w' => e = .returned (.int .i64 (cmpB a b)) ∧ w = w' := by
  cases a <;> cases b
  all_goals
    go_enter Tryd.func29, Tryd.ntmps29
    go_wp2_with fail
    go_ret
    exact ⟨rfl, rfl⟩
/-- the slice of numbers at A -/
def RdI (w : World) (A : Option Addr) (xs : List Int) : Prop := ∀ j x, xs[j]? = some x → ∃ g o, A = some ⟨g, o, none⟩ ∧ w.cell? ⟨g, o + j, none⟩ = some (.int .i64 x)
/-- the first number that is not 0 -/
def orL (xs : List Int) : Int := xs.foldr orI 0
theorem orL_skip {xs : List Int} {k : Nat} (h : ∀ j, j < k → xs[j]? = some 0 ∨ xs[j]? = none) : orL xs = orL (xs.drop k) := by
  induction k generalizing xs with
  | zero => rfl
  | succ k ih =>
    cases xs with
    | nil => rfl
    | cons x r =>
      have h0 := h 0 (by omega)
      simp at h0
      subst h0
      have := ih (xs := r) (fun j hj => by have := h (j + 1) (by omega); simpa using this)
      show orI 0 (orL r) = _
      rw [this]; rfl
set_option maxHeartbeats 1000000 in
theorem orInt (A : Option Addr) (n c : Nat) (xs : List Int) (w : World) (h : RdI w A xs) (hn : xs.length = n) (hle : n ≤ 1000) :
    Calls Tryd.prog 27 #[.slice A n c] w fun e w' => e = .returned (.int .i64 (orL xs)) ∧ w = w' := by
  have H := Lib.hid h
  have HN := Lib.hid hn
  clear h hn
  go_enter Tryd.func27, Tryd.ntmps27
  go_wp2_with fail
  go_loop [8] (fun i => ∃ k : Nat, k ≤ n ∧ i = .int .i64 k ∧ Hid (∀ j, j < k → xs[j]? = some 0 ∨ xs[j]? = none)) (fun i => n - (intOf i).toNat)
  case atStart => exact ⟨0, Nat.zero_le _, rfl, Lib.hid (fun j hj => by omega)⟩
  case round =>
    obtain ⟨k, hk, rfl, HZ⟩ := hrel
    by_cases hlt : k < n
    · have hkx : k < xs.length := by rw [HN.out]; exact hlt
      have hx? := List.getElem?_eq_getElem hkx
      obtain ⟨g, of, rfl, hc⟩ := H.out k xs[k] hx?
      have HX := Lib.hid hx?
      clear hx?
      generalize xs[k] = x at *
      by_cases hx0 : x = 0
      · subst hx0
        go_wp2_with fail
        go_round
        case rel =>
          refine ⟨k + 1, by omega, by go_num, Lib.hid (fun j hj => ?_)⟩
          rcases Nat.lt_or_ge j k with h | h
          · exact HZ.out j h
          · obtain rfl : j = k := by omega
            exact .inl HX.out
        case measure => simp [intOf]; omega
      · have HO : Hid (orL xs = x) := Lib.hid (by
          rw [orL_skip HZ.out]
          obtain ⟨hl, he⟩ := List.getElem?_eq_some_iff.1 HX.out
          rw [List.drop_eq_getElem_cons hl, he]
          show orI x _ = x
          unfold orI; rw [if_neg hx0])
        have hx1 : (x != 0) = true := by simpa using hx0
        go_wp2_with fail
        go_ret
        exact ⟨ret_int HO.out.symm, rfl⟩
    · have HO : Hid (orL xs = 0) := Lib.hid (by
        rw [orL_skip HZ.out, List.drop_eq_nil_of_le (by rw [HN.out]; omega)]; rfl)
      go_wp2_with fail
      go_ret
      exact ⟨ret_int HO.out.symm, rfl⟩

theorem pos_form (x : Int) (c c' : Bool) (h : 0 < x) : (if x < 0 ∨ (x = 0 ∧ c = false ∧ c' = true) then (-1 : Int) else if 0 < x ∨ (c = true ∧ c' = false) then 1 else 0) = 1 := by
  rw [if_neg (by rintro (h1 | ⟨h1, _⟩) <;> omega), if_pos (.inl h)]
theorem neg_form (x : Int) (c c' : Bool) (h : x < 0) : (if x < 0 ∨ (x = 0 ∧ c = false ∧ c' = true) then (-1 : Int) else if 0 < x ∨ (c = true ∧ c' = false) then 1 else 0) = -1 := by
  rw [if_pos (.inl h)]
set_option maxHeartbeats 4000000 in
theorem cmp_model {y m d : Int} {c : Bool} {y' m' d' : Int} {c' : Bool} (h : okB y m d c = true) (h' : okB y' m' d' c' = true) (x : Int) (hx : x = (y * 13 + m) * 32 + d - (y' * 13 + m') * 32 - d') :
    cmpD y m d c y' m' d' c' = if x < 0 ∨ (x = 0 ∧ c = false ∧ c' = true) then -1 else if 0 < x ∨ (c = true ∧ c' = false) then 1 else 0 := by
  have b := ok_bd h
  have b' := ok_bd h'
  clear h h'
  have hcb : cmpB c c' = if c = c' then 0 else if c' = true then -1 else 1 := rfl
  unfold cmpD orI cmpI
  rw [hcb]
  clear hcb
  rcases Int.lt_trichotomy y y' with h1 | h1 | h1
  · have hx0 : x < 0 := by omega
    rw [neg_form x c c' hx0, if_pos h1]; rfl
  · subst h1
    rcases Int.lt_trichotomy m m' with h2 | h2 | h2
    · have hx0 : x < 0 := by omega
      rw [neg_form x c c' hx0, if_pos h2]; simp
    · subst h2
      rcases Int.lt_trichotomy d d' with h3 | h3 | h3
      · have hx0 : x < 0 := by omega
        rw [neg_form x c c' hx0, if_pos h3]; simp
      · subst h3
        have hx0 : x = 0 := by omega
        subst hx0
        cases c <;> cases c' <;> simp
      · have hx0 : 0 < x := by omega
        rw [pos_form x c c' hx0]
        have : ¬ d < d' := by omega
        simp [this, h3]
    · have hx0 : 0 < x := by omega
      rw [pos_form x c c' hx0]
      have : ¬ m < m' := by omega
      simp [this, h2]
  · have hx0 : 0 < x := by omega
    rw [pos_form x c c' hx0]
    have : ¬ y < y' := by omega
    simp [this, h1]
end Go.Proofs.YtlhkfhgnlopejaaDoor.Dt
