/-
  Plain mathematics of the natural order of texts: the longest runs of digits and of other bytes. Nothing of the program is named here.
-/
import Derived.Test.YthacdkbjefpoaaaDoorFoPl
namespace Go.Proofs.YthacdkbjefpoaaaDoor.NcPl
open Pl NmPl FoPl

def runsGo : Bool → List UInt8 → List UInt8 → List (List UInt8)
  | _, cur, [] => [cur]
  | k, cur, c :: r => if dg c = k then runsGo k (cur ++ [c]) r else cur :: runsGo (dg c) [c] r
def runs : List UInt8 → List (List UInt8)
  | [] => []
  | c :: r => runsGo (dg c) [c] r
theorem runsGo_span (k : Bool) : ∀ (r cur : List UInt8), runsGo k cur r = (cur ++ r.takeWhile (fun c => dg c == k)) :: runs (r.dropWhile (fun c => dg c == k))
  | [], cur => by simp [runsGo, runs]
  | c :: r, cur => by
    unfold runsGo
    by_cases h : dg c = k
    · rw [if_pos h, runsGo_span k r, List.takeWhile_cons_of_pos (by simpa using h), List.dropWhile_cons_of_pos (by simpa using h)]
      simp
    · rw [if_neg h, List.takeWhile_cons_of_neg (by simpa using h), List.dropWhile_cons_of_neg (by simpa using h), List.append_nil]
      rfl
/-- where the first run ends -/
def fe : List UInt8 → Nat
  | [] => 0
  | c :: r => (r.takeWhile (fun x => dg x == dg c)).length + 1
theorem fe_pos {l : List UInt8} (h : 0 < l.length) : 1 ≤ fe l ∧ fe l ≤ l.length := by
  cases l with
  | nil => simp at h
  | cons c r =>
    have := (List.takeWhile_prefix (l := r) (fun x => dg x == dg c)).length_le
    simp [fe]
    omega
theorem tw_in (p : UInt8 → Bool) : ∀ (r : List UInt8) (j : Nat) (x : UInt8), j < (r.takeWhile p).length → r[j]? = some x → p x = true
  | [], j, x, h, hx => by cases hx
  | c :: r, j, x, h, hx => by
    cases hc : p c with
    | false => rw [List.takeWhile_cons_of_neg (by simp [hc])] at h; simp at h
    | true =>
      rw [List.takeWhile_cons_of_pos hc] at h
      match j with
      | 0 => simp at hx; rw [← hx]; exact hc
      | j + 1 => exact tw_in p r j x (by simpa using h) (by simpa using hx)
theorem tw_stop (p : UInt8 → Bool) : ∀ (r : List UInt8) (x : UInt8), r[(r.takeWhile p).length]? = some x → p x = false
  | [], x, hx => by cases hx
  | c :: r, x, hx => by
    cases hc : p c with
    | false => rw [List.takeWhile_cons_of_neg (by simp [hc])] at hx; simp at hx; rw [← hx]; exact hc
    | true =>
      rw [List.takeWhile_cons_of_pos hc] at hx
      exact tw_stop p r x (by simpa using hx)
theorem fe_in {c : UInt8} {r : List UInt8} {j : Nat} {x : UInt8} (h : j + 1 < fe (c :: r)) (hx : (c :: r)[j + 1]? = some x) : dg x = dg c := by
  have := tw_in (fun x => dg x == dg c) r j x (by simpa [fe] using h) (by simpa using hx)
  simpa using this
theorem fe_out {c : UInt8} {r : List UInt8} {x : UInt8} (hx : (c :: r)[fe (c :: r)]? = some x) : dg x ≠ dg c := by
  have := tw_stop (fun x => dg x == dg c) r x (by simpa [fe] using hx)
  simpa using this
theorem runs_step {l : List UInt8} (h : 0 < l.length) : runs l = l.take (fe l) :: runs (l.drop (fe l)) := by
  cases l with
  | nil => simp at h
  | cons c r =>
    show runsGo (dg c) [c] r = _
    rw [runsGo_span]
    have e := List.takeWhile_append_dropWhile (p := fun x => dg x == dg c) (l := r)
    generalize ha : r.takeWhile (fun x => dg x == dg c) = a at *
    generalize r.dropWhile (fun x => dg x == dg c) = b at *
    have hf : fe (c :: r) = a.length + 1 := by show (r.takeWhile (fun x => dg x == dg c)).length + 1 = _; rw [ha]
    rw [hf, List.take_succ_cons, List.drop_succ_cons, ← e]
    simp
theorem runsGo_ne (k : Bool) : ∀ (r cur : List UInt8), cur ≠ [] → ∀ x ∈ runsGo k cur r, x ≠ []
  | [], cur, h, x, hx => by simp [runsGo] at hx; rw [hx]; exact h
  | c :: r, cur, h, x, hx => by
    unfold runsGo at hx
    split at hx
    · exact runsGo_ne k r _ (by simp) x hx
    · rcases List.mem_cons.1 hx with rfl | hx
      · exact h
      · exact runsGo_ne _ r _ (by simp) x hx
theorem runs_ne (l : List UInt8) : ∀ x ∈ runs l, x ≠ [] := by
  cases l with
  | nil => intro x hx; cases hx
  | cons c r => exact runsGo_ne _ r _ (by simp)
theorem runsGo_len (k : Bool) : ∀ (r cur : List UInt8), (runsGo k cur r).length ≤ r.length + 1
  | [], cur => by simp [runsGo]
  | c :: r, cur => by
    unfold runsGo
    split
    · have := runsGo_len k r (cur ++ [c]); simp; omega
    · have := runsGo_len (dg c) r [c]; simp; omega
theorem runs_len (l : List UInt8) : (runs l).length ≤ l.length := by
  cases l with
  | nil => exact Nat.le_refl _
  | cons c r => have := runsGo_len (dg c) r [c]; simpa [runs] using this
/-- one step of the model: the run from 'from' on, at the byte behind place i -/
theorem seg_snoc {l : List UInt8} {f i : Nat} {c : UInt8} (hf : f ≤ i) (hx : l[i]? = some c) : (l.take (i + 1)).drop f = (l.take i).drop f ++ [c] := by
  have hi := (List.getElem?_eq_some_iff.1 hx).1
  rw [List.take_add_one, hx, List.drop_append_of_le_length (by rw [List.length_take]; omega)]
  rfl
theorem go_at {l : List UInt8} {i : Nat} {c : UInt8} (hx : l[i]? = some c) (k : Bool) (cur : List UInt8) : runsGo k cur (l.drop i) = if dg c = k then runsGo k (cur ++ [c]) (l.drop (i + 1)) else cur :: runsGo (dg c) [c] (l.drop (i + 1)) := by
  obtain ⟨hi, e⟩ := List.getElem?_eq_some_iff.1 hx
  rw [List.drop_eq_getElem_cons hi, e]
  rfl
theorem go_end (l : List UInt8) (k : Bool) (cur : List UInt8) : runsGo k cur (l.drop l.length) = [cur] := by rw [List.drop_length]; rfl
theorem go_start {l : List UInt8} {c : UInt8} (hx : l[0]? = some c) : runsGo (dg c) ((l.take 1).drop 0) (l.drop 1) = runs l := by
  cases l with
  | nil => cases hx
  | cons d r => simp at hx; subst hx; rfl
/-- a run of digits without its leading zeros -/
def st0 (x : List UInt8) : List UInt8 := x.dropWhile (· == 48)
theorem st0_step {l : List UInt8} {k : Nat} {c : UInt8} (hx : l[k]? = some c) (h : c = 48) : st0 (l.drop k) = st0 (l.drop (k + 1)) := by
  obtain ⟨hi, e⟩ := List.getElem?_eq_some_iff.1 hx
  rw [List.drop_eq_getElem_cons hi, e, h]
  rfl
theorem st0_stop {l : List UInt8} {k : Nat} {c : UInt8} (hx : l[k]? = some c) (h : c ≠ 48) : st0 (l.drop k) = l.drop k := by
  obtain ⟨hi, e⟩ := List.getElem?_eq_some_iff.1 hx
  rw [List.drop_eq_getElem_cons hi, e]
  unfold st0
  rw [List.dropWhile_cons_of_neg (by simpa using h)]
theorem st0_len (l : List UInt8) : (st0 l).length ≤ l.length := (List.dropWhile_suffix _).length_le
end Go.Proofs.YthacdkbjefpoaaaDoor.NcPl
