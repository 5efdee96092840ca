/-
  Plain mathematics of spans: normalized lists. Nothing of the program is named here.
-/
import Derived.Test.YtljbbmefemfjpaaSpPl
namespace Go.Proofs.Ytljbbmefemfjpaa.SpPl

/-- the next span joined to a normal list -/
def stp (M : List Sp1) (x : Sp1) : List Sp1 :=
  if x.l.size = 0 then M else
  match M.getLast? with
  | some y => if y.f = x.f ∧ y.t = x.t then M.set (M.length - 1) ⟨y.l ++ x.l, y.f, y.t⟩ else M ++ [x]
  | none => M ++ [x]
/-- the normalized list -/
def nmL (L : List Sp1) : List Sp1 := L.foldl stp []
theorem nm_take {L : List Sp1} {k : Nat} {x : Sp1} (h : L[k]? = some x) : nmL (L.take (k + 1)) = stp (nmL (L.take k)) x := by
  unfold nmL
  rw [List.take_add_one, h, List.foldl_append]
  rfl
theorem stp_0 {M : List Sp1} {x : Sp1} (h : x.l.size = 0) : stp M x = M := by
  unfold stp; rw [if_pos h]
theorem stp_first {x : Sp1} (h : 0 < x.l.size) : stp [] x = [x] := by
  unfold stp; rw [if_neg (by omega)]; rfl
theorem last_of {M : List Sp1} {n : Nat} {y : Sp1} (hn : M.length = n + 1) (hy : M[n]? = some y) : M.getLast? = some y := by
  rw [List.getLast?_eq_getElem?, hn, Nat.add_sub_cancel]
  exact hy
theorem stp_join {M : List Sp1} {x y : Sp1} {n : Nat} (hn : M.length = n + 1) (hy : M[n]? = some y) (h : 0 < x.l.size) (hf : y.f = x.f) (ht : y.t = x.t) : stp M x = M.set n ⟨y.l ++ x.l, y.f, y.t⟩ := by
  unfold stp
  rw [if_neg (by omega), last_of hn hy, hn]
  simp [hf, ht]
theorem stp_add {M : List Sp1} {x y : Sp1} {n : Nat} (hn : M.length = n + 1) (hy : M[n]? = some y) (h : 0 < x.l.size) (hd : ¬(y.f = x.f ∧ y.t = x.t)) : stp M x = M ++ [x] := by
  unfold stp
  rw [if_neg (by omega), last_of hn hy]
  simp only
  rw [if_neg hd]
theorem szL_app (M K : List Sp1) : szL (M ++ K) = szL M + szL K := by
  unfold szL
  rw [List.map_append, List.sum_append]
theorem szL_set {M : List Sp1} {n : Nat} {y z : Sp1} (hy : M[n]? = some y) : szL (M.set n z) + y.l.size = szL M + z.l.size := by
  induction M generalizing n with
  | nil => simp at hy
  | cons a r ih =>
    cases n with
    | zero =>
      simp at hy
      subst hy
      simp [szL]
      omega
    | succ n =>
      have := ih (n := n) (by simpa using hy)
      simp [szL] at this ⊢
      omega
theorem szL_one (x : Sp1) : szL [x] = x.l.size := by simp [szL]
theorem stp_facts (M : List Sp1) (x : Sp1) : szL (stp M x) = szL M + x.l.size ∧ (stp M x).length ≤ M.length + 1 := by
  by_cases h : x.l.size = 0
  · rw [stp_0 h, h]; exact ⟨rfl, Nat.le_succ _⟩
  · rcases Nat.eq_zero_or_pos M.length with h0 | h0
    · obtain rfl := List.eq_nil_of_length_eq_zero h0
      rw [stp_first (by omega)]
      exact ⟨by rw [szL_one]; simp [szL], Nat.le_refl _⟩
    · obtain ⟨n, hn⟩ : ∃ n, M.length = n + 1 := ⟨M.length - 1, by omega⟩
      have hy := List.getElem?_eq_getElem (show n < M.length by omega)
      by_cases hd : (M[n]'(by omega)).f = x.f ∧ (M[n]'(by omega)).t = x.t
      · rw [stp_join hn hy (by omega) hd.1 hd.2]
        have := szL_set (z := ⟨(M[n]'(by omega)).l ++ x.l, (M[n]'(by omega)).f, (M[n]'(by omega)).t⟩) hy
        simp at this
        exact ⟨by omega, by rw [List.length_set]; omega⟩
      · rw [stp_add hn hy (by omega) hd, szL_app, szL_one]
        exact ⟨rfl, by simp⟩
theorem nm_facts (L : List Sp1) : szL (nmL L) = szL L ∧ (nmL L).length ≤ L.length := by
  have key : ∀ (L M : List Sp1), szL (L.foldl stp M) = szL M + szL L ∧ (L.foldl stp M).length ≤ M.length + L.length := by
    intro L
    induction L with
    | nil => intro M; simp [szL]
    | cons x r ih =>
      intro M
      obtain ⟨h1, h2⟩ := ih (stp M x)
      obtain ⟨h3, h4⟩ := stp_facts M x
      have e : szL (x :: r) = x.l.size + szL r := by simp [szL]
      rw [List.foldl_cons, h1, h3, e, List.length_cons]
      exact ⟨by omega, by omega⟩
  have := key L []
  simpa [szL, nmL] using this
end Go.Proofs.Ytljbbmefemfjpaa.SpPl
