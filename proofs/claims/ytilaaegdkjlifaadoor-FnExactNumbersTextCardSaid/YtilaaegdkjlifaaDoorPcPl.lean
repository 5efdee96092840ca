/-
  Plain mathematics of texts joined with a comma and a space: which list a text can come from, piece by piece. Nothing of the program is named here.
  T: the text of a thing; the things that are ok have texts without a comma, and different texts.
-/
import Derived.Test.YtilaaegdkjlifaaDoorNmPl
import Derived.Lib.Join
import Derived.Lib.IndexMore
namespace Go.Proofs.YtilaaegdkjlifaaDoor.PcPl
set_option linter.unusedSimpArgs false
set_option linter.unusedVariables false

theorem index_some {m s : List UInt8} : ∀ {p : Nat}, Lib.index m s = (p : Int) → Lib.occAt m s p = true := by
  intro p h
  rcases Lib.index_spec m s with ⟨h1, _⟩ | ⟨i, h1, _, h3, _⟩
  · omega
  · obtain rfl : i = p := by omega
    exact h3
theorem occ_two {s : List UInt8} {i : Nat} (h : Lib.occAt s [44, 32] i = true) : s = s.take i ++ 44 :: 32 :: s.drop (i + 2) := by
  unfold Lib.occAt at h
  have hp : [44, 32] <+: s.drop i := List.isPrefixOf_iff_prefix.1 h
  obtain ⟨r, hr⟩ := hp
  have e2 : s.drop (i + 2) = r := by
    rw [← List.drop_drop, ← hr]
    rfl
  rw [e2]
  conv => lhs; rw [← List.take_append_drop i s, ← hr]
  rfl
/-- the piece ahead of the first mark, and what follows -/
theorem cut_more {r : List UInt8} {i : Nat} (hi : Lib.index r [44, 32] = (i : Int)) : r = r.take i ++ 44 :: 32 :: r.drop (i + 2) := occ_two (index_some hi)
theorem occ_comma {s : List UInt8} {i : Nat} (h : Lib.occAt s [44, 32] i = true) : s[i]? = some 44 := by
  have e := occ_two h
  have hl : i ≤ s.length := by
    rcases Nat.lt_or_ge s.length i with h1 | h1
    · have : s.drop i = [] := List.drop_eq_nil_of_le (by omega)
      unfold Lib.occAt at h
      rw [this] at h
      cases h
    · exact h1
  rw [e, List.getElem?_append_right (by rw [List.length_take]; omega), List.length_take, Nat.min_eq_left hl, Nat.sub_self]
  rfl
theorem first_eq : ∀ {a b r r' : List UInt8}, (44 : UInt8) ∉ a → (44 : UInt8) ∉ b → a ++ 44 :: r = b ++ 44 :: r' → a = b ∧ r = r'
  | [], [], r, r', _, _, e => by
    injection e with _ e
    exact ⟨rfl, e⟩
  | [], y :: b, r, r', _, hb, e => by
    injection e with e1 _
    exact absurd (by rw [e1]; exact List.mem_cons_self ..) hb
  | x :: a, [], r, r', ha, _, e => by
    injection e with e1 _
    exact absurd (by rw [← e1]; exact List.mem_cons_self ..) ha
  | x :: a, y :: b, r, r', ha, hb, e => by
    injection e with e1 e2
    obtain ⟨h1, h2⟩ := first_eq (fun h => ha (List.mem_cons_of_mem _ h)) (fun h => hb (List.mem_cons_of_mem _ h)) e2
    exact ⟨by rw [e1, h1], h2⟩
section
variable {α : Type} (T : α → List UInt8)
/-- the text of a list -/
def J (L : List α) : List UInt8 := Lib.join (L.map T) [44, 32]
/-- the texts of a list, each with the mark behind it -/
def pre (R : List α) : List UInt8 := (R.map fun x => T x ++ [44, 32]).flatten
theorem pre_snoc (R : List α) (x : α) : pre T (R ++ [x]) = pre T R ++ (T x ++ [44, 32]) := by
  unfold pre
  rw [List.map_append, List.flatten_append]
  simp
theorem J_one (x : α) : J T [x] = T x := Lib.join_one _ _
theorem J_cons2 (x y : α) (L : List α) : J T (x :: y :: L) = T x ++ 44 :: 32 :: J T (y :: L) := by
  have h1 : J T (x :: y :: L) = T x ++ Lib.joinTail [44, 32] ((y :: L).map T) := Lib.join_cons _ _ _
  have h2 : J T (y :: L) = T y ++ Lib.joinTail [44, 32] (L.map T) := Lib.join_cons _ _ _
  rw [h1, h2]
  simp [Lib.joinTail]
theorem J_pre : ∀ (R : List α) {L : List α}, L ≠ [] → J T (R ++ L) = pre T R ++ J T L
  | [], L, _ => rfl
  | x :: R, L, h => by
    have ih := J_pre R h
    have hne : R ++ L ≠ [] := by
      intro e
      exact h (List.append_eq_nil_iff.1 e).2
    have e : J T (x :: (R ++ L)) = T x ++ 44 :: 32 :: J T (R ++ L) := by
      cases hRL : R ++ L with
      | nil => exact absurd hRL hne
      | cons y M => exact J_cons2 T x y M
    show J T (x :: (R ++ L)) = _
    rw [e, ih]
    unfold pre
    simp
variable {ok : α → Prop} (h44 : ∀ x, ok x → (44 : UInt8) ∉ T x)
include h44
/-- the first piece of a text with a mark -/
theorem piece_more {L : List α} (hok : ∀ x ∈ L, ok x) (hne : L ≠ []) {i : Nat} (hi : Lib.index (J T L) [44, 32] = (i : Int)) : ∃ y L', L = y :: L' ∧ L' ≠ [] ∧ T y = (J T L).take i ∧ J T L' = (J T L).drop (i + 2) := by
  have hocc := index_some hi
  match L, hne with
  | [y], _ =>
    rw [J_one] at hocc
    exact absurd (List.mem_of_getElem? (occ_comma hocc)) (h44 y (hok y (List.mem_cons_self ..)))
  | y :: z :: L', _ =>
    rw [J_cons2] at hi ⊢
    have hy := h44 y (hok y (List.mem_cons_self ..))
    have hf : Lib.index (T y ++ 44 :: 32 :: J T (z :: L')) [44, 32] = ((T y).length : Int) := by
      refine Lib.index_first (by simp) ?_ ?_
      · unfold Lib.occAt
        rw [List.drop_left]
        rfl
      · intro j hj
        cases hb : Lib.occAt (T y ++ 44 :: 32 :: J T (z :: L')) [44, 32] j with
        | false => rfl
        | true =>
          have h1 := occ_comma hb
          rw [List.getElem?_append_left hj] at h1
          exact absurd (List.mem_of_getElem? h1) hy
    have e : (T y).length = i := by omega
    refine ⟨y, z :: L', rfl, by simp, ?_, ?_⟩
    · rw [← e, List.take_left]
    · rw [← e, ← List.drop_drop, List.drop_left]
      rfl
omit h44 in
/-- a text without a mark is one piece -/
theorem piece_last {L : List α} (hok : ∀ x ∈ L, ok x) (hne : L ≠ []) (hi : Lib.index (J T L) [44, 32] < 0) : ∃ y, L = [y] ∧ T y = J T L := by
  match L, hne with
  | [y], _ => exact ⟨y, rfl, (J_one T y).symm⟩
  | y :: z :: L', _ =>
    exfalso
    rw [J_cons2] at hi
    rcases Lib.index_spec (T y ++ 44 :: 32 :: J T (z :: L')) [44, 32] with ⟨_, h⟩ | ⟨i, h, _⟩
    · have := h (T y).length (by simp)
      unfold Lib.occAt at this
      rw [List.drop_left] at this
      exact absurd this (by simp [List.isPrefixOf])
    · omega
/-- a list whose text begins with these texts begins with their things -/
theorem pre_one (inj : ∀ x y, ok x → ok y → T x = T y → x = y) : ∀ (R : List α), (∀ x ∈ R, ok x) → ∀ (L : List α), (∀ x ∈ L, ok x) → L ≠ [] → ∀ {r : List UInt8}, J T L = pre T R ++ r → ∃ L2, L = R ++ L2 ∧ L2 ≠ [] ∧ J T L2 = r
  | [], _, L, _, hne, r, e => ⟨L, rfl, hne, e⟩
  | x :: R, hR, L, hok, hne, r, e => by
    have e' : J T L = T x ++ 44 :: 32 :: (pre T R ++ r) := by
      rw [e]
      unfold pre
      simp
    have hx := hR x (List.mem_cons_self ..)
    match L, hne with
    | [y], _ =>
      rw [J_one] at e'
      exact absurd (by rw [e']; simp) (h44 y (hok y (List.mem_cons_self ..)))
    | y :: z :: L', _ =>
      have hy := hok y (List.mem_cons_self ..)
      rw [J_cons2] at e'
      obtain ⟨h1, h2⟩ := first_eq (h44 y hy) (h44 x hx) e'
      injection h2 with _ h3
      obtain ⟨L2, h4, h5, h6⟩ := pre_one inj R (fun a ha => hR a (List.mem_cons_of_mem _ ha)) (z :: L') (fun a ha => hok a (List.mem_cons_of_mem _ ha)) (by simp) h3
      refine ⟨L2, ?_, h5, h6⟩
      rw [inj y x hy hx h1, h4]
      rfl
end
end Go.Proofs.YtilaaegdkjlifaaDoor.PcPl
