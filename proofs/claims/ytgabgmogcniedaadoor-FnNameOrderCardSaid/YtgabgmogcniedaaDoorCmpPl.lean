/-
  Plain mathematics of the order of names: valid names are of plain bytes, particles are in lower case already. Nothing of the program is named here.
-/
import Derived.Test.YtgabgmogcniedaaDoorNmPl
import Derived.Lib.Case
namespace Go.Proofs.YtgabgmogcniedaaDoor.CmpPl
open Pl Stands SplitPl NmPl

/-- all bytes are below 128 -/
def asc (l : List UInt8) : Prop := ∀ c ∈ l, c.toNat < 128
theorem asc_at {l : List UInt8} (h : asc l) : ∀ (j : Nat) (b : UInt8), l[j]? = some b → b.toNat < 128 := fun _ b hb => h b (List.mem_of_getElem? hb)
theorem lt_asc {c : UInt8} (h : isLt c = true) : c.toNat < 128 := by
  unfold isLt isUp isLo at h; simp at h; omega
theorem hy_asc {c : UInt8} (h : isHy c = true) : c.toNat < 128 := by
  unfold isHy at h; simp at h; omega
theorem wgo_asc : ∀ (l : List UInt8) (p : Bool), wgo p l = true → asc l
  | [], _, _ => fun c hc => by cases hc
  | c :: l, p, h => by
    cases h1 : isLt c with
    | true =>
      rw [wgo_lt h1] at h
      intro x hx
      rcases List.mem_cons.1 hx with rfl | hx
      · exact lt_asc h1
      · exact wgo_asc l true h x hx
    | false =>
      cases p with
      | false => rw [wgo_no' h1] at h; cases h
      | true =>
        cases h2 : isHy c with
        | true =>
          rw [wgo_hy h1 h2] at h
          intro x hx
          rcases List.mem_cons.1 hx with rfl | hx
          · exact hy_asc h2
          · exact wgo_asc l false h x hx
        | false => rw [wgo_no h1 h2] at h; cases h
theorem word_asc {l : List UInt8} (h : wordB l = true) : asc l := by
  unfold wordB at h
  rw [Bool.and_eq_true] at h
  exact wgo_asc l false h.2
theorem cap_asc {l : List UInt8} (h : capB l = true) : asc l := word_asc (cap_word h)
theorem jn_mem (xs : List (List UInt8)) : ∀ c ∈ jn xs, c = 32 ∨ ∃ x ∈ xs, c ∈ x := by
  refine listSnoc (P := fun xs => ∀ c ∈ jn xs, c = 32 ∨ ∃ x ∈ xs, c ∈ x) (fun c hc => by cases hc) ?_ xs
  intro l x ih c hc
  rw [jn_snoc] at hc
  have hl : c ∈ jn l → c = 32 ∨ ∃ y ∈ l ++ [x], c ∈ y := fun h => by
    rcases ih c h with h | ⟨y, hy, hcy⟩
    · exact .inl h
    · exact .inr ⟨y, List.mem_append_left _ hy, hcy⟩
  unfold jstep at hc
  split at hc
  · rcases List.mem_append.1 hc with h | h
    · exact hl h
    · rcases List.mem_cons.1 h with h | h
      · exact .inl h
      · exact .inr ⟨x, by simp, h⟩
  · rcases List.mem_append.1 hc with h | h
    · exact hl h
    · exact .inr ⟨x, by simp, h⟩
theorem jn_asc {xs : List (List UInt8)} (h : ∀ x ∈ xs, asc x) : asc (jn xs) := by
  intro c hc
  rcases jn_mem xs c hc with rfl | ⟨x, hx, hcx⟩
  · decide
  · exact h x hx c hcx
theorem lowB_all {l : List UInt8} (h : lowB l = true) : l ≠ [] ∧ ∀ c ∈ l, isLo c = true := by
  unfold lowB at h
  simp only [Bool.and_eq_true, decide_eq_true_eq] at h
  exact ⟨fun e => by rw [e] at h; simp at h, List.all_eq_true.1 h.2⟩
theorem part_bytes {p : List UInt8} (h : (p.isEmpty || partB p) = true) : ∀ c ∈ p, c = 32 ∨ isLo c = true := by
  rw [Bool.or_eq_true] at h
  rcases h with h | h
  · rw [List.isEmpty_iff] at h; subst h; exact fun c hc => by cases hc
  · unfold partB at h
    rw [Bool.and_eq_true] at h
    have ha := List.all_eq_true.1 h.1
    have e := join_split 32 p
    rw [jn_all (fun x hx => (lowB_all (ha x hx)).1)] at e
    intro c hc
    rw [← e] at hc
    rcases jn_mem _ c hc with h | ⟨x, hx, hcx⟩
    · exact .inl h
    · exact .inr ((lowB_all (ha x hx)).2 c hcx)
theorem part_asc {p : List UInt8} (h : (p.isEmpty || partB p) = true) : asc p := by
  intro c hc
  rcases part_bytes h c hc with rfl | h
  · decide
  · unfold isLo at h; simp at h; omega
theorem part_low {p : List UInt8} (h : (p.isEmpty || partB p) = true) : Lib.toLowerA p = p := by
  unfold Lib.toLowerA
  conv => rhs; rw [← List.map_id p]
  refine List.map_congr_left fun c hc => ?_
  have hu : Lib.isUpperB c = false := by
    unfold Lib.isUpperB
    rw [Bool.eq_false_iff]
    intro he
    simp [UInt8.le_iff_toNat_le] at he
    rcases part_bytes h c hc with rfl | h
    · revert he; decide
    · unfold isLo at h; simp at h; omega
  unfold Lib.lowerB
  rw [hu]; rfl
theorem good_asc {gs : List (List UInt8)} {p f s : List UInt8} (h : goodB gs p f s = true) : asc f ∧ asc (jn [jn gs, p, f, s]) ∧ asc p ∧ Lib.toLowerA p = p := by
  unfold goodB at h
  simp only [Bool.and_eq_true] at h
  obtain ⟨⟨⟨⟨h1, _⟩, h2⟩, h3⟩, h4⟩ := h
  have hs : asc s := by
    rw [Bool.or_eq_true] at h4
    rcases h4 with h4 | h4
    · rw [List.isEmpty_iff] at h4; subst h4; exact fun c hc => by cases hc
    · exact word_asc h4
  refine ⟨cap_asc h3, jn_asc fun x hx => ?_, part_asc h2, part_low h2⟩
  simp only [List.mem_cons, List.not_mem_nil, or_false] at hx
  rcases hx with rfl | rfl | rfl | rfl
  · exact jn_asc fun y hy => cap_asc (List.all_eq_true.1 h1 y hy)
  · exact part_asc h2
  · exact cap_asc h3
  · exact hs
end Go.Proofs.YtgabgmogcniedaaDoor.CmpPl
