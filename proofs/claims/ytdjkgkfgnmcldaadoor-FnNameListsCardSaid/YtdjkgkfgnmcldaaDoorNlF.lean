/-
  What FnNameLists needs of JoinNames and SamePeople, over letters; a drawn list as the functions read it.
-/
import Derived.Test.YtdjkgkfgnmcldaaDoorJn2
import Derived.Test.YtdjkgkfgnmcldaaDoorPe
import Derived.Test.YtdjkgkfgnmcldaaDoorDsp
namespace Go.Proofs.YtdjkgkfgnmcldaaDoor.NlF
open Go.RowKit Pl Strs Help Name SplitPl NmPl NGood Forms Nms Jn Pe IniPl Ini StN
set_option linter.unusedVariables false
set_option linter.unusedSimpArgs false

theorem okN_fam {xs : List ByteArray} {p f s : ByteArray} (h : okN xs p f s = true) : f.data.toList ≠ [] := by
  rw [okN_eq] at h
  simp only [Bool.and_eq_true] at h
  exact cap_ne h.1.2
theorem short_ne {xs : List ByteArray} {p f s : ByteArray} (h : okN xs p f s = true) : shortL xs p f s ≠ [] := by
  have hf := okN_fam h
  have e : shortL xs p f s = jstep (jn [iniL xs p f s, p.data.toList]) f.data.toList := by
    unfold shortL
    exact jn_snoc [iniL xs p f s, p.data.toList] f.data.toList
  rw [e]
  unfold jstep
  repeat' split
  all_goals simp_all
theorem jpre_ne {F : List (List UInt8)} (h0 : F.getD 0 [] ≠ []) : ∀ k, 0 < k → jpre F k ≠ []
  | 1, _ => by
    show [] ++ ((if (0 : Nat) = 0 then [] else _) ++ F.getD 0 []) ≠ []
    rw [if_pos rfl]
    simpa using h0
  | k + 2, _ => by
    show jpre F (k + 1) ++ _ ≠ []
    intro e
    exact jpre_ne h0 (k + 1) (by omega) (List.append_eq_nil_iff.1 e).1
theorem ba_nil {l : List UInt8} : ba l = ⟨#[]⟩ ↔ l = [] := by
  constructor
  · intro h
    have := congrArg (fun b : ByteArray => b.data.toList) h
    simpa [ba] using this
  · rintro rfl; rfl
theorem jnB_ne {L : List Nm} (q : Nat) (hok : ∀ x ∈ L, x.ok = true) (hl : 0 < L.length) : jnB (ls (forms L)) q ≠ [] := by
  have h0 : (ls (forms L)).getD 0 [] ≠ [] := by
    rw [ls_forms L (List.getElem?_eq_getElem hl), shB, toList_ba]
    exact short_ne (hok _ (List.getElem_mem hl))
  unfold jnB
  split
  · simp [etal]
  · exact jpre_ne h0 _ (by rw [ls_len, forms_len]; exact hl)
theorem jn_vals (L : List Nm) (z : Int) : ∃ (s : ByteArray) (r : Bool) (al : ByteArray) (ra : Bool), jnV L z = .tuple #[.string s, .bool r] ∧ jnV L 4 = .tuple #[.string al, .bool ra] ∧ (r = true → ra = true ∧ ((L.length : Int) ≤ z → al = s) ∧ (0 < L.length → s ≠ ⟨#[]⟩) ∧ (L.length = 0 → s = ⟨#[]⟩)) := by
  by_cases h : okL L = true ∧ 1 ≤ z ∧ z ≤ 4
  · have h4 : okL L = true ∧ (1 : Int) ≤ 4 ∧ (4 : Int) ≤ 4 := ⟨h.1, by omega, by omega⟩
    obtain ⟨hl4, hok⟩ := okL_yes h.1
    refine ⟨ba (jnB (ls (forms L)) z.toNat), true, ba (jnB (ls (forms L)) 4), true, by unfold jnV; exact if_pos h, by unfold jnV; exact if_pos h4, fun _ => ⟨rfl, fun hz => ?_, fun hp e => jnB_ne _ hok hp (ba_nil.1 e), fun hz => ?_⟩⟩
    · rw [jnB_all (by rw [ls_len, forms_len]; omega), jnB_all (by rw [ls_len, forms_len]; omega)]
    · have e : L = [] := List.length_eq_zero_iff.1 hz
      subst e
      rw [jnB_all (Nat.zero_le _)]
      rfl
  · refine ⟨⟨#[]⟩, false, ?_⟩
    by_cases h4 : okL L = true ∧ (1 : Int) ≤ 4 ∧ (4 : Int) ≤ 4
    · exact ⟨_, true, by unfold jnV; exact if_neg h, by unfold jnV; exact if_pos h4, fun e => by cases e⟩
    · exact ⟨_, false, by unfold jnV; exact if_neg h, by unfold jnV; exact if_neg h4, fun e => by cases e⟩
theorem sp_vals (L M : List Nm) : ∃ r q : Bool, spV L M = .tuple #[.bool r, .bool q] ∧ (r = true → L.length = M.length) := by
  by_cases h : okL L = true ∧ okL M = true
  · refine ⟨peB L M, true, by unfold spV; exact if_pos h, fun e => ?_⟩
    unfold peB at e
    rw [Bool.and_eq_true, decide_eq_true_eq] at e
    exact e.1
  · exact ⟨false, false, by unfold spV; exact if_neg h, fun e => by cases e⟩
/-- a drawn list as the functions read it -/
theorem rd_of {W : World} {B : Nat} {A : Option Addr} {n c : Nat} {L : List Nm} (h : GvL W B (.slice A n c) L) : RdN0 W A L := fun j x hx => by
  obtain ⟨g, rfl, hg, d0, d1, d2, d3⟩ := GvL.cells h hx
  obtain ⟨hn, hG⟩ := h.2 x (List.mem_of_getElem? hx)
  refine ⟨?_, g, 0, rfl, hg, by rw [Nat.zero_add]; exact d0, by rw [Nat.zero_add]; exact d1, by rw [Nat.zero_add]; exact d2, by rw [Nat.zero_add]; exact d3⟩
  have hG' : W.ownsRow B 9 1 (.slice x.A x.n x.c) x.n (x.xs.map Value.string) := by
    have := hG
    unfold Gv at this
    rwa [hn] at this
  exact Rdn.own hG'
theorem lens_sm : ∀ (xs : List ByteArray), (∀ x ∈ xs, Sm x) → lens xs ≤ 16 * xs.length
  | [], _ => Nat.zero_le _
  | x :: r, h => by
    have h1 := lens_sm r (fun y hy => h y (List.mem_cons_of_mem _ hy))
    have h2 : x.size ≤ 16 := h x (List.mem_cons_self ..)
    have e : lens (x :: r) = x.size + lens r := by simp [lens]
    rw [e, List.length_cons]
    omega
theorem sz_sm {L : List Nm} (h : ∀ x ∈ L, SmN x) : ∀ x ∈ L, x.sz ≤ 1048576 := fun x hx => by
  obtain ⟨h1, h2, h3, h4, h5⟩ := h x hx
  have h6 := lens_sm x.xs h2
  unfold Sm at h3 h4 h5
  unfold Nm.sz
  omega
end Go.Proofs.YtdjkgkfgnmcldaaDoor.NlF
