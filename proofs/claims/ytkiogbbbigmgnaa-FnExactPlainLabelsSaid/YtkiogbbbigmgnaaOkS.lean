/-
  A valid name is small.
-/
import Derived.Test.YtkiogbbbigmgnaaGood
namespace Go.Proofs.Ytkiogbbbigmgnaa.Cmp
open Go.RowKit Pl Strs Help Name Stands SplitPl NmPl Word Part NGood

theorem lens_le {xs : List ByteArray} (h : ∀ x ∈ ls xs, x.length ≤ 12) : lens xs ≤ 12 * xs.length := by
  induction xs with
  | nil => simp [lens]
  | cons x r ih =>
    have h1 := ih (fun y hy => h y (by unfold ls at *; exact List.mem_cons_of_mem _ hy))
    have h2 := h x.data.toList (by unfold ls; exact List.mem_cons_self ..)
    rw [len_size] at h2
    simp only [lens, List.map_cons, List.sum_cons, List.length_cons] at *
    omega
theorem low_len {l : List UInt8} (h : lowB l = true) : l.length ≤ 12 := by
  unfold lowB at h
  simp only [Bool.and_eq_true, decide_eq_true_eq] at h
  exact h.1.2
theorem part_len {p : List UInt8} (h : (p.isEmpty || partB p) = true) : p.length ≤ 25 := by
  rw [Bool.or_eq_true] at h
  rcases h with h | h
  · rw [List.isEmpty_iff] at h; subst h; simp
  · unfold partB at h
    simp only [Bool.and_eq_true, decide_eq_true_eq] at h
    obtain ⟨ha, hl⟩ := h
    have e := join_split 32 p
    generalize split 32 p = D at *
    match D, hl with
    | [], _ => rw [← e]; simp [Lib.join]
    | [a], _ =>
      have := low_len (List.all_eq_true.1 ha a (by simp))
      rw [← e]; simp [Lib.join]; omega
    | [a, b], _ =>
      have h1 := low_len (List.all_eq_true.1 ha a (by simp))
      have h2 := low_len (List.all_eq_true.1 ha b (by simp))
      rw [← e]; simp [Lib.join]; omega
/-- a valid name is small -/
theorem ok_small {xs : List ByteArray} {p f s : ByteArray} (h : okN xs p f s = true) : xs.length + lens xs + p.size + f.size + s.size ≤ 1000 := by
  have hg : goodB (ls xs) p.data.toList f.data.toList s.data.toList = true := h
  unfold goodB at hg
  simp only [Bool.and_eq_true, decide_eq_true_eq] at hg
  obtain ⟨⟨⟨⟨h1, h2⟩, h3⟩, h4⟩, h5⟩ := hg
  have e1 := lens_le (xs := xs) (fun x hx => word_len (cap_word (List.all_eq_true.1 h1 x hx)))
  have e2 := part_len h3
  have e3 := word_len (cap_word h4)
  have e4 : s.data.toList.length ≤ 12 := by
    rw [Bool.or_eq_true] at h5
    rcases h5 with h5 | h5
    · rw [List.isEmpty_iff] at h5; rw [h5]; simp
    · exact word_len h5
  rw [ls_len] at h2
  rw [len_size] at e2 e3 e4
  omega
end Go.Proofs.Ytkiogbbbigmgnaa.Cmp
