/-
  ParseInverse: the name that the program reads, and what the answer is.
-/
import Derived.Test.YtmdjdgamojndkaaDoorPiPl
import Derived.Test.YtmdjdgamojndkaaDoorJoinPl
import Derived.Test.YtmdjdgamojndkaaDoorTx
namespace Go.Proofs.YtmdjdgamojndkaaDoor.Pi
open Go.RowKit Pl Strs Help Name Stands SplitPl NmPl Word Part NGood Forms
set_option linter.unusedSimpArgs false
set_option linter.unusedVariables false

@[reducible] def em : ByteArray := ⟨#[]⟩
def cX (s : ByteArray) : List ByteArray := (gvL (cutG s.data.toList)).map ba
def cP (s : ByteArray) : ByteArray := ba (prtL (cutH s.data.toList))
def cF (s : ByteArray) : ByteArray := ba (famL (cutH s.data.toList))
def cU (s : ByteArray) : ByteArray := ba (cutU s.data.toList)
theorem ls_map_ba (l : List (List UInt8)) : ls (l.map ba) = l := by
  unfold ls
  rw [List.map_map]
  have : ((fun x : ByteArray => x.data.toList) ∘ ba) = id := by funext x; exact toList_ba x
  rw [this, List.map_id]
theorem map_ba_ls (xs : List ByteArray) : (ls xs).map ba = xs := by
  unfold ls
  rw [List.map_map]
  have : (ba ∘ fun x : ByteArray => x.data.toList) = id := by funext x; exact ba_toList x
  rw [this, List.map_id]
theorem inv_iv (xs : List ByteArray) (p f u : ByteArray) : invL xs p f u = ivG (ls xs) p.data.toList f.data.toList u.data.toList := by
  unfold invL ivG hdL
  rw [ls_len]
theorem cand_eq {xs : List ByteArray} {p f u s : ByteArray} (h : okN xs p f u = true) (e : s = ba (invL xs p f u)) : cX s = xs ∧ cP s = p ∧ cF s = f ∧ cU s = u := by
  have hg := good_parts h
  have e' : s.data.toList = ivG (ls xs) p.data.toList f.data.toList u.data.toList := by rw [e, toList_ba, inv_iv]
  obtain ⟨h1, h2, h3, h4⟩ := cand_i hg e'
  unfold cX cP cF cU
  rw [h1, h2, h3, h4]
  exact ⟨map_ba_ls xs, ba_toList _, ba_toList _, ba_toList _⟩
/-- what ParseInverse answers -/
def PI (s : ByteArray) (xs : List ByteArray) (p f u : ByteArray) (r : Bool) : Prop :=
  (r = true ∧ okN xs p f u = true ∧ s = ba (invL xs p f u)) ∨ (r = false ∧ xs = [] ∧ p = em ∧ f = em ∧ u = em ∧ ∀ xs p f u, okN xs p f u = true → s ≠ ba (invL xs p f u))
theorem PI.uniq {s : ByteArray} {xs xs' : List ByteArray} {p f u p' f' u' : ByteArray} {r r' : Bool} (h : PI s xs p f u r) (h' : PI s xs' p' f' u' r') : xs = xs' ∧ p = p' ∧ f = f' ∧ u = u' ∧ r = r' := by
  rcases h with ⟨rfl, ho, he⟩ | ⟨rfl, rfl, rfl, rfl, rfl, hn⟩
  · rcases h' with ⟨rfl, ho', he'⟩ | ⟨rfl, rfl, rfl, rfl, rfl, hn'⟩
    · obtain ⟨a1, a2, a3, a4⟩ := cand_eq ho he
      obtain ⟨b1, b2, b3, b4⟩ := cand_eq ho' he'
      exact ⟨a1.symm.trans b1, a2.symm.trans b2, a3.symm.trans b3, a4.symm.trans b4, rfl⟩
    · exact absurd he (hn' _ _ _ _ ho)
  · rcases h' with ⟨rfl, ho', he'⟩ | ⟨rfl, rfl, rfl, rfl, rfl, hn'⟩
    · exact absurd he' (hn _ _ _ _ ho')
    · exact ⟨rfl, rfl, rfl, rfl, rfl⟩
theorem pi_yes {s : ByteArray} {xs : List ByteArray} {p f u : ByteArray} (h : okN xs p f u = true) (e : ba (invL xs p f u) = s) : PI s xs p f u true := .inl ⟨rfl, h, e.symm⟩
theorem pi_no {s : ByteArray} (h : okN (cX s) (cP s) (cF s) (cU s) = true → ba (invL (cX s) (cP s) (cF s) (cU s)) ≠ s) : PI s [] em em em false := by
  refine .inr ⟨rfl, rfl, rfl, rfl, rfl, fun xs p f u ho he => ?_⟩
  obtain ⟨h1, h2, h3, h4⟩ := cand_eq ho he
  rw [h1, h2, h3, h4] at h
  exact h ho he.symm
theorem words_small {l : List (List UInt8)} (h : ∀ x ∈ l, x.length ≤ 12) : Lib.lens l ≤ 12 * l.length := by
  induction l with
  | nil => simp [Lib.lens]
  | cons x r ih =>
    have h1 := ih (fun y hy => h y (List.mem_cons_of_mem _ hy))
    have h2 := h x (List.mem_cons_self ..)
    have e : Lib.lens (x :: r) = x.length + Lib.lens r := by simp [Lib.lens]
    rw [e, List.length_cons]
    omega
theorem pi_long {s : ByteArray} (h : 4000 < (cutG s.data.toList).length) : PI s [] em em em false := by
  refine pi_no (fun ho => ?_)
  exfalso
  have hg := good_parts ho
  unfold cX at hg
  rw [ls_map_ba] at hg
  have hne : cutG s.data.toList ≠ [] := by intro e; rw [e] at h; simp at h
  unfold gvL at hg
  rw [if_neg hne] at hg
  have hl := words_small (l := split 32 (cutG s.data.toList)) (fun x hx => word_len (cap_word (hg.hg x hx)))
  have h3 := hg.hn
  have hj := join_split 32 (cutG s.data.toList)
  generalize split 32 (cutG s.data.toList) = gs at *
  cases gs with
  | nil => rw [← hj] at h; simp [Lib.join_nil] at h
  | cons x r =>
    have := Lib.join_length x r [32]
    rw [hj] at this
    rw [List.length_cons] at hl h3
    have e1 : ([32] : List UInt8).length = 1 := rfl
    rw [e1] at this
    omega
theorem cut_lens (l : List UInt8) : (Lib.cut l [44, 32]).1.length + (Lib.cut l [44, 32]).2.1.length ≤ l.length ∧ ((Lib.cut l [44, 32]).2.1 ≠ [] → (Lib.cut l [44, 32]).1.length + (Lib.cut l [44, 32]).2.1.length + 2 ≤ l.length) := by
  unfold Lib.cut
  split
  · rename_i h
    have hr := Lib.index_room l [44, 32] h
    simp only [List.length_take, List.length_drop]
    have e : ([44, 32] : List UInt8).length = 2 := rfl
    rw [e] at hr ⊢
    exact ⟨by omega, fun _ => by omega⟩
  · exact ⟨by simp, fun h => absurd rfl h⟩
theorem part_fam (x : List UInt8) : (prtL x).length + (famL x).length ≤ x.length := by
  unfold prtL famL
  split
  · simp only [List.length_take, List.length_drop]; omega
  · simp
theorem gv_lens (g : List UInt8) : (gvL g).length + lens ((gvL g).map ba) ≤ g.length + 1 := by
  unfold gvL
  split
  · simp [lens]
  · have h1 := JoinPl.split_lens 32 g
    have h2 := JoinPl.split_pos 32 g
    rw [List.length_map] at h1 h2
    omega
theorem cand_size (s : ByteArray) : (cX s).length + lens (cX s) + (cP s).size + (cF s).size + (cU s).size ≤ s.size := by
  have h1 := cut_lens s.data.toList
  have h2 := cut_lens (Lib.cut s.data.toList [44, 32]).2.1
  have h3 := part_fam (cutH s.data.toList)
  have h4 := gv_lens (cutG s.data.toList)
  have hz := len_size s
  unfold cX cP cF cU
  rw [ba_size, ba_size, ba_size, List.length_map]
  by_cases hg : cutG s.data.toList = []
  · have e : gvL (cutG s.data.toList) = [] := by unfold gvL; rw [if_pos hg]
    rw [e]
    unfold cutG at hg
    unfold cutH at *
    unfold cutU at *
    rw [hg] at h2
    simp only [List.length_nil, List.map_nil] at *
    have e2 : lens [] = 0 := rfl
    rw [e2]
    omega
  · have hne : (Lib.cut s.data.toList [44, 32]).2.1 ≠ [] := by
      intro e
      apply hg
      unfold cutG
      rw [e]
      exact congrArg (·.1) (cut_miss (x := []) rfl)
    have := h1.2 hne
    unfold cutH cutG cutU at *
    omega
theorem ok_em : okN [] em em em = false := by decide
end Go.Proofs.YtmdjdgamojndkaaDoor.Pi
