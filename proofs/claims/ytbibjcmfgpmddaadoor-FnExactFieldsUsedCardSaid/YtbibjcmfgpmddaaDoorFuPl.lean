/-
  Plain facts of the fields that a style uses: sorted insertion without doubles against sorting and leaving out doubles. Nothing of the program is named here.
-/
import Derived.WalkKit
import Derived.Sort.OwnSorted
import Derived.Lib.SlicesCompact
import Derived.Lib.RowBridge
namespace Go.Proofs.YtbibjcmfgpmddaaDoor.FuPl
set_option linter.unusedSimpArgs false
set_option linter.unusedVariables false

abbrev Wd := List UInt8
def ins : List Wd → Wd → List Wd
  | [], s => [s]
  | y :: r, s => if y < s then y :: ins r s else if y = s then y :: r else s :: y :: r
def SS (L : List Wd) : Prop := L.Pairwise (· < ·)
theorem tri (a b : Wd) : a < b ∨ a = b ∨ b < a := by
  by_cases h1 : a < b
  · exact .inl h1
  · by_cases h2 : b < a
    · exact .inr (.inr h2)
    · exact .inr (.inl (List.le_antisymm (List.not_lt.1 h2) (List.not_lt.1 h1)))
theorem ins_mem (L : List Wd) (s x : Wd) : x ∈ ins L s ↔ x = s ∨ x ∈ L := by
  induction L with
  | nil => simp [ins]
  | cons y r ih =>
    unfold ins
    split
    · rw [List.mem_cons, ih, List.mem_cons]
      constructor
      · rintro (h | h | h)
        · exact .inr (.inl h)
        · exact .inl h
        · exact .inr (.inr h)
      · rintro (h | h | h)
        · exact .inr (.inl h)
        · exact .inl h
        · exact .inr (.inr h)
    · split
      · rename_i h
        constructor
        · exact .inr
        · rintro (h' | h')
          · rw [h', ← h]; exact List.mem_cons_self
          · exact h'
      · rw [List.mem_cons]
theorem ins_SS {L : List Wd} (s : Wd) (h : SS L) : SS (ins L s) := by
  induction L with
  | nil => unfold ins SS; exact List.pairwise_singleton _ _
  | cons y r ih =>
    obtain ⟨h1, h2⟩ := List.pairwise_cons.1 h
    unfold ins
    split
    · rename_i hlt
      refine List.pairwise_cons.2 ⟨fun x hx => ?_, ih h2⟩
      rcases (ins_mem r s x).1 hx with rfl | hx
      · exact hlt
      · exact h1 x hx
    · split
      · exact h
      · rename_i hn hne
        have hsy : s < y := by
          rcases tri s y with h3 | h3 | h3
          · exact h3
          · exact absurd h3.symm hne
          · exact absurd h3 hn
        refine List.pairwise_cons.2 ⟨fun x hx => ?_, h⟩
        rcases List.mem_cons.1 hx with rfl | hx
        · exact hsy
        · exact List.lt_trans hsy (h1 x hx)
theorem fold_facts (W : List Wd) : ∀ L, SS L → SS (W.foldl ins L) ∧ ∀ x, x ∈ W.foldl ins L ↔ x ∈ L ∨ x ∈ W := by
  induction W with
  | nil => intro L h; exact ⟨h, fun x => by simp⟩
  | cons a r ih =>
    intro L h
    obtain ⟨h1, h2⟩ := ih (ins L a) (ins_SS a h)
    refine ⟨h1, fun x => ?_⟩
    rw [List.foldl_cons, h2, ins_mem, List.mem_cons]
    constructor
    · rintro ((h | h) | h)
      · exact .inr (.inl h)
      · exact .inl h
      · exact .inr (.inr h)
    · rintro (h | h | h)
      · exact .inl (.inr h)
      · exact .inl (.inl h)
      · exact .inr h
theorem SS_uniq : ∀ {A B : List Wd}, SS A → SS B → (∀ x, x ∈ A ↔ x ∈ B) → A = B := by
  intro A
  induction A with
  | nil =>
    intro B _ _ h
    cases B with
    | nil => rfl
    | cons b r => exact absurd ((h b).2 List.mem_cons_self) (by simp)
  | cons a A ih =>
    intro B hA hB h
    cases B with
    | nil => exact absurd ((h a).1 List.mem_cons_self) (by simp)
    | cons b B =>
      obtain ⟨a1, a2⟩ := List.pairwise_cons.1 hA
      obtain ⟨b1, b2⟩ := List.pairwise_cons.1 hB
      have hab : a = b := by
        rcases List.mem_cons.1 ((h a).1 List.mem_cons_self) with e | m1
        · exact e
        · rcases List.mem_cons.1 ((h b).2 List.mem_cons_self) with e | m2
          · exact e.symm
          · exact absurd (List.lt_trans (b1 a m1) (a1 b m2)) (List.lt_irrefl _)
      subst hab
      have : A = B := ih a2 b2 (fun x => by
        have hx := h x
        rw [List.mem_cons, List.mem_cons] at hx
        constructor
        · intro hm
          rcases hx.1 (.inr hm) with e | m
          · subst e; exact absurd (a1 x hm) (List.lt_irrefl _)
          · exact m
        · intro hm
          rcases hx.2 (.inr hm) with e | m
          · subst e; exact absurd (b1 x hm) (List.lt_irrefl _)
          · exact m)
      rw [this]
theorem cp_facts {L : List Wd} (h : L.Pairwise (· ≤ ·)) : ∀ m, m ≤ L.length → SS (Lib.compactUpTo L.toArray m) ∧ ∀ x, x ∈ Lib.compactUpTo L.toArray m ↔ ∃ j, j < m ∧ L[j]? = some x := by
  have hle : ∀ i j, i < j → ∀ (hj : j < L.length), L[i]! ≤ L[j]! := fun i j hij hj => by
    rw [getElem!_pos L i (by omega), getElem!_pos L j hj]
    exact List.pairwise_iff_getElem.1 h i j (by omega) hj hij
  intro m
  induction m with
  | zero => intro _; exact ⟨by unfold Lib.compactUpTo SS; simp, fun x => by unfold Lib.compactUpTo; simp⟩
  | succ m ih =>
    intro hm
    obtain ⟨h1, h2⟩ := ih (by omega)
    have hd : (L.toArray)[m]! = L[m]! := by simp
    have hd1 : (L.toArray)[m - 1]! = L[m - 1]! := by simp
    have hgm : L[m]? = some L[m]! := by rw [getElem!_pos L m (by omega)]; exact List.getElem?_eq_getElem (by omega)
    rw [Lib.compactUpTo_succ]
    cases hk : Lib.keeps L.toArray m with
    | true =>
      rw [if_pos rfl, hd]
      have hk' : m = 0 ∨ L[m]! ≠ L[m - 1]! := by
        unfold Lib.keeps at hk
        rw [decide_eq_true_eq, hd, hd1] at hk
        exact hk
      refine ⟨?_, fun x => ?_⟩
      · unfold SS
        rw [List.pairwise_append]
        refine ⟨h1, List.pairwise_singleton _ _, fun x hx y hy => ?_⟩
        rw [List.mem_singleton] at hy
        subst hy
        obtain ⟨j, hj, hx'⟩ := (h2 x).1 hx
        have hxj : x = L[j]! := by
          rw [getElem!_pos L j (by omega)]
          rw [List.getElem?_eq_getElem (by omega)] at hx'
          exact (Option.some.inj hx').symm
        have hm0 : m ≠ 0 := by omega
        have hne := hk'.resolve_left hm0
        have hlt : L[m - 1]! < L[m]! := by
          rcases tri L[m - 1]! L[m]! with h3 | h3 | h3
          · exact h3
          · exact absurd h3.symm hne
          · exact absurd h3 (List.not_lt.2 (hle (m - 1) m (by omega) (by omega)))
        rcases Nat.lt_or_ge j (m - 1) with hj' | hj'
        · rw [hxj]; exact List.lt_of_le_of_lt (hle j (m - 1) hj' (by omega)) hlt
        · have : j = m - 1 := by omega
          rw [hxj, this]; exact hlt
      · rw [List.mem_append, h2, List.mem_singleton]
        constructor
        · rintro (⟨j, hj, hx⟩ | rfl)
          · exact ⟨j, by omega, hx⟩
          · exact ⟨m, by omega, hgm⟩
        · rintro ⟨j, hj, hx⟩
          rcases Nat.lt_or_ge j m with hj' | hj'
          · exact .inl ⟨j, hj', hx⟩
          · have : j = m := by omega
            subst this
            rw [hgm] at hx
            exact .inr (Option.some.inj hx).symm
    | false =>
      have hk' : m ≠ 0 ∧ L[m]! = L[m - 1]! := by
        unfold Lib.keeps at hk
        rw [decide_eq_false_iff_not, hd, hd1] at hk
        refine ⟨fun e => hk (.inl e), ?_⟩
        by_cases e : L[m]! = L[m - 1]!
        · exact e
        · exact absurd (.inr e) hk
      simp only [Bool.false_eq_true, if_false, List.append_nil]
      refine ⟨h1, fun x => ?_⟩
      rw [h2]
      constructor
      · rintro ⟨j, hj, hx⟩
        exact ⟨j, by omega, hx⟩
      · rintro ⟨j, hj, hx⟩
        rcases Nat.lt_or_ge j m with hj' | hj'
        · exact ⟨j, hj', hx⟩
        · have : j = m := by omega
          subst this
          rw [hgm] at hx
          refine ⟨j - 1, by omega, ?_⟩
          rw [List.getElem?_eq_getElem (by omega), ← getElem!_pos L (j - 1) (by omega), ← hk'.2]
          exact hx
/-- the words of W, each once, sorted -/
def srt (W : List Wd) : List Wd := Lib.compact (W.mergeSort fun x y => decide (x ≤ y))
theorem srt_eq (W : List Wd) : W.foldl ins [] = srt W := by
  obtain ⟨h1, h2⟩ := fold_facts W [] List.Pairwise.nil
  have hs : (W.mergeSort fun x y => decide (x ≤ y)).Pairwise (· ≤ ·) := by
    have := List.pairwise_mergeSort (le := fun x y : Wd => decide (x ≤ y)) (fun a b c h h' => by
      rw [decide_eq_true_eq] at h h' ⊢
      rcases tri b c with h3 | h3 | h3
      · exact List.not_lt.1 (fun h4 => List.lt_irrefl _ (List.lt_trans (List.lt_of_le_of_lt h h3) h4))
      · exact h3 ▸ h
      · exact absurd h3 (List.not_lt.2 h')) (fun a b => by
      rw [Bool.or_eq_true, decide_eq_true_eq, decide_eq_true_eq]
      exact List.le_total a b) W
    exact this.imp (fun h => of_decide_eq_true h)
  obtain ⟨h3, h4⟩ := cp_facts hs _ (Nat.le_refl _)
  refine SS_uniq h1 h3 (fun x => ?_)
  rw [h2]
  refine Iff.trans ?_ (h4 x).symm
  have hm : x ∈ (W.mergeSort fun x y => decide (x ≤ y)) ↔ x ∈ W := (List.mergeSort_perm W _).mem_iff
  constructor
  · rintro (h | h)
    · cases h
    · obtain ⟨j, hj, e⟩ := List.getElem_of_mem (hm.2 h)
      exact ⟨j, hj, by rw [List.getElem?_eq_getElem hj, e]⟩
  · rintro ⟨j, hj, e⟩
    exact .inr (hm.1 (List.mem_of_getElem? e))
/-- where a word is inserted -/
theorem ins_at : ∀ (L : List Wd) (s : Wd) (i : Nat), i ≤ L.length → (∀ j y, j < i → L[j]? = some y → y < s) → (i = L.length ∨ ∃ y, L[i]? = some y ∧ ¬ y < s) →
    ins L s = if L[i]? = some s then L else L.take i ++ s :: L.drop i := by
  intro L
  induction L with
  | nil =>
    intro s i hi _ _
    obtain rfl : i = 0 := by simpa using hi
    simp [ins]
  | cons y r ih =>
    intro s i hi h1 h2
    cases i with
    | zero =>
      have hn : ¬ y < s := by
        rcases h2 with h2 | ⟨z, hz, hn⟩
        · simp at h2
        · simp at hz; subst hz; exact hn
      unfold ins
      rw [if_neg hn]
      by_cases he : y = s
      · rw [if_pos he]; simp [he]
      · rw [if_neg he]; simp [he]
    | succ i =>
      have hlt : y < s := h1 0 y (Nat.succ_pos _) rfl
      unfold ins
      rw [if_pos hlt, ih s i (by simpa using hi) (fun j z hj hz => h1 (j + 1) z (by omega) (by simpa using hz)) (by
        rcases h2 with h2 | ⟨z, hz, hn⟩
        · exact .inl (by simpa using h2)
        · exact .inr ⟨z, by simpa using hz, hn⟩)]
      simp only [List.getElem?_cons_succ, List.take_succ_cons, List.drop_succ_cons]
      split
      · rfl
      · rfl
end Go.Proofs.YtbibjcmfgpmddaaDoor.FuPl
