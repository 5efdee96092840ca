/-
  Plain mathematics of lists of numbers: sorted without doubles, runs of consecutive numbers, the text. Nothing of the program is named here.
-/
import Derived.Test.YtilaaegdkjlifaaDoorPlain
import Derived.Test.YtilaaegdkjlifaaDoorReadPl
import Derived.Test.YtilaaegdkjlifaaDoorPcPl
import Derived.Lib.Join
import Derived.Lib.SlicesCompact
namespace Go.Proofs.YtilaaegdkjlifaaDoor.NuPl
open Pl ReadPl
set_option linter.unusedVariables false
set_option linter.unusedSimpArgs false

abbrev Asc (L : List Int) : Prop := L.Pairwise (· < ·)
/-- two ascending lists with the same members are the same -/
theorem asc_ext : ∀ {A B : List Int}, Asc A → Asc B → (∀ x, x ∈ A ↔ x ∈ B) → A = B
  | [], [], _, _, _ => rfl
  | [], b :: B, _, _, h => absurd ((h b).2 List.mem_cons_self) (by simp)
  | a :: A, [], _, _, h => absurd ((h a).1 List.mem_cons_self) (by simp)
  | a :: A, b :: B, hA, hB, h => by
    obtain ⟨a1, a2⟩ := List.pairwise_cons.1 hA
    obtain ⟨b1, b2⟩ := List.pairwise_cons.1 hB
    have hab : a = b := by
      rcases List.mem_cons.1 ((h a).1 List.mem_cons_self) with e | m1
      · exact e
      · rcases List.mem_cons.1 ((h b).2 List.mem_cons_self) with e | m2
        · exact e.symm
        · have := b1 a m1; have := a1 b m2; omega
    subst hab
    have : A = B := asc_ext a2 b2 (fun x => by
      have hx := h x
      rw [List.mem_cons, List.mem_cons] at hx
      constructor
      · intro hm
        rcases hx.1 (.inr hm) with e | m
        · have := a1 x hm; omega
        · exact m
      · intro hm
        rcases hx.2 (.inr hm) with e | m
        · have := b1 x hm; omega
        · exact m)
    rw [this]
/-- the model's insertion -/
def putI (n : Int) : List Int → List Int
  | [] => [n]
  | a :: r => if a < n then a :: putI n r else if a = n then a :: r else n :: a :: r
theorem putI_mem (n : Int) : ∀ (L : List Int) (x : Int), x ∈ putI n L ↔ x = n ∨ x ∈ L
  | [], x => by simp [putI]
  | a :: r, x => by
    unfold putI
    split
    · rw [List.mem_cons, putI_mem n r x, List.mem_cons]
      constructor
      · rintro (h | h | h) <;> simp [h]
      · rintro (h | h | h) <;> simp [h]
    · split
      · rename_i h2
        rw [List.mem_cons]
        constructor
        · intro h; exact .inr h
        · rintro (h | h)
          · exact .inl (by omega)
          · exact h
      · rw [List.mem_cons]
theorem putI_asc (n : Int) : ∀ {L : List Int}, Asc L → Asc (putI n L)
  | [], _ => List.pairwise_singleton _ _
  | a :: r, h => by
    obtain ⟨h1, h2⟩ := List.pairwise_cons.1 h
    unfold putI
    split
    · rename_i ha
      refine List.pairwise_cons.2 ⟨fun x hx => ?_, putI_asc n h2⟩
      rcases (putI_mem n r x).1 hx with e | m
      · omega
      · exact h1 x m
    · split
      · exact h
      · rename_i ha hb
        refine List.pairwise_cons.2 ⟨fun x hx => ?_, h⟩
        rcases List.mem_cons.1 hx with e | m
        · omega
        · have := h1 x m; omega
theorem putI_len (n : Int) : ∀ (L : List Int), (putI n L).length ≤ L.length + 1
  | [] => by simp [putI]
  | a :: r => by
    unfold putI
    split
    · have := putI_len n r; simp; omega
    · split <;> simp
/-- the different numbers of a list, ascending -/
def srt (L : List Int) : List Int := L.foldl (fun l n => putI n l) []
theorem fold_facts : ∀ (L acc : List Int), Asc acc → Asc (L.foldl (fun l n => putI n l) acc) ∧ (∀ x, x ∈ L.foldl (fun l n => putI n l) acc ↔ x ∈ acc ∨ x ∈ L) ∧ (L.foldl (fun l n => putI n l) acc).length ≤ acc.length + L.length
  | [], acc, h => ⟨h, fun x => by simp, by simp⟩
  | a :: r, acc, h => by
    obtain ⟨h1, h2, h3⟩ := fold_facts r (putI a acc) (putI_asc a h)
    refine ⟨h1, fun x => ?_, ?_⟩
    · rw [List.foldl_cons, h2, putI_mem, List.mem_cons]
      constructor
      · rintro ((h | h) | h) <;> simp [h]
      · rintro (h | h | h) <;> simp [h]
    · have := putI_len a acc
      rw [List.foldl_cons, List.length_cons]; omega
theorem srt_asc (L : List Int) : Asc (srt L) := (fold_facts L [] List.Pairwise.nil).1
theorem srt_mem (L : List Int) (x : Int) : x ∈ srt L ↔ x ∈ L := by rw [srt, (fold_facts L [] List.Pairwise.nil).2.1]; simp
theorem srt_len (L : List Int) : (srt L).length ≤ L.length := by have := (fold_facts L [] List.Pairwise.nil).2.2; simpa [srt] using this
theorem srt_of_asc {L : List Int} (h : Asc L) : srt L = L := asc_ext (srt_asc L) h (srt_mem L)
theorem srt_at {L : List Int} {k : Nat} {x : Int} (h : L[k]? = some x) : srt (L.take (k + 1)) = putI x (srt (L.take k)) := by
  rw [List.take_add_one, h]; simp [srt, List.foldl_append]
theorem srt_nil : srt [] = [] := rfl
/-- where l1Put puts a number: the numbers below it, then it, then those above -/
theorem putI_cut (n : Int) : ∀ {L : List Int}, Asc L → ∃ k, k ≤ L.length ∧ (∀ j x, j < k → L[j]? = some x → x < n) ∧ ((∃ x, L[k]? = some x ∧ x = n ∧ putI n L = L) ∨ ((∀ x, L[k]? = some x → n < x) ∧ putI n L = L.take k ++ n :: L.drop k))
  | [], _ => ⟨0, by simp, fun j x h => by omega, .inr ⟨fun x h => by simp at h, rfl⟩⟩
  | a :: r, h => by
    obtain ⟨h1, h2⟩ := List.pairwise_cons.1 h
    by_cases ha : a < n
    · obtain ⟨k, hk, hlo, hc⟩ := putI_cut n h2
      refine ⟨k + 1, by simp; omega, fun j x hj hx => ?_, ?_⟩
      · cases j with
        | zero => simp at hx; omega
        | succ j => exact hlo j x (by omega) (by simpa using hx)
      · have e : putI n (a :: r) = a :: putI n r := by rw [putI, if_pos ha]
        rcases hc with ⟨x, hx, e1, e2⟩ | ⟨hx, e2⟩
        · exact .inl ⟨x, by simpa using hx, e1, by rw [e, e2]⟩
        · exact .inr ⟨fun x h => hx x (by simpa using h), by rw [e, e2]; simp⟩
    · refine ⟨0, by simp, fun j x hj => by omega, ?_⟩
      by_cases hb : a = n
      · exact .inl ⟨a, by simp, hb, by rw [putI, if_neg ha, if_pos hb]⟩
      · refine .inr ⟨fun x hx => by simp at hx; omega, ?_⟩
        rw [putI, if_neg ha, if_neg hb]; simp
theorem putI_at : ∀ (L : List Int) (n : Int) (k : Nat), k ≤ L.length → (∀ j y, j < k → L[j]? = some y → y < n) → (k = L.length ∨ ∃ y, L[k]? = some y ∧ ¬ y < n) →
    putI n L = if L[k]? = some n then L else L.take k ++ n :: L.drop k := by
  intro L
  induction L with
  | nil => intro n k hk _ _; simp at hk; subst hk; simp [putI]
  | cons y r ih =>
    intro n k hk hlo hc
    cases k with
    | zero =>
      rcases hc with h | ⟨z, hz, hn⟩
      · simp at h
      · simp at hz
        subst hz
        unfold putI
        rw [if_neg hn]
        by_cases e : y = n
        · rw [if_pos e, if_pos (by simp [e])]
        · rw [if_neg e, if_neg (by simp [e])]; simp
    | succ k =>
      have hy := hlo 0 y (by omega) rfl
      have h := ih n k (by simp at hk; omega) (fun j z hj hz => hlo (j + 1) z (by omega) (by simpa using hz)) (by
        rcases hc with h | ⟨z, hz, hn⟩
        · left; simp at h; omega
        · right; exact ⟨z, by simpa using hz, hn⟩)
      unfold putI
      rw [if_pos hy, h]
      by_cases e : r[k]? = some n
      · rw [if_pos e, if_pos (by simpa using e)]
      · rw [if_neg e, if_neg (by simpa using e)]; simp
/-- sorted and compacted: the same -/
theorem cp_facts {L : List Int} (h : L.Pairwise (· ≤ ·)) : ∀ m, m ≤ L.length → Asc (Lib.compactUpTo L.toArray m) ∧ ∀ x, x ∈ Lib.compactUpTo L.toArray m ↔ ∃ j, j < m ∧ L[j]? = some x := by
  have hle : ∀ i j, i < j → ∀ (hj : j < L.length), L[i]! ≤ L[j]! := fun i j hij hj => by
    rw [getElem!_pos L i (by omega), getElem!_pos L j hj]
    exact List.pairwise_iff_getElem.1 h i j (by omega) hj hij
  intro m
  induction m with
  | zero => intro _; exact ⟨by unfold Lib.compactUpTo Asc; simp, fun x => by unfold Lib.compactUpTo; simp⟩
  | succ m ih =>
    intro hm
    obtain ⟨h1, h2⟩ := ih (by omega)
    have hd : (L.toArray)[m]! = L[m]! := by simp
    have hd1 : (L.toArray)[m - 1]! = L[m - 1]! := by simp
    have hgm : L[m]? = some L[m]! := by rw [getElem!_pos L m (by omega)]; exact List.getElem?_eq_getElem (by omega)
    rw [Lib.compactUpTo_succ]
    cases hk : Lib.keeps L.toArray m with
    | true =>
      rw [if_pos rfl, hd]
      have hk' : m = 0 ∨ L[m]! ≠ L[m - 1]! := by
        unfold Lib.keeps at hk
        rw [decide_eq_true_eq, hd, hd1] at hk
        exact hk
      refine ⟨?_, fun x => ?_⟩
      · unfold Asc
        rw [List.pairwise_append]
        refine ⟨h1, List.pairwise_singleton _ _, fun x hx y hy => ?_⟩
        rw [List.mem_singleton] at hy
        subst hy
        obtain ⟨j, hj, hx'⟩ := (h2 x).1 hx
        have hxj : x = L[j]! := by
          rw [getElem!_pos L j (by omega)]
          rw [List.getElem?_eq_getElem (by omega)] at hx'
          exact (Option.some.inj hx').symm
        have hm0 : m ≠ 0 := by omega
        have hne := hk'.resolve_left hm0
        have hlt : L[m - 1]! < L[m]! := by
          have := hle (m - 1) m (by omega) (by omega)
          omega
        rcases Nat.lt_or_ge j (m - 1) with hj' | hj'
        · rw [hxj]; have := hle j (m - 1) hj' (by omega); omega
        · have : j = m - 1 := by omega
          rw [hxj, this]; exact hlt
      · rw [List.mem_append, h2, List.mem_singleton]
        constructor
        · rintro (⟨j, hj, hx⟩ | rfl)
          · exact ⟨j, by omega, hx⟩
          · exact ⟨m, by omega, hgm⟩
        · rintro ⟨j, hj, hx⟩
          rcases Nat.lt_or_ge j m with hj' | hj'
          · exact .inl ⟨j, hj', hx⟩
          · have : j = m := by omega
            subst this
            rw [hgm] at hx
            exact .inr (Option.some.inj hx).symm
    | false =>
      have hk' : m ≠ 0 ∧ L[m]! = L[m - 1]! := by
        unfold Lib.keeps at hk
        rw [decide_eq_false_iff_not, hd, hd1] at hk
        refine ⟨fun e => hk (.inl e), ?_⟩
        by_cases e : L[m]! = L[m - 1]!
        · exact e
        · exact absurd (.inr e) hk
      simp only [Bool.false_eq_true, if_false, List.append_nil]
      refine ⟨h1, fun x => ?_⟩
      rw [h2]
      constructor
      · rintro ⟨j, hj, hx⟩
        exact ⟨j, by omega, hx⟩
      · rintro ⟨j, hj, hx⟩
        rcases Nat.lt_or_ge j m with hj' | hj'
        · exact ⟨j, hj', hx⟩
        · have : j = m := by omega
          subst this
          rw [hgm] at hx
          refine ⟨j - 1, by omega, ?_⟩
          rw [List.getElem?_eq_getElem (by omega), ← getElem!_pos L (j - 1) (by omega), ← hk'.2]
          exact hx
theorem cp_srt {L S : List Int} (hs : S.Pairwise (· ≤ ·)) (hm : ∀ x, x ∈ S ↔ x ∈ L) : Lib.compact S = srt L := by
  obtain ⟨h3, h4⟩ := cp_facts hs S.length (Nat.le_refl _)
  have e : Lib.compact S = Lib.compactUpTo S.toArray S.length := by unfold Lib.compact; simp
  rw [e]
  refine asc_ext h3 (srt_asc L) (fun x => ?_)
  rw [h4, srt_mem, ← hm]
  constructor
  · rintro ⟨j, _, hx⟩; exact List.mem_of_getElem? hx
  · intro hx
    obtain ⟨j, hj⟩ := List.getElem?_of_mem hx
    exact ⟨j, (List.getElem?_eq_some_iff.1 hj).1, hj⟩

/-- how many numbers behind a follow it one by one -/
def run1 : Int → List Int → Nat
  | _, [] => 0
  | a, b :: r => if b = a + 1 then run1 b r + 1 else 0
theorem run1_le (a : Int) (r : List Int) : run1 a r ≤ r.length := by
  induction r generalizing a with
  | nil => simp [run1]
  | cons b r ih => unfold run1; split
                   · have := ih b; simp; omega
                   · simp
theorem run1_at (a : Int) (r : List Int) : ∀ j, j < run1 a r → r[j]? = some (a + j + 1) := by
  induction r generalizing a with
  | nil => intro j h; simp [run1] at h
  | cons b r ih =>
    intro j hj
    unfold run1 at hj
    split at hj
    · rename_i hb
      cases j with
      | zero => simp [hb]
      | succ j =>
        have := ih b j (by omega)
        rw [List.getElem?_cons_succ, this, hb]
        congr 1
        omega
    · omega
/-- the same from the number at j on -/
theorem run1_drop (a : Int) (r : List Int) : ∀ j, j ≤ run1 a r → run1 (a + j) (r.drop j) + j = run1 a r := by
  induction r generalizing a with
  | nil => intro j h; simp [run1] at h ⊢; omega
  | cons b r ih =>
    intro j hj
    cases j with
    | zero => simp
    | succ j =>
      have hu : run1 a (b :: r) = if b = a + 1 then run1 b r + 1 else 0 := rfl
      by_cases hb : b = a + 1
      · rw [hu, if_pos hb] at hj ⊢
        have := ih b j (by omega)
        rw [List.drop_succ_cons, show a + ((j + 1 : Nat) : Int) = b + j by omega]
        omega
      · rw [hu, if_neg hb] at hj; omega
theorem run1_step {a b : Int} {r : List Int} (h : b = a + 1) : run1 a (b :: r) = run1 b r + 1 := by rw [run1, if_pos h]
theorem run1_stop {a b : Int} {r : List Int} (h : b ≠ a + 1) : run1 a (b :: r) = 0 := by rw [run1, if_neg h]

theorem run_at {L : List Int} {k : Nat} {a : Int} (h : L[k]? = some a) : ∀ j, j ≤ run1 a (L.drop (k + 1)) → L[k + j]? = some (a + j) := by
  intro j hj
  cases j with
  | zero => simpa using h
  | succ j =>
    have := run1_at a (L.drop (k + 1)) j (by omega)
    rw [List.getElem?_drop] at this
    rw [show k + (j + 1) = k + 1 + j by omega, this]
    congr 1
    omega
theorem run_end {L : List Int} {k : Nat} {a : Int} (h : L[k]? = some a) : L[k + run1 a (L.drop (k + 1)) + 1]? ≠ some (a + run1 a (L.drop (k + 1)) + 1) := by
  have h1 := run1_drop a (L.drop (k + 1)) (run1 a (L.drop (k + 1))) (Nat.le_refl _)
  rw [List.drop_drop] at h1
  generalize run1 a (L.drop (k + 1)) = m at *
  intro e
  have hlt : k + m + 1 < L.length := (List.getElem?_eq_some_iff.1 e).1
  have he := (List.getElem?_eq_some_iff.1 e).2
  rw [show k + 1 + m = k + m + 1 by omega, List.drop_eq_getElem_cons hlt, he, run1, if_pos rfl] at h1
  omega
theorem run_le {L : List Int} {k : Nat} {a : Int} (h : L[k]? = some a) : k + run1 a (L.drop (k + 1)) < L.length := by
  have := run1_le a (L.drop (k + 1))
  have hk := (List.getElem?_eq_some_iff.1 h).1
  rw [List.length_drop] at this
  omega
/-- a piece: a number, and how many follow it -/
abbrev Pc := Int × Nat
def T (x : Pc) : List UInt8 := if x.2 = 0 then Lib.itoa x.1 else Lib.itoa x.1 ++ 45 :: Lib.itoa (x.1 + x.2)
def ex (x : Pc) : List Int := (List.range (x.2 + 1)).map fun (j : Nat) => x.1 + (j : Int)
def pcsF : Nat → List Int → List Pc
  | 0, _ => []
  | _, [] => []
  | f + 1, a :: r => if 2 ≤ run1 a r then (a, run1 a r) :: pcsF f (r.drop (run1 a r)) else (a, 0) :: pcsF f r
theorem pcsF_fuel : ∀ (f g : Nat) (L : List Int), L.length ≤ f → L.length ≤ g → pcsF f L = pcsF g L
  | 0, 0, _, _, _ => rfl
  | 0, g + 1, [], _, _ => rfl
  | f + 1, 0, [], _, _ => rfl
  | f + 1, g + 1, [], _, _ => rfl
  | 0, g + 1, a :: r, h, _ => by simp at h
  | f + 1, 0, a :: r, _, h => by simp at h
  | f + 1, g + 1, a :: r, h, h' => by
    simp at h h'
    unfold pcsF
    rw [pcsF_fuel f g (r.drop (run1 a r)) (by rw [List.length_drop]; omega) (by rw [List.length_drop]; omega), pcsF_fuel f g r h h']
def pcs (L : List Int) : List Pc := pcsF L.length L
theorem pcs_nil : pcs [] = [] := rfl
theorem pcs_long {a : Int} {r : List Int} (h : 2 ≤ run1 a r) : pcs (a :: r) = (a, run1 a r) :: pcs (r.drop (run1 a r)) := by
  unfold pcs
  rw [List.length_cons, pcsF, if_pos h, pcsF_fuel r.length (r.drop (run1 a r)).length _ (by rw [List.length_drop]; omega) (Nat.le_refl _)]
theorem pcs_short {a : Int} {r : List Int} (h : run1 a r < 2) : pcs (a :: r) = (a, 0) :: pcs r := by
  unfold pcs
  rw [List.length_cons, pcsF, if_neg (by omega)]
theorem pcs_two {a b : Int} {r : List Int} (h : run1 a (b :: r) = 1) : pcs (a :: b :: r) = (a, 0) :: (b, 0) :: pcs r := by
  rw [pcs_short (by omega)]
  have : run1 b r = 0 := by
    unfold run1 at h
    split at h
    · omega
    · omega
  rw [pcs_short (by omega)]
theorem pcs_ex : ∀ (n : Nat) (L : List Int), L.length = n → (pcs L).flatMap ex = L := by
  intro n
  induction n using Nat.strongRecOn with
  | _ n ih =>
    intro L hL
    cases L with
    | nil => rfl
    | cons a r =>
      simp at hL
      by_cases h : 2 ≤ run1 a r
      · rw [pcs_long h, List.flatMap_cons, ih (r.drop (run1 a r)).length (by rw [List.length_drop]; omega) _ rfl]
        have e : ex (a, run1 a r) = a :: r.take (run1 a r) := by
          unfold ex
          apply List.ext_getElem?
          intro j
          rw [List.getElem?_map]
          cases j with
          | zero => simp
          | succ j =>
            rw [List.getElem?_cons_succ, List.getElem?_take]
            by_cases hj : j < run1 a r
            · rw [if_pos hj, run1_at a r j hj, List.getElem?_range (by simpa using hj)]
              simp
              omega
            · rw [if_neg hj, List.getElem?_eq_none (by simp; omega)]
              rfl
        rw [e]; simp
      · rw [pcs_short (by omega), List.flatMap_cons, ih r.length (by omega) r rfl]
        simp [ex]
theorem pcs_at_long {L : List Int} {k : Nat} {a : Int} (h : L[k]? = some a) (h2 : 2 ≤ run1 a (L.drop (k + 1))) : pcs (L.drop k) = (a, run1 a (L.drop (k + 1))) :: pcs (L.drop (k + run1 a (L.drop (k + 1)) + 1)) := by
  have hk := (List.getElem?_eq_some_iff.1 h).1
  have he := (List.getElem?_eq_some_iff.1 h).2
  rw [List.drop_eq_getElem_cons hk, he, pcs_long h2, List.drop_drop]
  congr 3
  omega
theorem pcs_at_short {L : List Int} {k : Nat} {a : Int} (h : L[k]? = some a) (h2 : run1 a (L.drop (k + 1)) < 2) : pcs (L.drop k) = (a, 0) :: pcs (L.drop (k + 1)) := by
  have hk := (List.getElem?_eq_some_iff.1 h).1
  have he := (List.getElem?_eq_some_iff.1 h).2
  rw [List.drop_eq_getElem_cons hk, he, pcs_short h2]
theorem J_snoc {P : List Pc} (h : P ≠ []) (x : Pc) : PcPl.J T (P ++ [x]) = PcPl.J T P ++ [44, 32] ++ T x := by
  rw [PcPl.J_pre T P (L := [x]) (by simp), PcPl.J_one]
  obtain ⟨P', y, rfl⟩ : ∃ P' y, P = P' ++ [y] := by
    rcases List.eq_nil_or_concat P with rfl | ⟨l, y, rfl⟩
    · exact absurd rfl h
    · exact ⟨l, y, by rw [List.concat_eq_append]⟩
  rw [PcPl.pre_snoc, PcPl.J_pre T P' (L := [y]) (by simp), PcPl.J_one]
  simp
theorem T_short (a : Int) : T (a, 0) = Lib.itoa a := rfl
theorem T_long (a : Int) (m : Nat) (h : 2 ≤ m) : T (a, m) = Lib.itoa a ++ 45 :: Lib.itoa (a + m) := by
  unfold T; rw [if_neg (by show m ≠ 0; omega)]
/-- a good list: ascending numbers from 1 to 999 -/
def Gd (D : List Int) : Prop := Asc D ∧ (∀ x ∈ D, 1 ≤ x ∧ x ≤ 999) ∧ D.length ≤ 20
def okP (x : Pc) : Prop := 1 ≤ x.1 ∧ x.1 + x.2 ≤ 999 ∧ x.2 ≠ 1 ∧ x.2 ≤ 19
theorem pcs_ok : ∀ (n : Nat) (L : List Int), L.length = n → (∀ x ∈ L, 1 ≤ x ∧ x ≤ 999) → L.length ≤ 20 → ∀ x ∈ pcs L, okP x := by
  intro n
  induction n using Nat.strongRecOn with
  | _ n ih =>
    intro L hL hr h20
    cases L with
    | nil => intro x hx; simp [pcs_nil] at hx
    | cons a r =>
      simp at hL h20
      have ha := hr a List.mem_cons_self
      by_cases h : 2 ≤ run1 a r
      · rw [pcs_long h]
        intro x hx
        rcases List.mem_cons.1 hx with rfl | hx
        · have h1 := run1_at a r (run1 a r - 1) (by omega)
          have h2 := hr _ (List.mem_cons_of_mem _ (List.mem_of_getElem? h1))
          have := run1_le a r
          refine ⟨ha.1, ?_, ?_, ?_⟩
          · show a + (run1 a r : Int) ≤ 999; omega
          · show run1 a r ≠ 1; omega
          · show run1 a r ≤ 19; omega
        · exact ih _ (by rw [List.length_drop]; omega) _ rfl (fun y hy => hr y (List.mem_cons_of_mem _ (List.mem_of_mem_drop hy))) (by rw [List.length_drop]; omega) x hx
      · rw [pcs_short (by omega)]
        intro x hx
        rcases List.mem_cons.1 hx with rfl | hx
        · exact ⟨ha.1, by show a + ((0 : Nat) : Int) ≤ 999; omega, by show (0 : Nat) ≠ 1; omega, by show (0 : Nat) ≤ 19; omega⟩
        · exact ih r.length (by omega) r rfl (fun y hy => hr y (List.mem_cons_of_mem _ hy)) (by omega) x hx
theorem Gd.ok {D : List Int} (h : Gd D) : ∀ x ∈ pcs D, okP x := pcs_ok _ D rfl h.2.1 h.2.2
theorem Gd.ex {D : List Int} (h : Gd D) : (pcs D).flatMap ex = D := pcs_ex _ D rfl
theorem pcs_ne {D : List Int} (h : D ≠ []) : pcs D ≠ [] := by
  intro e
  have := pcs_ex _ D rfl
  rw [e] at this
  exact h (by rw [← this]; rfl)
/-- the text -/
def txt (D : List Int) : List UInt8 := PcPl.J T (pcs D)
theorem itoa_pos {a : Int} (h : 1 ≤ a) : Lib.itoa a = Lib.decDigits a.toNat := by
  rcases itoa_cases a with ⟨_, e⟩ | ⟨h2, _⟩
  · exact e
  · omega
theorem itoa_no {a : Int} (h : 1 ≤ a) {c : UInt8} (hc : ¬ isD c) : c ∉ Lib.itoa a := by
  rw [itoa_pos h]
  intro hm
  exact hc (dec_digs _ c hm)
theorem T_no44 (x : Pc) (h : okP x) : (44 : UInt8) ∉ T x := by
  have h1 := itoa_no h.1 (c := 44) (by unfold isD; decide)
  have h2 := itoa_no (a := x.1 + x.2) (by have := h.1; omega) (c := 44) (by unfold isD; decide)
  unfold T
  split
  · exact h1
  · simp [h1, h2]
theorem T_cut {x : Pc} (h : okP x) (hn : x.2 ≠ 0) : (45 : UInt8) ∉ Lib.itoa x.1 ∧ T x = Lib.itoa x.1 ++ 45 :: Lib.itoa (x.1 + x.2) :=
  ⟨itoa_no h.1 (by unfold isD; decide), by unfold T; rw [if_neg hn]⟩
theorem T_one {x : Pc} (h : okP x) (hn : x.2 = 0) : (45 : UInt8) ∉ T x ∧ T x = Lib.itoa x.1 := by
  have e : T x = Lib.itoa x.1 := by unfold T; rw [if_pos hn]
  rw [e]
  exact ⟨itoa_no h.1 (by unfold isD; decide), rfl⟩
theorem first45 {a b r r' : List UInt8} (ha : (45 : UInt8) ∉ a) (hb : (45 : UInt8) ∉ b) (e : a ++ 45 :: r = b ++ 45 :: r') : a = b ∧ r = r' := by
  induction a generalizing b with
  | nil =>
    cases b with
    | nil => simp at e; exact ⟨rfl, e⟩
    | cons y b => simp at e; exact absurd (by rw [← e.1]; exact List.mem_cons_self) hb
  | cons x a ih =>
    cases b with
    | nil => simp at e; exact absurd (by rw [e.1]; exact List.mem_cons_self) ha
    | cons y b =>
      simp at e
      obtain ⟨h1, h2⟩ := ih (fun h => ha (List.mem_cons_of_mem _ h)) (fun h => hb (List.mem_cons_of_mem _ h)) e.2
      exact ⟨by rw [e.1, h1], h2⟩
theorem T_inj (x y : Pc) (hx : okP x) (hy : okP y) (h : T x = T y) : x = y := by
  by_cases h1 : x.2 = 0
  · by_cases h2 : y.2 = 0
    · rw [(T_one hx h1).2, (T_one hy h2).2] at h
      exact Prod.ext (itoa_inj h) (by rw [h1, h2])
    · exfalso
      have := (T_one hx h1).1
      rw [h, (T_cut hy h2).2] at this
      simp at this
  · by_cases h2 : y.2 = 0
    · exfalso
      have := (T_one hy h2).1
      rw [← h, (T_cut hx h1).2] at this
      simp at this
    · rw [(T_cut hx h1).2, (T_cut hy h2).2] at h
      obtain ⟨e1, e2⟩ := first45 (T_cut hx h1).1 (T_cut hy h2).1 h
      have a1 := itoa_inj e1
      have a2 := itoa_inj e2
      exact Prod.ext a1 (by omega)
theorem txt_inj {D E : List Int} (hD : Gd D) (hE : Gd E) (h : txt D = txt E) : D = E := by
  by_cases h0 : D = []
  · subst h0
    by_cases h1 : E = []
    · rw [h1]
    · exfalso
      have hne := pcs_ne h1
      have : txt E = [] := by rw [← h]; rfl
      cases hp : pcs E with
      | nil => exact hne hp
      | cons y L =>
        unfold txt at this
        rw [hp, PcPl.J, List.map_cons, Lib.join_cons] at this
        have hy := hE.ok y (by rw [hp]; exact List.mem_cons_self)
        have h2 : T y = [] := (List.append_eq_nil_iff.1 this).1
        have h3 : Lib.itoa y.1 = [] := by
          unfold T at h2
          split at h2
          · exact h2
          · simp at h2
        rw [itoa_pos hy.1] at h3
        exact dec_ne _ h3
  · by_cases h1 : E = []
    · exfalso
      subst h1
      have : txt ([] : List Int) = [] := rfl
      rw [this] at h
      cases hp : pcs D with
      | nil => exact pcs_ne h0 hp
      | cons y L =>
        unfold txt at h
        rw [hp, PcPl.J, List.map_cons, Lib.join_cons] at h
        have hy := hD.ok y (by rw [hp]; exact List.mem_cons_self)
        have h2 : T y = [] := (List.append_eq_nil_iff.1 h).1
        have h3 : Lib.itoa y.1 = [] := by
          unfold T at h2
          split at h2
          · exact h2
          · simp at h2
        rw [itoa_pos hy.1] at h3
        exact dec_ne _ h3
    · -- both have pieces
      have key : ∀ (A B : List Pc), (∀ x ∈ A, okP x) → (∀ x ∈ B, okP x) → A ≠ [] → B ≠ [] → PcPl.J T A = PcPl.J T B → A = B := by
        intro A
        induction A with
        | nil => intro B _ _ h; exact absurd rfl h
        | cons x A ih =>
          intro B hA hB _ hBn hj
          cases A with
          | nil =>
            cases B with
            | nil => exact absurd rfl hBn
            | cons y B =>
              cases B with
              | nil => rw [PcPl.J_one, PcPl.J_one] at hj; rw [T_inj x y (hA x List.mem_cons_self) (hB y List.mem_cons_self) hj]
              | cons z B => rw [PcPl.J_one, PcPl.J_cons2] at hj; exact absurd (by rw [hj]; simp) (T_no44 x (hA x List.mem_cons_self))
          | cons x2 A =>
            cases B with
            | nil => exact absurd rfl hBn
            | cons y B =>
              cases B with
              | nil => rw [PcPl.J_one, PcPl.J_cons2] at hj; exact absurd (by rw [← hj]; simp) (T_no44 y (hB y List.mem_cons_self))
              | cons z B =>
                rw [PcPl.J_cons2, PcPl.J_cons2] at hj
                obtain ⟨h1, h2⟩ := PcPl.first_eq (T_no44 x (hA x List.mem_cons_self)) (T_no44 y (hB y List.mem_cons_self)) hj
                injection h2 with _ h3
                rw [T_inj x y (hA x List.mem_cons_self) (hB y List.mem_cons_self) h1, ih (z :: B) (fun a h => hA a (List.mem_cons_of_mem _ h)) (fun a h => hB a (List.mem_cons_of_mem _ h)) (by simp) (by simp) h3]
      have e := key (pcs D) (pcs E) hD.ok hE.ok (pcs_ne h0) (pcs_ne h1) h
      rw [← hD.ex, ← hE.ex, e]
/-- what ParseNumbers answers: the list whose text it is, or none -/
def AnsN (s : List UInt8) (D : List Int) (r : Bool) : Prop := (r = true ∧ Gd D ∧ txt D = s) ∨ (r = false ∧ D = [] ∧ ∀ E, Gd E → txt E ≠ s)
theorem AnsN.uniq {s : List UInt8} {D E : List Int} {r q : Bool} (h : AnsN s D r) (h' : AnsN s E q) : D = E ∧ r = q := by
  rcases h with ⟨h1, h2, h3⟩ | ⟨h1, h2, h3⟩ <;> rcases h' with ⟨k1, k2, k3⟩ | ⟨k1, k2, k3⟩
  · exact ⟨txt_inj h2 k2 (by rw [h3, k3]), by rw [h1, k1]⟩
  · exact absurd h3 (k3 D h2)
  · exact absurd k3 (h3 E k2)
  · exact ⟨by rw [h2, k2], by rw [h1, k1]⟩
theorem gd_srt {L : List Int} (hr : ∀ x ∈ L, 1 ≤ x ∧ x ≤ 999) (h20 : L.length ≤ 20) : Gd (srt L) := ⟨srt_asc L, fun x hx => hr x ((srt_mem L x).1 hx), Nat.le_trans (srt_len L) h20⟩
theorem T_len {x : Pc} (h : okP x) : (T x).length ≤ 7 := by
  have h1 : (Lib.itoa x.1).length ≤ 3 := by rw [itoa_pos h.1]; exact dec_le 2 _ (by have := h.2.1; have := h.1; omega)
  have h2 : (Lib.itoa (x.1 + x.2)).length ≤ 3 := by rw [itoa_pos (by have := h.1; omega)]; exact dec_le 2 _ (by have := h.2.1; have := h.1; omega)
  unfold T
  split
  · omega
  · simp; omega
theorem T_w {x : Pc} (h : okP x) : (T x).length + 2 ≤ 5 * (ex x).length := by
  have e : (ex x).length = x.2 + 1 := by simp [NuPl.ex]
  have h1 : (Lib.itoa x.1).length ≤ 3 := by rw [itoa_pos h.1]; exact dec_le 2 _ (by have := h.2.1; have := h.1; omega)
  rw [e]
  by_cases h0 : x.2 = 0
  · rw [(T_one h h0).2]; omega
  · have := T_len h
    have := h.2.2.1
    omega
theorem J_len : ∀ (L : List Pc), (∀ x ∈ L, okP x) → (PcPl.J T L).length ≤ 5 * (L.flatMap ex).length
  | [], _ => by simp [PcPl.J, Lib.join_nil]
  | [x], h => by rw [PcPl.J_one]; have := T_w (h x List.mem_cons_self); simp at this ⊢; omega
  | x :: y :: L, h => by
    rw [PcPl.J_cons2, List.flatMap_cons, List.length_append, List.length_append, List.length_cons, List.length_cons]
    have h1 := T_w (h x List.mem_cons_self)
    have h2 := J_len (y :: L) (fun a ha => h a (List.mem_cons_of_mem _ ha))
    omega
theorem txt_len {D : List Int} (h : Gd D) : (txt D).length ≤ 100 := by
  have h1 := J_len (pcs D) h.ok
  rw [h.ex] at h1
  have := h.2.2
  unfold txt
  omega
end Go.Proofs.YtilaaegdkjlifaaDoor.NuPl
