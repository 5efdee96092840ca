/-
  Plain mathematics of chapter 2: letters, words, particles, valid names, joining with spaces. Nothing of the program is named here.
-/
import Derived.Test.YtkiogbbbigmgnaaPlain
import Derived.Test.YtkiogbbbigmgnaaStPl
import Derived.Test.YtkiogbbbigmgnaaSplitPl
import Derived.Lib.Join
namespace Go.Proofs.Ytkiogbbbigmgnaa.NmPl
open Pl Stands SplitPl

def isUp (c : UInt8) : Bool := decide (65 ≤ c.toNat ∧ c.toNat ≤ 90)
def isLo (c : UInt8) : Bool := decide (97 ≤ c.toNat ∧ c.toNat ≤ 122)
def isLt (c : UInt8) : Bool := isUp c || isLo c
def isHy (c : UInt8) : Bool := decide (c.toNat = 45 ∨ c.toNat = 39)
/-- the rest of a word behind a letter (p) or behind none -/
def wgo : Bool → List UInt8 → Bool
  | p, [] => p
  | p, c :: l => if isLt c = true then wgo true l else if p = true ∧ isHy c = true then wgo false l else false
def wordB (l : List UInt8) : Bool := decide (l.length ≤ 12) && wgo false l
def up0 : List UInt8 → Bool
  | [] => false
  | c :: _ => isUp c
def capB (l : List UInt8) : Bool := wordB l && up0 l
def lowB (l : List UInt8) : Bool := decide (0 < l.length) && decide (l.length ≤ 12) && l.all isLo

theorem wgo_lt {p : Bool} {c : UInt8} {l : List UInt8} (h : isLt c = true) : wgo p (c :: l) = wgo true l := by simp [wgo, h]
theorem wgo_hy {c : UInt8} {l : List UInt8} (h : isLt c = false) (h2 : isHy c = true) : wgo true (c :: l) = wgo false l := by simp [wgo, h, h2]
theorem wgo_no {p : Bool} {c : UInt8} {l : List UInt8} (h : isLt c = false) (h2 : isHy c = false) : wgo p (c :: l) = false := by simp [wgo, h, h2]
theorem wgo_no' {c : UInt8} {l : List UInt8} (h : isLt c = false) : wgo false (c :: l) = false := by simp [wgo, h]
theorem drop_cons (s : ByteArray) (k : Nat) (h : k < s.size) : s.data.toList.drop k = s[k] :: s.data.toList.drop (k + 1) := by
  rw [List.drop_eq_getElem_cons (by simpa using h)]; rfl
theorem drop_all (s : ByteArray) (k : Nat) (h : s.size ≤ k) : s.data.toList.drop k = [] :=
  List.drop_eq_nil_of_le (by rw [len_size]; exact h)
theorem wgo_last : ∀ (l : List UInt8) (p : Bool) (c : UInt8), wgo p (l ++ [c]) = true → isLt c = true
  | [], p, c, h => by
    by_cases hc : isLt c = true
    · exact hc
    · have hc' : isLt c = false := by simpa using hc
      simp [wgo, hc'] at h
  | a :: l, p, c, h => by
    rw [List.cons_append] at h
    by_cases ha : isLt a = true
    · rw [wgo_lt ha] at h; exact wgo_last l _ c h
    · have ha' : isLt a = false := by simpa using ha
      simp only [wgo, ha'] at h
      split at h
      · cases ‹false = true›
      · split at h
        · exact wgo_last l _ c h
        · cases h
theorem last_snoc (s : ByteArray) (h : 0 < s.size) : ∃ l, s.data.toList = l ++ [s[s.size - 1]'(by omega)] := by
  refine ⟨s.data.toList.take (s.size - 1), ?_⟩
  have := take_snoc s (s.size - 1) (by omega)
  rw [show s.size - 1 + 1 = s.size from by omega, take_all s _ (Nat.le_refl _)] at this
  exact this
theorem wgo_lows : ∀ (l : List UInt8) (p : Bool), l.all isLo = true → l ≠ [] → wgo p l = true
  | [], _, _, h => absurd rfl h
  | c :: l, p, h, _ => by
    simp only [List.all_cons, Bool.and_eq_true] at h
    rw [wgo_lt (by simp [isLt, h.1])]
    cases l with
    | nil => rfl
    | cons a l => exact wgo_lows (a :: l) true h.2 (by simp)
theorem wgo_nil : wgo false [] = false := rfl
/-- the words of a particle, as both check them -/
theorem low_word (l : List UInt8) : (wordB l && l.all isLo) = lowB l := by
  unfold wordB lowB
  cases l with
  | nil => rfl
  | cons c l =>
    by_cases h : (c :: l).all isLo = true
    · rw [wgo_lows _ false h (by simp), h]; simp
    · have h' : (c :: l).all isLo = false := by simpa using h
      rw [h']; simp

theorem split_none {b : UInt8} {x : List UInt8} (h : stB b x = false) : spD b x = [] ∧ spC b x = x := by
  refine snocInd (P := fun x => stB b x = false → spD b x = [] ∧ spC b x = x) (fun _ => ⟨rfl, rfl⟩) ?_ x h
  intro l c ih h
  rw [stB_snoc, Bool.or_eq_false_iff] at h
  have hc : c ≠ b := by simpa using h.2
  obtain ⟨h1, h2⟩ := ih h.1
  rw [spD_miss b l hc, spC_miss b l hc, h1, h2]
  exact ⟨rfl, rfl⟩
theorem split_one {b : UInt8} {x : List UInt8} (h : stB b x = false) : split b x = [x] := by
  obtain ⟨h1, h2⟩ := split_none h
  simp [split, h1, h2]
theorem split_app {b : UInt8} {x : List UInt8} (h : stB b x = false) (y : List UInt8) : spD b (x ++ b :: y) = x :: spD b y ∧ spC b (x ++ b :: y) = spC b y := by
  obtain ⟨h1, h2⟩ := split_none h
  refine snocInd (P := fun y => spD b (x ++ b :: y) = x :: spD b y ∧ spC b (x ++ b :: y) = spC b y) ?_ ?_ y
  · rw [spD_hit b x rfl, spC_hit b x rfl, h1, h2]
    exact ⟨rfl, rfl⟩
  · rintro l c ⟨i1, i2⟩
    have e : x ++ b :: (l ++ [c]) = (x ++ b :: l) ++ [c] := by simp
    rw [e]
    by_cases hc : c = b
    · rw [spD_hit b _ hc, spC_hit b _ hc, spD_hit b l hc, spC_hit b l hc, i1, i2]
      exact ⟨rfl, rfl⟩
    · rw [spD_miss b _ hc, spC_miss b _ hc, spD_miss b l hc, spC_miss b l hc, i1, i2]
      exact ⟨rfl, rfl⟩
theorem split_cons {b : UInt8} {x : List UInt8} (h : stB b x = false) (y : List UInt8) : split b (x ++ b :: y) = x :: split b y := by
  obtain ⟨h1, h2⟩ := split_app h y
  simp [split, h1, h2]
theorem split_len1 {b : UInt8} {y : List UInt8} (h : (split b y).length ≤ 1) : split b y = [y] := by
  have hj := join_split b y
  match hs : split b y, h with
  | [], _ => unfold split at hs; simp at hs
  | [x], _ => rw [hs, Lib.join_one] at hj; rw [hj]
/-- is it a particle -/
def partB (l : List UInt8) : Bool := (split 32 l).all lowB && decide ((split 32 l).length ≤ 2)
theorem lowB_free {l : List UInt8} (h : lowB l = true) : stB 32 l = false := by
  unfold lowB at h
  simp only [Bool.and_eq_true] at h
  unfold stB
  rw [Bool.eq_false_iff]
  intro hc
  rw [List.contains_iff_mem] at hc
  have := List.all_eq_true.1 h.2 _ hc
  simp [isLo] at this
theorem part_none {l : List UInt8} (h : stB 32 l = false) : partB l = lowB l := by
  unfold partB
  rw [split_one h]
  simp
theorem part_two {x y : List UInt8} (h : stB 32 x = false) : partB (x ++ 32 :: y) = (lowB x && lowB y) := by
  unfold partB
  rw [split_cons h]
  by_cases hy : lowB y = true
  · rw [split_one (lowB_free hy)]
    simp [hy]
  · have hy' : lowB y = false := by simpa using hy
    rw [hy']
    by_cases hl : (split 32 y).length ≤ 1
    · rw [split_len1 hl]; simp [hy']
    · have : decide ((x :: split 32 y).length ≤ 2) = false := by simp; omega
      rw [this]; simp
theorem part_nil : partB [] = false := by decide

/-- is the name valid -/
def goodB (gs : List (List UInt8)) (p f s : List UInt8) : Bool := gs.all capB && decide (gs.length ≤ 3) && (p.isEmpty || partB p) && capB f && (s.isEmpty || wordB s)

/-! joining what is not empty with spaces -/
def jstep (s x : List UInt8) : List UInt8 := if s ≠ [] ∧ x ≠ [] then s ++ 32 :: x else s ++ x
def jn (xs : List (List UInt8)) : List UInt8 := xs.foldl jstep []
theorem jn_snoc (xs : List (List UInt8)) (x : List UInt8) : jn (xs ++ [x]) = jstep (jn xs) x := by simp [jn, List.foldl_append]
def full (xs : List (List UInt8)) : List (List UInt8) := xs.filter (fun x => !x.isEmpty)
theorem join_snoc' (xs : List (List UInt8)) (x : List UInt8) (h : xs ≠ []) : Lib.join (xs ++ [x]) [32] = Lib.join xs [32] ++ 32 :: x := by
  cases xs with
  | nil => exact absurd rfl h
  | cons a r => rw [List.cons_append, Lib.join_cons, Lib.join_cons, tail_snoc]; simp
theorem join_ne (xs : List (List UInt8)) (h : ∀ x ∈ xs, x ≠ []) (h0 : xs ≠ []) : Lib.join xs [32] ≠ [] := by
  cases xs with
  | nil => exact absurd rfl h0
  | cons a r =>
    rw [Lib.join_cons]
    have := h a (List.mem_cons_self ..)
    intro e
    exact this (List.append_eq_nil_iff.1 e).1
theorem listSnoc {α : Type} {P : List α → Prop} (h0 : P []) (h1 : ∀ l x, P l → P (l ++ [x])) (l : List α) : P l := by
  have : ∀ n (l : List α), l.length = n → P l := by
    intro n
    induction n with
    | zero => intro l hl; rw [List.eq_nil_of_length_eq_zero hl]; exact h0
    | succ n ih =>
      intro l hl
      rcases List.eq_nil_or_concat l with rfl | ⟨l', x, rfl⟩
      · exact h0
      · rw [List.concat_eq_append] at hl ⊢
        exact h1 _ _ (ih _ (by simpa using hl))
  exact this _ l rfl
theorem full_mem {xs : List (List UInt8)} : ∀ x ∈ full xs, x ≠ [] := by
  intro x hx
  have := (List.mem_filter.1 hx).2
  rintro rfl
  simp at this
theorem jn_join (xs : List (List UInt8)) : jn xs = Lib.join (full xs) [32] := by
  refine listSnoc (P := fun xs => jn xs = Lib.join (full xs) [32]) rfl ?_ xs
  intro l x ih
  rw [jn_snoc, ih]
  unfold full
  rw [List.filter_append]
  by_cases hx : x = []
  · subst hx
    simp [jstep]
  · have e : [x].filter (fun x => !x.isEmpty) = [x] := by
      rw [List.filter_cons]
      cases x with
      | nil => exact absurd rfl hx
      | cons a r => rfl
    rw [e]
    by_cases h0 : full l = []
    · have h0' : List.filter (fun x => !x.isEmpty) l = [] := h0
      rw [h0']
      simp [jstep, Lib.join]
    · have hne := join_ne (full l) full_mem h0
      unfold full at h0 hne
      rw [join_snoc' _ _ h0, jstep, if_pos ⟨hne, hx⟩]
theorem full_all {xs : List (List UInt8)} (h : ∀ x ∈ xs, x ≠ []) : full xs = xs := by
  unfold full
  rw [List.filter_eq_self]
  intro x hx
  cases x with
  | nil => exact absurd rfl (h _ hx)
  | cons a r => rfl
theorem jn_all {xs : List (List UInt8)} (h : ∀ x ∈ xs, x ≠ []) : Lib.join xs [32] = jn xs := by
  rw [jn_join, full_all h]
theorem word_ne {l : List UInt8} (h : wordB l = true) : l ≠ [] := by rintro rfl; revert h; decide
theorem cap_ne {l : List UInt8} (h : capB l = true) : l ≠ [] := by rintro rfl; revert h; decide
theorem word_len {l : List UInt8} (h : wordB l = true) : l.length ≤ 12 := by
  unfold wordB at h
  simp only [Bool.and_eq_true, decide_eq_true_eq] at h
  exact h.1
theorem cap_word {l : List UInt8} (h : capB l = true) : wordB l = true := by
  unfold capB at h
  simp only [Bool.and_eq_true] at h
  exact h.1
theorem jstep_len (s x : List UInt8) : (jstep s x).length ≤ s.length + 1 + x.length := by
  unfold jstep; split <;> simp <;> omega
end Go.Proofs.Ytkiogbbbigmgnaa.NmPl
