/-
  Several texts of one claim in one file: StPl, SplitPl, NmPl.
-/
import Derived.Test.YteccmlpibbchbaaGreatDoorPlain
import Derived.WalkKit
import Derived.Lib.IndexLaws
import Derived.Lib.Bytealg
import Derived.Lib.Join
/-
  Plain mathematics: whether a byte stands in a text.
-/
namespace Go.Proofs.YteccmlpibbchbaaGreatDoor.Stands
open Pl

/-- does the byte stand in the text -/
def stB (b : UInt8) (l : List UInt8) : Bool := l.contains b
theorem stB_snoc (b : UInt8) (l : List UInt8) (x : UInt8) : stB b (l ++ [x]) = (stB b l || (x == b)) := by
  have e : (b == x) = (x == b) := by rw [Bool.eq_iff_iff, beq_iff_eq, beq_iff_eq]; exact eq_comm
  unfold stB; rw [List.contains_append, List.contains_cons, List.contains_nil, Bool.or_false, e]

theorem stB_index (b : UInt8) (l : List UInt8) : decide (0 ≤ Lib.indexByte l b) = stB b l := by
  unfold stB
  rw [Bool.eq_iff_iff, decide_eq_true_iff, List.contains_iff_mem]
  constructor
  · intro h
    obtain ⟨o, ho⟩ := Int.eq_ofNat_of_zero_le h
    exact List.mem_of_getElem? (Lib.indexByte_some ho).1
  · intro h
    have hge := Lib.indexByte_ge l b
    rcases Int.lt_or_le (Lib.indexByte l b) 0 with hlt | hle
    · obtain ⟨i, hi⟩ := List.getElem?_of_mem h
      exact absurd hi (Lib.indexByte_none (by omega) i)
    · exact hle
end Go.Proofs.YteccmlpibbchbaaGreatDoor.Stands
/-
  Plain mathematics: what is split at a byte and joined again; the first part.
-/
namespace Go.Proofs.YteccmlpibbchbaaGreatDoor.SplitPl
open Pl Stands

/-! what is split at a byte and joined again -/
def flat (b : UInt8) (D : List (List UInt8)) : List UInt8 := (D.map (· ++ [b])).flatten
theorem tail_snoc (b : UInt8) (r : List (List UInt8)) (c : List UInt8) : Lib.joinTail [b] (r ++ [c]) = Lib.joinTail [b] r ++ [b] ++ c := by
  simp [Lib.joinTail]
theorem join_snoc (b : UInt8) (D : List (List UInt8)) (c : List UInt8) : Lib.join (D ++ [c]) [b] = flat b D ++ c := by
  induction D with
  | nil => simp [flat, Lib.join_one]
  | cons x r ih =>
    cases r with
    | nil => simp [flat, Lib.join_cons, Lib.joinTail]
    | cons y r =>
      have h1 : Lib.join (x :: (y :: r ++ [c])) [b] = x ++ [b] ++ Lib.join (y :: r ++ [c]) [b] := by
        rw [Lib.join_cons, List.cons_append, Lib.join_cons]
        simp [Lib.joinTail]
      rw [List.cons_append, h1, ih]
      simp [flat]
theorem join_split (b : UInt8) (l : List UInt8) : Lib.join (split b l) [b] = l := by
  unfold split
  rw [join_snoc]
  refine snocInd (P := fun l => flat b (spD b l) ++ spC b l = l) rfl ?_ l
  intro l x ih
  by_cases h : x = b
  · rw [spD_hit b l h, spC_hit b l h, h]
    conv => rhs; rw [← ih]
    simp [flat]
  · rw [spD_miss b l h, spC_miss b l h, ← List.append_assoc, ih]
theorem split_free (b : UInt8) (l : List UInt8) : ∀ x ∈ split b l, stB b x = false := by
  have : (∀ x ∈ spD b l, stB b x = false) ∧ stB b (spC b l) = false := by
    refine snocInd (P := fun l => (∀ x ∈ spD b l, stB b x = false) ∧ stB b (spC b l) = false) ⟨fun x hx => (by cases hx), rfl⟩ ?_ l
    rintro l x ⟨h1, h2⟩
    by_cases h : x = b
    · rw [spD_hit b l h, spC_hit b l h]
      refine ⟨fun y hy => ?_, rfl⟩
      rcases List.mem_append.1 hy with hy | hy
      · exact h1 y hy
      · simp at hy; subst hy; exact h2
    · rw [spD_miss b l h, spC_miss b l h]
      exact ⟨h1, by rw [stB_snoc, h2]; simpa using h⟩
  intro x hx
  rcases List.mem_append.1 hx with hx | hx
  · exact this.1 x hx
  · simp at hx; subst hx; exact this.2

/-- the part before the first such byte -/
def hd (b : UInt8) (l : List UInt8) : List UInt8 := l.takeWhile (· != b)
theorem free_mem {b : UInt8} {x : List UInt8} (h : stB b x = false) : ∀ a ∈ x, (a != b) = true := by
  intro a ha
  rw [bne_iff_ne]
  rintro rfl
  unfold stB at h
  rw [List.contains_eq_mem] at h
  simp [ha] at h
theorem hd_free {b : UInt8} {x : List UInt8} (h : stB b x = false) : hd b x = x := by
  have := List.takeWhile_append_of_pos (p := (· != b)) (l₁ := x) (l₂ := []) (free_mem h)
  simpa [hd] using this
theorem hd_app {b : UInt8} {x y : List UInt8} (h : stB b x = false) : hd b (x ++ b :: y) = x := by
  unfold hd
  rw [List.takeWhile_append_of_pos (free_mem h)]
  simp
theorem split_hd (b : UInt8) (l : List UInt8) : (split b l)[0]? = some (hd b l) := by
  have hj := join_split b l
  have hf := split_free b l
  cases hs : split b l with
  | nil => unfold split at hs; simp at hs
  | cons x r =>
    rw [hs] at hj hf
    have hx := hf x (List.mem_cons_self ..)
    rw [Lib.join_cons] at hj
    cases r with
    | nil =>
      simp [Lib.joinTail] at hj
      subst hj
      simp [hd_free hx]
    | cons y r =>
      have e : Lib.joinTail [b] (y :: r) = b :: (y ++ Lib.joinTail [b] r) := by simp [Lib.joinTail]
      rw [e] at hj
      rw [← hj, hd_app hx]
      rfl
theorem hd_nofind (b : UInt8) (l : List UInt8) : stB b (hd b l) = false := by
  unfold stB hd
  rw [Bool.eq_false_iff]
  intro h
  rw [List.contains_iff_mem] at h
  have key : ∀ l : List UInt8, b ∉ List.takeWhile (fun x => x != b) l := by
    intro l
    induction l with
    | nil => simp
    | cons a l ih =>
      rw [List.takeWhile_cons]
      split
      · rename_i hab
        intro hm
        rcases List.mem_cons.1 hm with rfl | hm
        · simp at hab
        · exact ih hm
      · simp
  exact key l h
theorem hd_len (b : UInt8) (l : List UInt8) : (hd b l).length ≤ l.length := (List.takeWhile_sublist _).length_le
theorem hd_index_none {b : UInt8} {l : List UInt8} (h : stB b l = false) : hd b l = l := hd_free h
theorem hd_index {b : UInt8} {l : List UInt8} {o : Nat} (h1 : l[o]? = some b) (h2 : ∀ k, k < o → l[k]? ≠ some b) : hd b l = l.take o := by
  have hlt : o < l.length := (List.getElem?_eq_some_iff.1 h1).1
  have hb : l[o] = b := (List.getElem?_eq_some_iff.1 h1).2
  have e : l = l.take o ++ b :: l.drop (o + 1) := by
    conv => lhs; rw [← List.take_append_drop o l, List.drop_eq_getElem_cons hlt, hb]
  have hf : stB b (l.take o) = false := by
    unfold stB
    rw [Bool.eq_false_iff]
    intro h
    rw [List.contains_iff_mem] at h
    obtain ⟨i, hi⟩ := List.getElem?_of_mem h
    rw [List.getElem?_take] at hi
    split at hi
    · exact h2 i (by assumption) hi
    · cases hi
  conv => lhs; rw [e]
  exact hd_app hf
end Go.Proofs.YteccmlpibbchbaaGreatDoor.SplitPl
/-
  Plain mathematics of chapter 2: letters, words, particles, valid names, joining with spaces. Nothing of the program is named here.
-/
namespace Go.Proofs.YteccmlpibbchbaaGreatDoor.NmPl
open Pl Stands SplitPl

def isUp (c : UInt8) : Bool := decide (65 ≤ c.toNat ∧ c.toNat ≤ 90)
def isLo (c : UInt8) : Bool := decide (97 ≤ c.toNat ∧ c.toNat ≤ 122)
def isLt (c : UInt8) : Bool := isUp c || isLo c
def isHy (c : UInt8) : Bool := decide (c.toNat = 45 ∨ c.toNat = 39)
/-- the rest of a word behind a letter (p) or behind none -/
def wgo : Bool → List UInt8 → Bool
  | p, [] => p
  | p, c :: l => if isLt c = true then wgo true l else if p = true ∧ isHy c = true then wgo false l else false
def wordB (l : List UInt8) : Bool := decide (l.length ≤ 12) && wgo false l
def up0 : List UInt8 → Bool
  | [] => false
  | c :: _ => isUp c
def capB (l : List UInt8) : Bool := wordB l && up0 l
def lowB (l : List UInt8) : Bool := decide (0 < l.length) && decide (l.length ≤ 12) && l.all isLo

theorem wgo_lt {p : Bool} {c : UInt8} {l : List UInt8} (h : isLt c = true) : wgo p (c :: l) = wgo true l := by simp [wgo, h]
theorem wgo_hy {c : UInt8} {l : List UInt8} (h : isLt c = false) (h2 : isHy c = true) : wgo true (c :: l) = wgo false l := by simp [wgo, h, h2]
theorem wgo_no {p : Bool} {c : UInt8} {l : List UInt8} (h : isLt c = false) (h2 : isHy c = false) : wgo p (c :: l) = false := by simp [wgo, h, h2]
theorem wgo_no' {c : UInt8} {l : List UInt8} (h : isLt c = false) : wgo false (c :: l) = false := by simp [wgo, h]
theorem drop_cons (s : ByteArray) (k : Nat) (h : k < s.size) : s.data.toList.drop k = s[k] :: s.data.toList.drop (k + 1) := by
  rw [List.drop_eq_getElem_cons (by simpa using h)]; rfl
theorem drop_all (s : ByteArray) (k : Nat) (h : s.size ≤ k) : s.data.toList.drop k = [] :=
  List.drop_eq_nil_of_le (by rw [len_size]; exact h)
theorem wgo_last : ∀ (l : List UInt8) (p : Bool) (c : UInt8), wgo p (l ++ [c]) = true → isLt c = true
  | [], p, c, h => by
    by_cases hc : isLt c = true
    · exact hc
    · have hc' : isLt c = false := by simpa using hc
      simp [wgo, hc'] at h
  | a :: l, p, c, h => by
    rw [List.cons_append] at h
    by_cases ha : isLt a = true
    · rw [wgo_lt ha] at h; exact wgo_last l _ c h
    · have ha' : isLt a = false := by simpa using ha
      simp only [wgo, ha'] at h
      split at h
      · cases ‹false = true›
      · split at h
        · exact wgo_last l _ c h
        · cases h
theorem last_snoc (s : ByteArray) (h : 0 < s.size) : ∃ l, s.data.toList = l ++ [s[s.size - 1]'(by omega)] := by
  refine ⟨s.data.toList.take (s.size - 1), ?_⟩
  have := take_snoc s (s.size - 1) (by omega)
  rw [show s.size - 1 + 1 = s.size from by omega, take_all s _ (Nat.le_refl _)] at this
  exact this
theorem wgo_lows : ∀ (l : List UInt8) (p : Bool), l.all isLo = true → l ≠ [] → wgo p l = true
  | [], _, _, h => absurd rfl h
  | c :: l, p, h, _ => by
    simp only [List.all_cons, Bool.and_eq_true] at h
    rw [wgo_lt (by simp [isLt, h.1])]
    cases l with
    | nil => rfl
    | cons a l => exact wgo_lows (a :: l) true h.2 (by simp)
theorem wgo_nil : wgo false [] = false := rfl
/-- the words of a particle, as both check them -/
theorem low_word (l : List UInt8) : (wordB l && l.all isLo) = lowB l := by
  unfold wordB lowB
  cases l with
  | nil => rfl
  | cons c l =>
    by_cases h : (c :: l).all isLo = true
    · rw [wgo_lows _ false h (by simp), h]; simp
    · have h' : (c :: l).all isLo = false := by simpa using h
      rw [h']; simp

theorem split_none {b : UInt8} {x : List UInt8} (h : stB b x = false) : spD b x = [] ∧ spC b x = x := by
  refine snocInd (P := fun x => stB b x = false → spD b x = [] ∧ spC b x = x) (fun _ => ⟨rfl, rfl⟩) ?_ x h
  intro l c ih h
  rw [stB_snoc, Bool.or_eq_false_iff] at h
  have hc : c ≠ b := by simpa using h.2
  obtain ⟨h1, h2⟩ := ih h.1
  rw [spD_miss b l hc, spC_miss b l hc, h1, h2]
  exact ⟨rfl, rfl⟩
theorem split_one {b : UInt8} {x : List UInt8} (h : stB b x = false) : split b x = [x] := by
  obtain ⟨h1, h2⟩ := split_none h
  simp [split, h1, h2]
theorem split_app {b : UInt8} {x : List UInt8} (h : stB b x = false) (y : List UInt8) : spD b (x ++ b :: y) = x :: spD b y ∧ spC b (x ++ b :: y) = spC b y := by
  obtain ⟨h1, h2⟩ := split_none h
  refine snocInd (P := fun y => spD b (x ++ b :: y) = x :: spD b y ∧ spC b (x ++ b :: y) = spC b y) ?_ ?_ y
  · rw [spD_hit b x rfl, spC_hit b x rfl, h1, h2]
    exact ⟨rfl, rfl⟩
  · rintro l c ⟨i1, i2⟩
    have e : x ++ b :: (l ++ [c]) = (x ++ b :: l) ++ [c] := by simp
    rw [e]
    by_cases hc : c = b
    · rw [spD_hit b _ hc, spC_hit b _ hc, spD_hit b l hc, spC_hit b l hc, i1, i2]
      exact ⟨rfl, rfl⟩
    · rw [spD_miss b _ hc, spC_miss b _ hc, spD_miss b l hc, spC_miss b l hc, i1, i2]
      exact ⟨rfl, rfl⟩
theorem split_cons {b : UInt8} {x : List UInt8} (h : stB b x = false) (y : List UInt8) : split b (x ++ b :: y) = x :: split b y := by
  obtain ⟨h1, h2⟩ := split_app h y
  simp [split, h1, h2]
theorem split_len1 {b : UInt8} {y : List UInt8} (h : (split b y).length ≤ 1) : split b y = [y] := by
  have hj := join_split b y
  match hs : split b y, h with
  | [], _ => unfold split at hs; simp at hs
  | [x], _ => rw [hs, Lib.join_one] at hj; rw [hj]
/-- is it a particle -/
def partB (l : List UInt8) : Bool := (split 32 l).all lowB && decide ((split 32 l).length ≤ 2)
theorem lowB_free {l : List UInt8} (h : lowB l = true) : stB 32 l = false := by
  unfold lowB at h
  simp only [Bool.and_eq_true] at h
  unfold stB
  rw [Bool.eq_false_iff]
  intro hc
  rw [List.contains_iff_mem] at hc
  have := List.all_eq_true.1 h.2 _ hc
  simp [isLo] at this
theorem part_none {l : List UInt8} (h : stB 32 l = false) : partB l = lowB l := by
  unfold partB
  rw [split_one h]
  simp
theorem part_two {x y : List UInt8} (h : stB 32 x = false) : partB (x ++ 32 :: y) = (lowB x && lowB y) := by
  unfold partB
  rw [split_cons h]
  by_cases hy : lowB y = true
  · rw [split_one (lowB_free hy)]
    simp [hy]
  · have hy' : lowB y = false := by simpa using hy
    rw [hy']
    by_cases hl : (split 32 y).length ≤ 1
    · rw [split_len1 hl]; simp [hy']
    · have : decide ((x :: split 32 y).length ≤ 2) = false := by simp; omega
      rw [this]; simp
theorem part_nil : partB [] = false := by decide

/-- is the name valid -/
def goodB (gs : List (List UInt8)) (p f s : List UInt8) : Bool := gs.all capB && decide (gs.length ≤ 3) && (p.isEmpty || partB p) && capB f && (s.isEmpty || wordB s)

/-! joining what is not empty with spaces -/
def jstep (s x : List UInt8) : List UInt8 := if s ≠ [] ∧ x ≠ [] then s ++ 32 :: x else s ++ x
def jn (xs : List (List UInt8)) : List UInt8 := xs.foldl jstep []
theorem jn_snoc (xs : List (List UInt8)) (x : List UInt8) : jn (xs ++ [x]) = jstep (jn xs) x := by simp [jn, List.foldl_append]
def full (xs : List (List UInt8)) : List (List UInt8) := xs.filter (fun x => !x.isEmpty)
theorem join_snoc' (xs : List (List UInt8)) (x : List UInt8) (h : xs ≠ []) : Lib.join (xs ++ [x]) [32] = Lib.join xs [32] ++ 32 :: x := by
  cases xs with
  | nil => exact absurd rfl h
  | cons a r => rw [List.cons_append, Lib.join_cons, Lib.join_cons, tail_snoc]; simp
theorem join_ne (xs : List (List UInt8)) (h : ∀ x ∈ xs, x ≠ []) (h0 : xs ≠ []) : Lib.join xs [32] ≠ [] := by
  cases xs with
  | nil => exact absurd rfl h0
  | cons a r =>
    rw [Lib.join_cons]
    have := h a (List.mem_cons_self ..)
    intro e
    exact this (List.append_eq_nil_iff.1 e).1
theorem listSnoc {α : Type} {P : List α → Prop} (h0 : P []) (h1 : ∀ l x, P l → P (l ++ [x])) (l : List α) : P l := by
  have : ∀ n (l : List α), l.length = n → P l := by
    intro n
    induction n with
    | zero => intro l hl; rw [List.eq_nil_of_length_eq_zero hl]; exact h0
    | succ n ih =>
      intro l hl
      rcases List.eq_nil_or_concat l with rfl | ⟨l', x, rfl⟩
      · exact h0
      · rw [List.concat_eq_append] at hl ⊢
        exact h1 _ _ (ih _ (by simpa using hl))
  exact this _ l rfl
theorem full_mem {xs : List (List UInt8)} : ∀ x ∈ full xs, x ≠ [] := by
  intro x hx
  have := (List.mem_filter.1 hx).2
  rintro rfl
  simp at this
theorem jn_join (xs : List (List UInt8)) : jn xs = Lib.join (full xs) [32] := by
  refine listSnoc (P := fun xs => jn xs = Lib.join (full xs) [32]) rfl ?_ xs
  intro l x ih
  rw [jn_snoc, ih]
  unfold full
  rw [List.filter_append]
  by_cases hx : x = []
  · subst hx
    simp [jstep]
  · have e : [x].filter (fun x => !x.isEmpty) = [x] := by
      rw [List.filter_cons]
      cases x with
      | nil => exact absurd rfl hx
      | cons a r => rfl
    rw [e]
    by_cases h0 : full l = []
    · have h0' : List.filter (fun x => !x.isEmpty) l = [] := h0
      rw [h0']
      simp [jstep, Lib.join]
    · have hne := join_ne (full l) full_mem h0
      unfold full at h0 hne
      rw [join_snoc' _ _ h0, jstep, if_pos ⟨hne, hx⟩]
theorem full_all {xs : List (List UInt8)} (h : ∀ x ∈ xs, x ≠ []) : full xs = xs := by
  unfold full
  rw [List.filter_eq_self]
  intro x hx
  cases x with
  | nil => exact absurd rfl (h _ hx)
  | cons a r => rfl
theorem jn_all {xs : List (List UInt8)} (h : ∀ x ∈ xs, x ≠ []) : Lib.join xs [32] = jn xs := by
  rw [jn_join, full_all h]
theorem word_ne {l : List UInt8} (h : wordB l = true) : l ≠ [] := by rintro rfl; revert h; decide
theorem cap_ne {l : List UInt8} (h : capB l = true) : l ≠ [] := by rintro rfl; revert h; decide
theorem word_len {l : List UInt8} (h : wordB l = true) : l.length ≤ 12 := by
  unfold wordB at h
  simp only [Bool.and_eq_true, decide_eq_true_eq] at h
  exact h.1
theorem cap_word {l : List UInt8} (h : capB l = true) : wordB l = true := by
  unfold capB at h
  simp only [Bool.and_eq_true] at h
  exact h.1
theorem jstep_len (s x : List UInt8) : (jstep s x).length ≤ s.length + 1 + x.length := by
  unfold jstep; split <;> simp <;> omega
end Go.Proofs.YteccmlpibbchbaaGreatDoor.NmPl
