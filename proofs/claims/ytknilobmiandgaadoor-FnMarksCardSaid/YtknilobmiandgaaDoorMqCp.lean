/-
  Plain mathematics of cleaning: what replaces two consecutive bytes; byte by byte onto what is settled, and the first place again and again, come to the same text.
-/
import Derived.Test.YtknilobmiandgaaDoorMqPl
namespace Go.Proofs.YtknilobmiandgaaDoor.MqPl
open Pl NmPl

/-- what replaces two consecutive bytes -/
def rp (a b : UInt8) : Option UInt8 := if a = 32 ∧ (b = 32 ∨ isM b = true) then some b else rm a b
/-- a byte behind what is settled (the last byte first) -/
def pushR : List UInt8 → UInt8 → List UInt8
  | [], c => [c]
  | l :: st, c => match rp l c with
    | some x => pushR st x
    | none => c :: l :: st
theorem pushR_nil (c : UInt8) : pushR [] c = [c] := rfl
theorem pushR_some {l c x : UInt8} {st : List UInt8} (h : rp l c = some x) : pushR (l :: st) c = pushR st x := by rw [pushR, h]
theorem pushR_none {l c : UInt8} {st : List UInt8} (h : rp l c = none) : pushR (l :: st) c = c :: l :: st := by rw [pushR, h]
theorem pushR_len (st : List UInt8) (c : UInt8) : (pushR st c).length ≤ st.length + 1 := by
  induction st generalizing c with
  | nil => rw [pushR_nil]; simp
  | cons l st ih =>
    cases h : rp l c with
    | none => rw [pushR_none h]; simp
    | some x => rw [pushR_some h]; have := ih x; simp; omega
/-- nothing is possible in it (the last byte first) -/
def stl : List UInt8 → Prop
  | b :: a :: r => rp a b = none ∧ stl (a :: r)
  | _ => True
theorem stl_tail {a : UInt8} {r : List UInt8} (h : stl (a :: r)) : stl r := by
  cases r with
  | nil => trivial
  | cons b r => exact h.2
def runR (s : List UInt8) : List UInt8 := s.foldl pushR []
theorem runR_snoc (s : List UInt8) (c : UInt8) : runR (s ++ [c]) = pushR (runR s) c := by simp [runR, List.foldl_append]
theorem runR_len (s : List UInt8) : (runR s).length ≤ s.length := by
  induction s using snocInd with
  | h0 => simp [runR]
  | h1 l x ih => rw [runR_snoc]; have := pushR_len (runR l) x; simp; omega
theorem runR_stl (s : List UInt8) (h : stl s.reverse) : runR s = s.reverse := by
  induction s using snocInd with
  | h0 => rfl
  | h1 l x ih =>
    rw [List.reverse_append] at h
    have h' : stl (x :: l.reverse) := h
    rw [runR_snoc, ih (stl_tail h'), List.reverse_append]
    cases hr : l.reverse with
    | nil => rfl
    | cons a r =>
      rw [hr] at h'
      exact pushR_none h'.1
theorem runR_change {p r : List UInt8} {a b x : UInt8} (h : stl (p ++ [a]).reverse) (hx : rp a b = some x) : runR (p ++ [a, b] ++ r) = runR (p ++ [x] ++ r) := by
  have e1 : p ++ [a, b] ++ r = (p ++ [a]) ++ [b] ++ r := by simp
  have hp : stl p.reverse := by
    rw [List.reverse_append] at h
    exact stl_tail (a := a) h
  have e2 : runR ((p ++ [a]) ++ [b]) = runR (p ++ [x]) := by
    rw [runR_snoc, runR_stl _ h, runR_snoc, runR_stl _ hp, List.reverse_append]
    exact pushR_some hx
  unfold runR at e2 ⊢
  rw [e1, List.foldl_append, e2, ← List.foldl_append]
/-- trimming from either side first -/
theorem trimR_cons (c : UInt8) (l : List UInt8) : Lib.trimRightB (c :: l) 32 = if Lib.trimRightB l 32 = [] ∧ c = 32 then [] else c :: Lib.trimRightB l 32 := by
  induction l using snocInd with
  | h0 =>
    by_cases h : c = 32
    · subst h; rfl
    · rw [if_neg (fun e => h e.2)]
      unfold Lib.trimRightB
      simp [h]
  | h1 l x ih =>
    by_cases h : x = 32
    · subst h
      have e1 : Lib.trimRightB (c :: (l ++ [32])) 32 = Lib.trimRightB (c :: l) 32 := by
        unfold Lib.trimRightB
        rw [show (c :: (l ++ [32])).reverse = 32 :: (c :: l).reverse by simp]; rfl
      have e2 : Lib.trimRightB (l ++ [32]) 32 = Lib.trimRightB l 32 := by unfold Lib.trimRightB; rw [List.reverse_append]; rfl
      rw [e1, e2, ih]
    · have e1 : Lib.trimRightB (c :: (l ++ [x])) 32 = c :: (l ++ [x]) := by
        unfold Lib.trimRightB
        rw [show (c :: (l ++ [x])).reverse = x :: (c :: l).reverse by simp, List.dropWhile_cons, if_neg (by simpa using h)]
        simp
      have e2 : Lib.trimRightB (l ++ [x]) 32 = l ++ [x] := by
        unfold Lib.trimRightB
        rw [show (l ++ [x]).reverse = x :: l.reverse by simp, List.dropWhile_cons, if_neg (by simpa using h)]
        simp
      rw [e1, e2, if_neg (by simp)]
theorem trim_comm (l : List UInt8) : Lib.trimRightB (Lib.trimLeftB l 32) 32 = Lib.trimB l 32 := by
  unfold Lib.trimB
  induction l with
  | nil => rfl
  | cons c l ih =>
    by_cases h : c = 32
    · subst h
      have e1 : Lib.trimLeftB (32 :: l) 32 = Lib.trimLeftB l 32 := by unfold Lib.trimLeftB; rw [List.dropWhile_cons, if_pos (by rfl)]
      rw [e1, ih, trimR_cons]
      by_cases h2 : Lib.trimRightB l 32 = []
      · rw [if_pos ⟨h2, rfl⟩, h2]
      · rw [if_neg (fun e => h2 e.1)]
        unfold Lib.trimLeftB; rw [List.dropWhile_cons, if_pos (by rfl)]
    · have e1 : Lib.trimLeftB (c :: l) 32 = c :: l := by unfold Lib.trimLeftB; rw [List.dropWhile_cons, if_neg (by simpa using h)]
      rw [e1, trimR_cons, if_neg (fun e => h e.2)]
      unfold Lib.trimLeftB; rw [List.dropWhile_cons, if_neg (by simpa using h)]
/-- the clean text -/
def clL (s : List UInt8) : List UInt8 := Lib.trimB (runR s).reverse 32
theorem trimB_len (l : List UInt8) (c : UInt8) : (Lib.trimB l c).length ≤ l.length := by
  unfold Lib.trimB Lib.trimLeftB
  have h1 := (List.dropWhile_sublist (fun x : UInt8 => x == c) (l := Lib.trimRightB l c)).length_le
  have h2 : (Lib.trimRightB l c).length ≤ l.length := by
    unfold Lib.trimRightB
    rw [List.length_reverse]
    have := (List.dropWhile_sublist (fun x : UInt8 => x == c) (l := l.reverse)).length_le
    rw [List.length_reverse] at this
    exact this
  omega
theorem clL_len (s : List UInt8) : (clL s).length ≤ s.length := by
  unfold clL
  have h1 := trimB_len (runR s).reverse 32
  rw [List.length_reverse] at h1
  have := runR_len s
  omega
end Go.Proofs.YtknilobmiandgaaDoor.MqPl
