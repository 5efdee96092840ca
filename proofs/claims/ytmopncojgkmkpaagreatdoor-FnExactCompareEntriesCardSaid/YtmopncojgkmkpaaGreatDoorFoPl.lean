/-
  Plain mathematics of the folded form of a text and of the article of a title. Nothing of the program is named here.
-/
import Derived.Test.YtmopncojgkmkpaaGreatDoorNmPl
import Derived.Lib.Case
namespace Go.Proofs.YtmopncojgkmkpaaGreatDoor.FoPl
open Pl NmPl

def dg (c : UInt8) : Bool := decide (48 ≤ c.toNat ∧ c.toNat ≤ 57)
/-- what the folded form keeps: of the text itself, and of the text in lower case -/
def kp (c : UInt8) : Bool := isLt c || dg c
def kl (c : UInt8) : Bool := isLo c || dg c
def gapL : Bool → List UInt8
  | true => [32]
  | false => []
def fS (K : UInt8 → Bool) (p : Bool × List UInt8) (c : UInt8) : Bool × List UInt8 :=
  if K c = true then (false, p.2 ++ gapL (p.1 && decide (0 < p.2.length)) ++ [c]) else (p.1 || decide (c.toNat = 32), p.2)
def fA (K : UInt8 → Bool) (l : List UInt8) : Bool × List UInt8 := l.foldl (fS K) (false, [])
theorem fA_snoc (K : UInt8 → Bool) (l : List UInt8) (c : UInt8) : fA K (l ++ [c]) = fS K (fA K l) c := by unfold fA; rw [List.foldl_append]; rfl
/-- the folded form -/
def fT (l : List UInt8) : List UInt8 := (fA kp l).2.map Lib.lowerB
theorem low_up {c : UInt8} (h : isUp c = true) : (Lib.lowerB c).toNat = c.toNat + 32 := by
  have h2 : 65 ≤ c.toNat ∧ c.toNat ≤ 90 := by unfold isUp at h; simpa using h
  have e : Lib.isUpperB c = true := by unfold Lib.isUpperB; simp [UInt8.le_iff_toNat_le]; omega
  unfold Lib.lowerB
  rw [e, if_pos rfl, UInt8.toNat_add]
  have : (32 : UInt8).toNat = 32 := rfl
  omega
theorem low_no {c : UInt8} (h : isUp c = false) : Lib.lowerB c = c := by
  have h2 : ¬ (65 ≤ c.toNat ∧ c.toNat ≤ 90) := by unfold isUp at h; simpa using h
  have e : Lib.isUpperB c = false := by
    unfold Lib.isUpperB
    rw [Bool.eq_false_iff]
    intro he
    simp [UInt8.le_iff_toNat_le] at he
    exact h2 he
  unfold Lib.lowerB
  rw [e]; rfl
theorem kl_low (c : UInt8) : kl (Lib.lowerB c) = kp c := by
  cases hu : isUp c with
  | true =>
    have h1 := low_up hu
    have h2 : 65 ≤ c.toNat ∧ c.toNat ≤ 90 := by unfold isUp at hu; simpa using hu
    unfold kl kp isLt dg isLo
    rw [h1, hu]
    simp
    omega
  | false => rw [low_no hu]; unfold kl kp isLt; rw [hu]; rfl
theorem sp_low (c : UInt8) : ((Lib.lowerB c).toNat = 32) = (c.toNat = 32) := by
  cases hu : isUp c with
  | true =>
    have h1 := low_up hu
    have h2 : 65 ≤ c.toNat ∧ c.toNat ≤ 90 := by unfold isUp at hu; simpa using hu
    rw [h1]
    apply propext
    omega
  | false => rw [low_no hu]
theorem gap_low (b : Bool) : (gapL b).map Lib.lowerB = gapL b := by cases b <;> rfl
theorem fA_low (l : List UInt8) : fA kl (l.map Lib.lowerB) = ((fA kp l).1, (fA kp l).2.map Lib.lowerB) := by
  refine listSnoc (P := fun l => fA kl (l.map Lib.lowerB) = ((fA kp l).1, (fA kp l).2.map Lib.lowerB)) rfl ?_ l
  intro l c ih
  rw [List.map_append, List.map_cons, List.map_nil, fA_snoc, fA_snoc, ih]
  have e : decide ((Lib.lowerB c).toNat = 32) = decide (c.toNat = 32) := decide_eq_decide.2 (by rw [sp_low])
  unfold fS
  rw [kl_low, e]
  cases kp c <;> simp [gap_low]
theorem fA_len (K : UInt8 → Bool) (l : List UInt8) : (fA K l).2.length + (if (fA K l).1 = true then 1 else 0) ≤ l.length := by
  refine listSnoc (P := fun l => (fA K l).2.length + (if (fA K l).1 = true then 1 else 0) ≤ l.length) (Nat.le_refl _) ?_ l
  intro l c ih
  rw [fA_snoc, List.length_append, List.length_singleton]
  generalize fA K l = p at *
  obtain ⟨g, o⟩ := p
  unfold fS
  cases K c with
  | true =>
    rw [if_pos rfl]
    cases g with
    | true =>
      have : (gapL (true && decide (0 < o.length))).length ≤ 1 := by cases decide (0 < o.length) <;> simp [gapL]
      simp at ih this ⊢
      omega
    | false => simp [gapL] at ih ⊢; omega
  | false => simp at ih ⊢; cases g <;> simp at ih ⊢ <;> (try split) <;> omega
theorem fA_le (K : UInt8 → Bool) (l : List UInt8) : (fA K l).2.length ≤ l.length := by have := fA_len K l; omega
theorem kp_asc {c : UInt8} (h : kp c = true) : c.toNat < 128 := by
  unfold kp isLt isUp isLo dg at h; simp at h; omega
theorem fA_asc (l : List UInt8) : ∀ c ∈ (fA kp l).2, c.toNat < 128 := by
  refine listSnoc (P := fun l => ∀ c ∈ (fA kp l).2, c.toNat < 128) (fun c hc => by cases hc) ?_ l
  intro l c ih x hx
  rw [fA_snoc] at hx
  unfold fS at hx
  cases hk : kp c with
  | true =>
    rw [if_pos hk] at hx
    rcases List.mem_append.1 hx with h | h
    · rcases List.mem_append.1 h with h | h
      · exact ih x h
      · generalize ((fA kp l).1 && decide (0 < (fA kp l).2.length)) = b at h
        cases b with
        | true => rw [show gapL true = [32] from rfl, List.mem_singleton] at h; rw [h]; decide
        | false => cases h
    · rw [List.mem_singleton] at h; rw [h]; exact kp_asc hk
  | false => rw [if_neg (by rw [hk]; exact Bool.false_ne_true)] at hx; exact ih x hx
theorem fT_len (l : List UInt8) : (fT l).length ≤ l.length := by unfold fT; rw [List.length_map]; exact fA_le _ _
theorem fT_low (l : List UInt8) : (fA kl (l.map Lib.lowerB)).2 = fT l := by rw [fA_low]; rfl

/-- the text without its article -/
def artW (x : List UInt8) : Bool := x == [97] || (x == [97, 110] || x == [116, 104, 101])
def drA (l : List UInt8) : List UInt8 :=
  if ((l.take 2).map Lib.lowerB) = [97, 32] then l.drop 2 else if ((l.take 3).map Lib.lowerB) = [97, 110, 32] then l.drop 3 else if ((l.take 4).map Lib.lowerB) = [116, 104, 101, 32] then l.drop 4 else l
theorem drA_len (l : List UInt8) : (drA l).length ≤ l.length := by
  unfold drA; (repeat' split) <;> simp
theorem low32 {c : UInt8} (h : Lib.lowerB c = 32) : c = 32 := by
  have h1 : (Lib.lowerB c).toNat = 32 := by rw [h]; rfl
  rw [sp_low] at h1
  exact UInt8.toNat_inj.1 (by rw [h1]; rfl)
/-- by the word ahead of the first space -/
theorem drA_cut {p q : List UInt8} (hp : ∀ c ∈ p, c ≠ 32) : drA (p ++ 32 :: q) = if artW (p.map Lib.lowerB) = true then q else p ++ 32 :: q := by
  have key : ∀ (w : List UInt8), (∀ c ∈ w, c ≠ 32) → (((p ++ 32 :: q).take (w.length + 1)).map Lib.lowerB = w ++ [32] ↔ p.map Lib.lowerB = w) := by
    intro w hw
    constructor
    · intro h
      have hlen : w.length + 1 ≤ (p ++ 32 :: q).length := by
        have := congrArg List.length h
        simp at this
        simp
        omega
      rcases Nat.lt_trichotomy p.length w.length with hl | hl | hl
      · exfalso
        have e : (((p ++ 32 :: q).take (w.length + 1)).map Lib.lowerB)[p.length]? = some 32 := by
          rw [List.getElem?_map, List.getElem?_take, if_pos (by omega), List.getElem?_append_right (Nat.le_refl _), Nat.sub_self]
          rfl
        rw [h, List.getElem?_append_left hl] at e
        exact hw _ (List.mem_of_getElem? e) rfl
      · have e : (p ++ 32 :: q).take (w.length + 1) = p ++ [32] := by
          rw [List.take_append, ← hl, List.take_of_length_le (Nat.le_succ _), Nat.add_sub_cancel_left]; rfl
        rw [e, List.map_append] at h
        exact (List.append_inj h (by rw [List.length_map]; exact hl)).1
      · exfalso
        have e : (((p ++ 32 :: q).take (w.length + 1)).map Lib.lowerB)[w.length]? = some (Lib.lowerB p[w.length]) := by
          rw [List.getElem?_map, List.getElem?_take, if_pos (by omega), List.getElem?_append_left hl, List.getElem?_eq_getElem hl]
          rfl
        rw [h, List.getElem?_append_right (Nat.le_refl _), Nat.sub_self] at e
        have e2 : (32 : UInt8) = Lib.lowerB p[w.length] := by simpa using e
        exact hp _ (List.getElem_mem hl) (low32 e2.symm)
    · intro h
      have hl : p.length = w.length := by rw [← h, List.length_map]
      have e : (p ++ 32 :: q).take (w.length + 1) = p ++ [32] := by
        rw [List.take_append, ← hl, List.take_of_length_le (Nat.le_succ _), Nat.add_sub_cancel_left]; rfl
      rw [e, List.map_append, h]
      rfl
  have hdr : ∀ (w : List UInt8), p.map Lib.lowerB = w → (p ++ 32 :: q).drop (w.length + 1) = q := by
    intro w h
    have hl : p.length = w.length := by rw [← h, List.length_map]
    rw [← hl, List.drop_append, List.drop_of_length_le (Nat.le_succ _), Nat.add_sub_cancel_left]; rfl
  have k1 := key [97] (by decide)
  have k2 := key [97, 110] (by decide)
  have k3 := key [116, 104, 101] (by decide)
  simp only [List.length_cons, List.length_nil, Nat.reduceAdd, List.cons_append, List.nil_append] at k1 k2 k3
  unfold drA artW
  by_cases h1 : p.map Lib.lowerB = [97]
  · rw [if_pos (k1.2 h1), if_pos (by rw [h1]; rfl)]; exact hdr [97] h1
  · rw [if_neg (fun h => h1 (k1.1 h))]
    by_cases h2 : p.map Lib.lowerB = [97, 110]
    · rw [if_pos (k2.2 h2), if_pos (by rw [h2]; rfl)]; exact hdr [97, 110] h2
    · rw [if_neg (fun h => h2 (k2.1 h))]
      by_cases h3 : p.map Lib.lowerB = [116, 104, 101]
      · rw [if_pos (k3.2 h3), if_pos (by rw [h3]; rfl)]; exact hdr [116, 104, 101] h3
      · rw [if_neg (fun h => h3 (k3.1 h)), if_neg (by simp [h1, h2, h3])]
/-- a text without a space has no article -/
theorem drA_none {l : List UInt8} (h : ∀ c ∈ l, c ≠ 32) : drA l = l := by
  have key : ∀ (w : List UInt8) (n : Nat), (l.take n).map Lib.lowerB ≠ w ++ [32] := by
    intro w n e
    have hm : (32 : UInt8) ∈ (l.take n).map Lib.lowerB := by rw [e]; simp
    obtain ⟨c, hc, e2⟩ := List.mem_map.1 hm
    exact h c (List.mem_of_mem_take hc) (low32 e2)
  unfold drA
  rw [if_neg (show ¬ (l.take 2).map Lib.lowerB = [97, 32] from key [97] 2), if_neg (show ¬ (l.take 3).map Lib.lowerB = [97, 110, 32] from key [97, 110] 3), if_neg (show ¬ (l.take 4).map Lib.lowerB = [116, 104, 101, 32] from key [116, 104, 101] 4)]

def artWs : List (List UInt8) := [[97, 32], [97, 110, 32], [116, 104, 101, 32]]
def begins (l x : List UInt8) : Bool := decide ((l.take x.length).map Lib.lowerB = x)
theorem drA_hit {l : List UInt8} {k : Nat} {x : List UInt8} (hx : artWs[k]? = some x) (hno : ∀ (j : Nat) (y : List UInt8), j < k → artWs[j]? = some y → begins l y = false) (hm : begins l x = true) : drA l = l.drop x.length := by
  unfold begins at *
  rw [decide_eq_true_eq] at hm
  have h0 := fun (h : 0 < k) => of_decide_eq_false (hno 0 [97, 32] h rfl)
  have h1 := fun (h : 1 < k) => of_decide_eq_false (hno 1 [97, 110, 32] h rfl)
  unfold drA
  match k, hx with
  | 0, hx => cases hx; rw [if_pos (show (l.take 2).map Lib.lowerB = [97, 32] from hm)]; rfl
  | 1, hx => cases hx; rw [if_neg (show ¬ (l.take 2).map Lib.lowerB = [97, 32] from h0 (by omega)), if_pos (show (l.take 3).map Lib.lowerB = [97, 110, 32] from hm)]; rfl
  | 2, hx => cases hx; rw [if_neg (show ¬ (l.take 2).map Lib.lowerB = [97, 32] from h0 (by omega)), if_neg (show ¬ (l.take 3).map Lib.lowerB = [97, 110, 32] from h1 (by omega)), if_pos (show (l.take 4).map Lib.lowerB = [116, 104, 101, 32] from hm)]; rfl
  | k + 3, hx => cases hx
theorem drA_miss {l : List UInt8} (hno : ∀ (j : Nat) (y : List UInt8), j < 3 → artWs[j]? = some y → begins l y = false) : drA l = l := by
  unfold begins at hno
  unfold drA
  rw [if_neg (show ¬ (l.take 2).map Lib.lowerB = [97, 32] from of_decide_eq_false (hno 0 [97, 32] (by omega) rfl)), if_neg (show ¬ (l.take 3).map Lib.lowerB = [97, 110, 32] from of_decide_eq_false (hno 1 [97, 110, 32] (by omega) rfl)), if_neg (show ¬ (l.take 4).map Lib.lowerB = [116, 104, 101, 32] from of_decide_eq_false (hno 2 [116, 104, 101, 32] (by omega) rfl))]
theorem begins_short {l x : List UInt8} (h : l.length < x.length) : begins l x = false := by
  unfold begins
  rw [decide_eq_false]
  intro e
  have := congrArg List.length e
  rw [List.length_map, List.length_take] at this
  omega
end Go.Proofs.YtmopncojgkmkpaaGreatDoor.FoPl
