/-
  Plain mathematics of the texts of dates: numbers with leading zeros, the text, and that it is read back. Nothing of the program is named here.
-/
import Derived.Test.YtbicfmoemgaapaaGreatDoorPlain
import Derived.Test.YtbicfmoemgaapaaGreatDoorStPl
import Derived.Test.YtbicfmoemgaapaaGreatDoorSplitPl
import Derived.Test.YtbicfmoemgaapaaGreatDoorNmPl
import Derived.Test.YtbicfmoemgaapaaGreatDoorReadPl
import Derived.Test.YtbicfmoemgaapaaGreatDoorDtPl
namespace Go.Proofs.YtbicfmoemgaapaaGreatDoor.DtTx
open Pl Stands SplitPl NmPl ReadPl DtPl

/-- a number with at least k digits -/
def pad (u k : Nat) : List UInt8 := List.replicate (k - (Lib.decDigits u).length) 48 ++ Lib.decDigits u
theorem pad_digs (u k : Nat) : ∀ c ∈ pad u k, isD c := by
  intro c hc
  rcases List.mem_append.1 hc with h | h
  · rw [List.eq_of_mem_replicate h]; exact ⟨by decide, by decide⟩
  · exact dec_digs u c h
theorem digs_free {l : List UInt8} (h : ∀ c ∈ l, isD c) {b : UInt8} (hb : ¬ isD b) : stB b l = false := by
  unfold stB
  rw [Bool.eq_false_iff]
  intro h'
  rw [List.contains_iff_mem] at h'
  exact hb (h b h')
theorem pad_free (u k : Nat) : stB 45 (pad u k) = false := digs_free (pad_digs u k) (by unfold isD; decide)
theorem pad_len (u k : Nat) : (pad u k).length = max k (Lib.decDigits u).length := by
  unfold pad
  rw [List.length_append, List.length_replicate]
  omega
theorem pad_len4 {u : Nat} (h : u < 10000) (k : Nat) (hk : k ≤ 4) : (pad u k).length ≤ 4 := by
  rw [pad_len]
  have := dec_le 3 u (by omega)
  omega
theorem pad_pos (u k : Nat) : 1 ≤ (pad u k).length := by
  rw [pad_len]; have := dec_pos u; omega
theorem dval_app (l m : List UInt8) : dval (l ++ m) = m.foldl (fun a c => 10 * a + (c.toNat - 48)) (dval l) := by simp [dval, List.foldl_append]
theorem dval_zeros (k : Nat) : dval (List.replicate k 48) = 0 := by
  induction k with
  | zero => rfl
  | succ k ih => rw [List.replicate_succ', dval_snoc, ih]; rfl
theorem dval_pad (u k : Nat) : dval (pad u k) = u := by
  unfold pad
  rw [dval_app, dval_zeros]
  exact dec_val u

/-- the value of a part, as the model reads it: any bytes, at most four -/
def iStep (n : Int) (c : UInt8) : Int := 10 * n + c.toNat - 48
def ival (l : List UInt8) : Int := l.foldl iStep 0
theorem ival_snoc (l : List UInt8) (c : UInt8) : ival (l ++ [c]) = 10 * ival l + c.toNat - 48 := by simp [ival, List.foldl_append, iStep]
theorem ival_digs (l : List UInt8) (h : ∀ c ∈ l, isD c) : ival l = dval l := by
  refine snocInd (P := fun l => (∀ c ∈ l, isD c) → ival l = dval l) (fun _ => rfl) ?_ l h
  intro l c ih hc
  have h1 := ih (fun x hx => hc x (List.mem_append_left _ hx))
  have h2 := hc c (by simp)
  unfold isD at h2
  rw [ival_snoc, dval_snoc, h1]
  omega
theorem ival_bd (l : List UInt8) (h : l.length ≤ 4) : -100000 ≤ ival l ∧ ival l ≤ 1000000 := by
  match l, h with
  | [], _ => simp [ival]
  | [a], _ => have ha := a.toNat_lt; simp [ival, iStep]; omega
  | [a, b], _ => have ha := a.toNat_lt; have hb := b.toNat_lt; simp [ival, iStep]; omega
  | [a, b, c], _ => have ha := a.toNat_lt; have hb := b.toNat_lt; have hc := c.toNat_lt; simp [ival, iStep]; omega
  | [a, b, c, d], _ => have ha := a.toNat_lt; have hb := b.toNat_lt; have hc := c.toNat_lt; have hd := d.toNat_lt; simp [ival, iStep]; omega
def pval (l : List UInt8) : Int := if l.length ≤ 4 then ival l else 0
theorem pval_pad {u : Nat} (h : u < 10000) (k : Nat) (hk : k ≤ 4) : pval (pad u k) = u := by
  unfold pval
  rw [if_pos (pad_len4 h k hk), ival_digs _ (pad_digs u k), dval_pad]

def unk : List UInt8 := [117, 110, 107, 110, 111, 119, 110]
/-- the text without the mark of an approximate year -/
def body (y m d : Int) : List UInt8 := pad y.toNat 4 ++ ((if m = 0 then [] else 45 :: pad m.toNat 2) ++ (if d = 0 then [] else 45 :: pad d.toNat 2))
/-- the text of a date -/
def text (y m d : Int) (c : Bool) : List UInt8 := if y = 0 then unk else (if c then [99] else []) ++ body y m d
theorem body_digit (y m d : Int) : ∃ x r, body y m d = x :: r ∧ isD x := by
  unfold body
  have h1 := pad_pos y.toNat 4
  have h2 := pad_digs y.toNat 4
  cases h : pad y.toNat 4 with
  | nil => rw [h] at h1; simp at h1
  | cons x r => rw [h] at h2; exact ⟨x, _, rfl, h2 x (List.mem_cons_self ..)⟩
theorem body_len (y m d : Int) (hy : 0 ≤ y ∧ y ≤ 2999) (hm : 0 ≤ m ∧ m ≤ 12) (hd : 0 ≤ d ∧ d ≤ 31) : (body y m d).length ≤ 14 := by
  have h1 := pad_len4 (u := y.toNat) (by omega) 4 (by omega)
  have h2 := pad_len4 (u := m.toNat) (by omega) 2 (by omega)
  have h3 := pad_len4 (u := d.toNat) (by omega) 2 (by omega)
  unfold body
  rw [List.length_append, List.length_append]
  split <;> split <;> simp <;> omega
/-- the parts of a text -/
theorem split_body (y m d : Int) : split 45 (body y m d) = pad y.toNat 4 :: ((if m = 0 then [] else [pad m.toNat 2]) ++ (if d = 0 then [] else [pad d.toNat 2])) := by
  unfold body
  by_cases hm : m = 0 <;> by_cases hd : d = 0
  · simp only [if_pos hm, if_pos hd, List.append_nil]
    exact split_one (pad_free _ _)
  · simp only [if_pos hm, if_neg hd, List.nil_append]
    rw [split_cons (pad_free _ _), split_one (pad_free _ _)]
  · simp only [if_neg hm, if_pos hd, List.append_nil]
    rw [split_cons (pad_free _ _), split_one (pad_free _ _)]
  · simp only [if_neg hm, if_neg hd]
    rw [List.cons_append, split_cons (pad_free _ _), split_cons (pad_free _ _), split_one (pad_free _ _)]
    rfl
/-- the model reads the parts -/
def nth (D : List (List UInt8)) (i : Nat) : Int := match D[i]? with | some l => pval l | none => 0
theorem nth_body (y m d : Int) (hy : 0 ≤ y ∧ y ≤ 2999) (hm : 0 ≤ m ∧ m ≤ 12) (hd : 0 ≤ d ∧ d ≤ 31) (hmd : m = 0 → d = 0) :
    nth (split 45 (body y m d)) 0 = y ∧ nth (split 45 (body y m d)) 1 = m ∧ nth (split 45 (body y m d)) 2 = d ∧ (split 45 (body y m d)).length ≤ 3 := by
  rw [split_body]
  have e1 := pval_pad (u := y.toNat) (by omega) 4 (by omega)
  have e2 := pval_pad (u := m.toNat) (by omega) 2 (by omega)
  have e3 := pval_pad (u := d.toNat) (by omega) 2 (by omega)
  by_cases hm0 : m = 0
  · have hd0 := hmd hm0
    simp [hm0, hd0, nth, e1]; omega
  · by_cases hd0 : d = 0
    · simp [hm0, hd0, nth, e1, e2]; omega
    · simp [hm0, hd0, nth, e1, e2, e3]; omega
end Go.Proofs.YtbicfmoemgaapaaGreatDoor.DtTx
