/-
  Several texts of one claim in one file: DtPl, DtTx, LdPl.
-/
import Derived.WalkKit
import Derived.Test.YteccmlpibbchbaaGreatDoorPlain
import Derived.Test.YteccmlpibbchbaaGreatDoorGSp
import Derived.Test.YteccmlpibbchbaaGreatDoorReadPl
/-
  Plain mathematics of dates that may lack parts: days of a month, validity, order, refinement, bounds. Nothing of the program is named here.
-/
namespace Go.Proofs.YteccmlpibbchbaaGreatDoor.DtPl

/-- is the year a leap year -/
def lpB (y : Int) : Bool := decide (y % 4 = 0 ∧ (y % 100 ≠ 0 ∨ y % 400 = 0))
/-- the days of a month -/
def dim (y m : Int) : Int := if m = 2 then (if lpB y then 29 else 28) else if m = 4 ∨ m = 6 ∨ m = 9 ∨ m = 11 then 30 else 31
theorem dim_bd (y m : Int) : 28 ≤ dim y m ∧ dim y m ≤ 31 := by
  unfold dim; split
  · split <;> omega
  · split <;> omega
/-- is the date unknown -/
def zB (y m d : Int) (c : Bool) : Bool := decide (y = 0 ∧ m = 0 ∧ d = 0 ∧ c = false)
/-- is there such a month -/
def ymB (y m : Int) : Bool := decide (1 ≤ y ∧ y ≤ 2999 ∧ 1 ≤ m ∧ m ≤ 12)
def okP (y m d : Int) (c : Bool) : Prop :=
  (y = 0 ∧ m = 0 ∧ d = 0 ∧ c = false) ∨ (1 ≤ y ∧ y ≤ 2999 ∧ m = 0 ∧ d = 0) ∨ (1 ≤ y ∧ y ≤ 2999 ∧ 1 ≤ m ∧ m ≤ 12 ∧ 0 ≤ d ∧ d ≤ dim y m ∧ c = false)
instance (y m d : Int) (c : Bool) : Decidable (okP y m d c) := by unfold okP; infer_instance
/-- is the date valid -/
def okB (y m d : Int) (c : Bool) : Bool := decide (okP y m d c)
theorem okB_iff {y m d : Int} {c : Bool} : okB y m d c = true ↔ okP y m d c := by unfold okB; exact decide_eq_true_iff
theorem okB_no {y m d : Int} {c : Bool} : okB y m d c = false ↔ ¬ okP y m d c := by unfold okB; exact decide_eq_false_iff_not
theorem okB_eq {y m d : Int} {c b : Bool} (h : b = true ↔ okP y m d c) : b = okB y m d c := by rw [Bool.eq_iff_iff, okB_iff]; exact h
theorem okT (y m d : Int) : okP y m d true ↔ (1 ≤ y ∧ y ≤ 2999 ∧ m = 0 ∧ d = 0) := by unfold okP; simp
theorem okF (y m d : Int) : okP y m d false ↔ ((y = 0 ∧ m = 0 ∧ d = 0) ∨ (1 ≤ y ∧ y ≤ 2999 ∧ m = 0 ∧ d = 0) ∨ (1 ≤ y ∧ y ≤ 2999 ∧ 1 ≤ m ∧ m ≤ 12 ∧ 0 ≤ d ∧ d ≤ dim y m)) := by unfold okP; simp
/-- the bounds of a valid date -/
theorem ok_bd {y m d : Int} {c : Bool} (h : okB y m d c = true) : 0 ≤ y ∧ y ≤ 2999 ∧ 0 ≤ m ∧ m ≤ 12 ∧ 0 ≤ d ∧ d ≤ 31 := by
  have hd := dim_bd y m
  rcases okB_iff.1 h with h | h | h <;> omega
/-- the year alone says whether a valid date is unknown -/
theorem ok_zero {y m d : Int} {c : Bool} (h : okB y m d c = true) : zB y m d c = decide (y = 0) := by
  unfold zB
  rw [Bool.eq_iff_iff, decide_eq_true_iff, decide_eq_true_iff]
  rcases okB_iff.1 h with h | h | h
  · exact ⟨fun _ => h.1, fun _ => h⟩
  · constructor <;> intro h' <;> omega
  · constructor <;> intro h' <;> omega

/-- the order of dates -/
def cmpB (b b' : Bool) : Int := if b = b' then 0 else if b' then -1 else 1
def cmpI (a b : Int) : Int := if a < b then -1 else if b < a then 1 else 0
def orI (a b : Int) : Int := if a = 0 then b else a
def cmpD (y m d : Int) (c : Bool) (y' m' d' : Int) (c' : Bool) : Int := orI (cmpI y y') (orI (cmpI m m') (orI (cmpI d d') (cmpB c c')))
/-- one date refines another -/
def rfB (y m d : Int) (c : Bool) (y' m' d' : Int) (c' : Bool) : Bool :=
  decide (y' = 0 ∨ (y = y' ∧ (m' = 0 ∨ m = m') ∧ (d' = 0 ∨ d = d') ∧ (c = true → c' = true)))
end Go.Proofs.YteccmlpibbchbaaGreatDoor.DtPl
/-
  Plain mathematics of the texts of dates: numbers with leading zeros, the text, and that it is read back. Nothing of the program is named here.
-/
namespace Go.Proofs.YteccmlpibbchbaaGreatDoor.DtTx
open Pl Stands SplitPl NmPl ReadPl DtPl

/-- a number with at least k digits -/
def pad (u k : Nat) : List UInt8 := List.replicate (k - (Lib.decDigits u).length) 48 ++ Lib.decDigits u
theorem pad_digs (u k : Nat) : ∀ c ∈ pad u k, isD c := by
  intro c hc
  rcases List.mem_append.1 hc with h | h
  · rw [List.eq_of_mem_replicate h]; exact ⟨by decide, by decide⟩
  · exact dec_digs u c h
theorem digs_free {l : List UInt8} (h : ∀ c ∈ l, isD c) {b : UInt8} (hb : ¬ isD b) : stB b l = false := by
  unfold stB
  rw [Bool.eq_false_iff]
  intro h'
  rw [List.contains_iff_mem] at h'
  exact hb (h b h')
theorem pad_free (u k : Nat) : stB 45 (pad u k) = false := digs_free (pad_digs u k) (by unfold isD; decide)
theorem pad_len (u k : Nat) : (pad u k).length = max k (Lib.decDigits u).length := by
  unfold pad
  rw [List.length_append, List.length_replicate]
  omega
theorem pad_len4 {u : Nat} (h : u < 10000) (k : Nat) (hk : k ≤ 4) : (pad u k).length ≤ 4 := by
  rw [pad_len]
  have := dec_le 3 u (by omega)
  omega
theorem pad_pos (u k : Nat) : 1 ≤ (pad u k).length := by
  rw [pad_len]; have := dec_pos u; omega
theorem dval_app (l m : List UInt8) : dval (l ++ m) = m.foldl (fun a c => 10 * a + (c.toNat - 48)) (dval l) := by simp [dval, List.foldl_append]
theorem dval_zeros (k : Nat) : dval (List.replicate k 48) = 0 := by
  induction k with
  | zero => rfl
  | succ k ih => rw [List.replicate_succ', dval_snoc, ih]; rfl
theorem dval_pad (u k : Nat) : dval (pad u k) = u := by
  unfold pad
  rw [dval_app, dval_zeros]
  exact dec_val u

/-- the value of a part, as the model reads it: any bytes, at most four -/
def iStep (n : Int) (c : UInt8) : Int := 10 * n + c.toNat - 48
def ival (l : List UInt8) : Int := l.foldl iStep 0
theorem ival_snoc (l : List UInt8) (c : UInt8) : ival (l ++ [c]) = 10 * ival l + c.toNat - 48 := by simp [ival, List.foldl_append, iStep]
theorem ival_digs (l : List UInt8) (h : ∀ c ∈ l, isD c) : ival l = dval l := by
  refine snocInd (P := fun l => (∀ c ∈ l, isD c) → ival l = dval l) (fun _ => rfl) ?_ l h
  intro l c ih hc
  have h1 := ih (fun x hx => hc x (List.mem_append_left _ hx))
  have h2 := hc c (by simp)
  unfold isD at h2
  rw [ival_snoc, dval_snoc, h1]
  omega
theorem ival_bd (l : List UInt8) (h : l.length ≤ 4) : -100000 ≤ ival l ∧ ival l ≤ 1000000 := by
  match l, h with
  | [], _ => simp [ival]
  | [a], _ => have ha := a.toNat_lt; simp [ival, iStep]; omega
  | [a, b], _ => have ha := a.toNat_lt; have hb := b.toNat_lt; simp [ival, iStep]; omega
  | [a, b, c], _ => have ha := a.toNat_lt; have hb := b.toNat_lt; have hc := c.toNat_lt; simp [ival, iStep]; omega
  | [a, b, c, d], _ => have ha := a.toNat_lt; have hb := b.toNat_lt; have hc := c.toNat_lt; have hd := d.toNat_lt; simp [ival, iStep]; omega
def pval (l : List UInt8) : Int := if l.length ≤ 4 then ival l else 0
theorem pval_pad {u : Nat} (h : u < 10000) (k : Nat) (hk : k ≤ 4) : pval (pad u k) = u := by
  unfold pval
  rw [if_pos (pad_len4 h k hk), ival_digs _ (pad_digs u k), dval_pad]

def unk : List UInt8 := [117, 110, 107, 110, 111, 119, 110]
/-- the text without the mark of an approximate year -/
def body (y m d : Int) : List UInt8 := pad y.toNat 4 ++ ((if m = 0 then [] else 45 :: pad m.toNat 2) ++ (if d = 0 then [] else 45 :: pad d.toNat 2))
/-- the text of a date -/
def text (y m d : Int) (c : Bool) : List UInt8 := if y = 0 then unk else (if c then [99] else []) ++ body y m d
theorem body_digit (y m d : Int) : ∃ x r, body y m d = x :: r ∧ isD x := by
  unfold body
  have h1 := pad_pos y.toNat 4
  have h2 := pad_digs y.toNat 4
  cases h : pad y.toNat 4 with
  | nil => rw [h] at h1; simp at h1
  | cons x r => rw [h] at h2; exact ⟨x, _, rfl, h2 x (List.mem_cons_self ..)⟩
theorem body_len (y m d : Int) (hy : 0 ≤ y ∧ y ≤ 2999) (hm : 0 ≤ m ∧ m ≤ 12) (hd : 0 ≤ d ∧ d ≤ 31) : (body y m d).length ≤ 14 := by
  have h1 := pad_len4 (u := y.toNat) (by omega) 4 (by omega)
  have h2 := pad_len4 (u := m.toNat) (by omega) 2 (by omega)
  have h3 := pad_len4 (u := d.toNat) (by omega) 2 (by omega)
  unfold body
  rw [List.length_append, List.length_append]
  split <;> split <;> simp <;> omega
/-- the parts of a text -/
theorem split_body (y m d : Int) : split 45 (body y m d) = pad y.toNat 4 :: ((if m = 0 then [] else [pad m.toNat 2]) ++ (if d = 0 then [] else [pad d.toNat 2])) := by
  unfold body
  by_cases hm : m = 0 <;> by_cases hd : d = 0
  · simp only [if_pos hm, if_pos hd, List.append_nil]
    exact split_one (pad_free _ _)
  · simp only [if_pos hm, if_neg hd, List.nil_append]
    rw [split_cons (pad_free _ _), split_one (pad_free _ _)]
  · simp only [if_neg hm, if_pos hd, List.append_nil]
    rw [split_cons (pad_free _ _), split_one (pad_free _ _)]
  · simp only [if_neg hm, if_neg hd]
    rw [List.cons_append, split_cons (pad_free _ _), split_cons (pad_free _ _), split_one (pad_free _ _)]
    rfl
/-- the model reads the parts -/
def nth (D : List (List UInt8)) (i : Nat) : Int := match D[i]? with | some l => pval l | none => 0
theorem nth_body (y m d : Int) (hy : 0 ≤ y ∧ y ≤ 2999) (hm : 0 ≤ m ∧ m ≤ 12) (hd : 0 ≤ d ∧ d ≤ 31) (hmd : m = 0 → d = 0) :
    nth (split 45 (body y m d)) 0 = y ∧ nth (split 45 (body y m d)) 1 = m ∧ nth (split 45 (body y m d)) 2 = d ∧ (split 45 (body y m d)).length ≤ 3 := by
  rw [split_body]
  have e1 := pval_pad (u := y.toNat) (by omega) 4 (by omega)
  have e2 := pval_pad (u := m.toNat) (by omega) 2 (by omega)
  have e3 := pval_pad (u := d.toNat) (by omega) 2 (by omega)
  by_cases hm0 : m = 0
  · have hd0 := hmd hm0
    simp [hm0, hd0, nth, e1]; omega
  · by_cases hd0 : d = 0
    · simp [hm0, hd0, nth, e1, e2]; omega
    · simp [hm0, hd0, nth, e1, e2, e3]; omega
end Go.Proofs.YteccmlpibbchbaaGreatDoor.DtTx
/-
  Plain mathematics of the long forms of dates. Nothing of the program is named here.
-/
namespace Go.Proofs.YteccmlpibbchbaaGreatDoor.LdPl
open Pl NmPl ReadPl DtPl DtTx

/-- the names of the months, behind an empty one -/
def mons : List (List UInt8) := [[],
  [74, 97, 110, 117, 97, 114, 121],
  [70, 101, 98, 114, 117, 97, 114, 121],
  [77, 97, 114, 99, 104],
  [65, 112, 114, 105, 108],
  [77, 97, 121],
  [74, 117, 110, 101],
  [74, 117, 108, 121],
  [65, 117, 103, 117, 115, 116],
  [83, 101, 112, 116, 101, 109, 98, 101, 114],
  [79, 99, 116, 111, 98, 101, 114],
  [78, 111, 118, 101, 109, 98, 101, 114],
  [68, 101, 99, 101, 109, 98, 101, 114]]
def mon (m : Nat) : List UInt8 := mons.getD m []
/-- the months' names as strings -/
def monB (m : Nat) : ByteArray := ba (mon m)
theorem mon_ne {m : Nat} (h : 1 ≤ m ∧ m ≤ 12) : mon m ≠ [] ∧ (mon m).length ≤ 9 := by
  obtain ⟨h1, h2⟩ := h
  rcases m with _ | _ | _ | _ | _ | _ | _ | _ | _ | _ | _ | _ | _ | m
  all_goals first | omega | exact ⟨by decide, by decide⟩
def nd : List UInt8 := [110, 46, 100, 46]
def ca : List UInt8 := [99, 97, 46, 32]
/-- the long form -/
def lbody (y m d : Nat) : List UInt8 := (if d = 0 then [] else Lib.decDigits d ++ [32]) ++ ((if m = 0 then [] else mon m ++ [32]) ++ Lib.decDigits y)
def ltext (y m d : Nat) (c : Bool) : List UInt8 := if y = 0 then nd else (if c then ca else []) ++ lbody y m d
theorem jn3 (a b z : List UInt8) (hz : z ≠ []) : jn [a, b, z] = (if a = [] then [] else a ++ [32]) ++ ((if b = [] then [] else b ++ [32]) ++ z) := by
  simp only [jn, List.foldl_cons, List.foldl_nil]
  unfold jstep
  by_cases ha : a = [] <;> by_cases hb : b = []
  all_goals simp [ha, hb, hz]
end Go.Proofs.YteccmlpibbchbaaGreatDoor.LdPl
