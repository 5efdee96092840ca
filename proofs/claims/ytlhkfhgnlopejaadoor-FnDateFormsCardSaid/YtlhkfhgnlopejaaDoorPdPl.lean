/-
  Plain mathematics of reading a date's text: the parts, the numbers, that a text is that of one date at most. Nothing of the program is named here.
-/
import Derived.Test.YtlhkfhgnlopejaaDoorDtTx
namespace Go.Proofs.YtlhkfhgnlopejaaDoor.PdPl
open Pl Stands SplitPl NmPl ReadPl DtPl DtTx

theorem parse_zeros (k : Nat) : Lib.parseUint10 0 (List.replicate k 48) = .ok 0 := by
  induction k with
  | zero => rfl
  | succ k ih => rw [List.replicate_succ]; simp only [Lib.parseUint10]; rw [if_pos (by decide), if_neg (by decide), if_neg (by decide)]; exact ih
/-- the number that a text denotes, or 0 -/
def dp (l : List UInt8) : Int := match Lib.atoiAll l with | .ok v => v | _ => 0
theorem dp_ok {l : List UInt8} {v : Int} (h : Lib.atoiAll l = .ok v) : dp l = v := by unfold dp; rw [h]
theorem dp_no {l : List UInt8} (h : ∀ v, Lib.atoiAll l ≠ .ok v) : dp l = 0 := by
  unfold dp
  split
  · rename_i v h'
    exact absurd h' (h v)
  · rfl
theorem dp_nil : dp [] = 0 := rfl
theorem dp_pad (u k : Nat) (hu : u ≤ 999999) : dp (pad u k) = u := by
  refine dp_ok ?_
  have hp : Lib.parseUint10 0 (pad u k) = .ok u := by
    unfold pad
    rw [parse_app 0 _ _ _ (parse_zeros _)]
    exact parse_dec u hu
  have hne := pad_pos u k
  have hdg := pad_digs u k
  generalize pad u k = l at *
  cases l with
  | nil => simp at hne
  | cons c r =>
    have hc := hdg c (List.mem_cons_self ..)
    unfold isD at hc
    have h1 : ¬ (c.toNat = 43 ∨ c.toNat = 45) := by omega
    have h2 : ¬ c.toNat = 45 := by omega
    have hmag : Lib.parseMag (c :: r) = .ok u := by rw [Lib.parseMag, if_neg (by simp)]; exact hp
    unfold Lib.atoiAll
    simp only []
    rw [if_neg h1, hmag]
    simp only []
    rw [if_neg (by omega), if_neg (by omega), if_neg h2]

/-- what stands behind the first such byte, nothing if there is none -/
def aft (b : UInt8) (l : List UInt8) : List UInt8 := if stB b l = true then l.drop ((hd b l).length + 1) else []
theorem aft_free {b : UInt8} {x : List UInt8} (h : stB b x = false) : aft b x = [] := by unfold aft; rw [h]; rfl
theorem aft_app {b : UInt8} {x y : List UInt8} (h : stB b x = false) : aft b (x ++ b :: y) = y := by
  have : stB b (x ++ b :: y) = true := by unfold stB; rw [List.contains_iff_mem]; simp
  unfold aft
  rw [if_pos this, hd_app h, List.drop_append]
  simp

/-- the mark of an approximate year, and what stands behind it -/
def cc (l : List UInt8) : Bool := l.head? == some 99
def tl (l : List UInt8) : List UInt8 := if cc l = true then l.tail else l
theorem digit_cc {l : List UInt8} {x : UInt8} {r : List UInt8} (h : l = x :: r) (hx : isD x) : cc l = false := by
  subst h
  unfold cc
  simp
  intro e
  subst e
  revert hx
  unfold isD
  decide
theorem text_cc (y m d : Int) (c : Bool) (hy : y ≠ 0) : cc (text y m d c) = c ∧ tl (text y m d c) = body y m d := by
  obtain ⟨x, r, e, hx⟩ := body_digit y m d
  have hb := digit_cc e hx
  unfold text
  rw [if_neg hy]
  cases c with
  | true => exact ⟨rfl, rfl⟩
  | false => exact ⟨hb, by unfold tl; rw [if_neg (by rw [if_neg (by decide), List.nil_append, hb]; decide)]; rfl⟩
theorem text_unk (y m d : Int) (c : Bool) (hy : y ≠ 0) : text y m d c ≠ unk := by
  obtain ⟨x, r, e, hx⟩ := body_digit y m d
  unfold text
  rw [if_neg hy]
  intro h
  cases c with
  | true => cases h
  | false =>
    rw [if_neg (by decide), List.nil_append, e] at h
    injection h with h1 h2
    subst h1
    revert hx
    unfold isD
    decide
/-- the model's reading -/
def rdY (i : Nat) (l : List UInt8) : Int := nth (split 45 (tl l)) i
theorem read_text {y m d : Int} {c : Bool} (hv : okB y m d c = true) (hy : y ≠ 0) :
    rdY 0 (text y m d c) = y ∧ rdY 1 (text y m d c) = m ∧ rdY 2 (text y m d c) = d ∧ (split 45 (tl (text y m d c))).length ≤ 3 := by
  have hb := ok_bd hv
  unfold rdY
  rw [(text_cc y m d c hy).2]
  refine nth_body y m d ⟨hb.1, hb.2.1⟩ ⟨hb.2.2.1, hb.2.2.2.1⟩ ⟨hb.2.2.2.2.1, hb.2.2.2.2.2⟩ ?_
  rcases okB_iff.1 hv with h | h | h <;> omega
theorem zero_all {y m d : Int} {c : Bool} (hv : okB y m d c = true) (hy : y = 0) : m = 0 ∧ d = 0 ∧ c = false := by
  rcases okB_iff.1 hv with h | h | h
  · exact h.2
  · omega
  · omega
theorem text_inj {y m d y' m' d' : Int} {c c' : Bool} (hv : okB y m d c = true) (hv' : okB y' m' d' c' = true) (h : text y m d c = text y' m' d' c') : y = y' ∧ m = m' ∧ d = d' ∧ c = c' := by
  by_cases hy : y = 0 <;> by_cases hy' : y' = 0
  · obtain ⟨h1, h2, h3⟩ := zero_all hv hy
    obtain ⟨h1', h2', h3'⟩ := zero_all hv' hy'
    exact ⟨by rw [hy, hy'], by rw [h1, h1'], by rw [h2, h2'], by rw [h3, h3']⟩
  · exact absurd (by rw [← h]; unfold text; rw [if_pos hy]) (text_unk y' m' d' c' hy')
  · exact absurd (by rw [h]; unfold text; rw [if_pos hy']) (text_unk y m d c hy)
  · have h1 := read_text hv hy
    have h2 := read_text hv' hy'
    have h3 := (text_cc y m d c hy).1
    have h4 := (text_cc y' m' d' c' hy').1
    rw [h] at h1 h3
    exact ⟨h1.1.symm.trans h2.1, h1.2.1.symm.trans h2.2.1, h1.2.2.1.symm.trans h2.2.2.1, h3.symm.trans h4⟩
/-- the program's reading: cut twice -/
def ptY (l : List UInt8) : Int := dp (hd 45 (tl l))
def ptM (l : List UInt8) : Int := dp (hd 45 (aft 45 (tl l)))
def ptD (l : List UInt8) : Int := dp (hd 45 (aft 45 (aft 45 (tl l))))
def ptD' (l : List UInt8) : Int := dp (aft 45 (aft 45 (tl l)))
theorem cut_text {y m d : Int} {c : Bool} (hv : okB y m d c = true) (hy : y ≠ 0) :
    ptY (text y m d c) = y ∧ ptM (text y m d c) = m ∧ ptD' (text y m d c) = d := by
  have hb := ok_bd hv
  have hmd : m = 0 → d = 0 := by rcases okB_iff.1 hv with h | h | h <;> omega
  have e1 := dp_pad y.toNat 4 (by omega)
  have e2 := dp_pad m.toNat 2 (by omega)
  have e3 := dp_pad d.toNat 2 (by omega)
  unfold ptY ptM ptD'
  rw [(text_cc y m d c hy).2]
  unfold body
  by_cases hm0 : m = 0
  · have hd0 := hmd hm0
    rw [if_pos hm0, if_pos hd0, List.nil_append, List.append_nil, hd_free (pad_free _ _), aft_free (pad_free _ _)]
    exact ⟨by rw [e1]; omega, by rw [hm0]; rfl, by rw [hd0]; rfl⟩
  · by_cases hd0 : d = 0
    · rw [if_neg hm0, if_pos hd0, List.append_nil, hd_app (pad_free _ _), aft_app (pad_free _ _), hd_free (pad_free _ _), aft_free (pad_free _ _)]
      exact ⟨by rw [e1]; omega, by rw [e2]; omega, by rw [hd0]; rfl⟩
    · rw [if_neg hm0, if_neg hd0, List.cons_append, hd_app (pad_free _ _), aft_app (pad_free _ _), hd_app (pad_free _ _), aft_app (pad_free _ _)]
      exact ⟨by rw [e1]; omega, by rw [e2]; omega, by rw [e3]; omega⟩
end Go.Proofs.YtlhkfhgnlopejaaDoor.PdPl
