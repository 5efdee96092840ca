/-
  Plain mathematics of chapter 6: the words of a title, in one pass and cut out at the places that its mask gives. Nothing of the program is named here.
-/
import Derived.Test.YtobjfmchnlnohaaGreatDoorMkPl
import Derived.Test.YtobjfmchnlnohaaGreatDoorStPl
namespace Go.Proofs.YtobjfmchnlnohaaGreatDoor.TiPl
open Pl NmPl
set_option linter.unusedSimpArgs false

def wdStep (q : (List (List UInt8) × List UInt8) × Bool) (c : UInt8) : (List (List UInt8) × List UInt8) × Bool :=
  if q.2 = false ∧ c.toNat = 32 then ((q.1.1 ++ [q.1.2], []), false) else ((q.1.1, q.1.2 ++ [c]), stp q.2 c)
def wd (l : List UInt8) : (List (List UInt8) × List UInt8) × Bool := l.foldl wdStep (([], []), false)
/-- the words behind which a space stands; the one under way -/
def wdD (l : List UInt8) : List (List UInt8) := (wd l).1.1
def wdC (l : List UInt8) : List UInt8 := (wd l).1.2
def words (l : List UInt8) : List (List UInt8) := wdD l ++ [wdC l]
theorem wd_snoc (l : List UInt8) (c : UInt8) : wd (l ++ [c]) = wdStep (wd l) c := by simp [wd, List.foldl_append]
theorem wd_st (l : List UInt8) : (wd l).2 = st false l := by
  refine snocInd (P := fun l => (wd l).2 = st false l) rfl ?_ l
  intro l c ih
  rw [wd_snoc, st_snoc, ← ih]
  unfold wdStep
  by_cases h : (wd l).2 = false ∧ c.toNat = 32
  · rw [if_pos h, h.1, stp_else (by omega) (by omega)]
  · rw [if_neg h]
theorem wd_hit {l : List UInt8} {c : UInt8} (h1 : st false l = false) (h2 : c.toNat = 32) : wdD (l ++ [c]) = wdD l ++ [wdC l] ∧ wdC (l ++ [c]) = [] := by
  unfold wdD wdC
  rw [wd_snoc, wdStep, if_pos ⟨by rw [wd_st]; exact h1, h2⟩]
  exact ⟨rfl, rfl⟩
theorem wd_miss {l : List UInt8} {c : UInt8} (h : ¬ (st false l = false ∧ c.toNat = 32)) : wdD (l ++ [c]) = wdD l ∧ wdC (l ++ [c]) = wdC l ++ [c] := by
  unfold wdD wdC
  rw [wd_snoc, wdStep, if_neg (by rw [wd_st]; exact h)]
  exact ⟨rfl, rfl⟩
theorem wdC_suffix (l : List UInt8) : ∃ d, l = d ++ wdC l ∧ (wdD l).length ≤ d.length := by
  refine snocInd (P := fun l => ∃ d, l = d ++ wdC l ∧ (wdD l).length ≤ d.length) ⟨[], rfl, Nat.zero_le _⟩ ?_ l
  rintro l x ⟨d, hd, hl⟩
  by_cases h : st false l = false ∧ x.toNat = 32
  · obtain ⟨e1, e2⟩ := wd_hit h.1 h.2
    refine ⟨l ++ [x], by rw [e2]; simp, ?_⟩
    have := congrArg List.length hd
    rw [e1]
    simp at this ⊢
    omega
  · obtain ⟨e1, e2⟩ := wd_miss h
    refine ⟨d, by rw [e2, ← List.append_assoc, ← hd], by rw [e1]; exact hl⟩
theorem wdC_le (l : List UInt8) : (wdC l).length + (wdD l).length ≤ l.length := by
  obtain ⟨d, hd, hl⟩ := wdC_suffix l
  have := congrArg List.length hd
  simp at this
  omega
theorem wdC_drop (l : List UInt8) : l.drop (l.length - (wdC l).length) = wdC l := by
  obtain ⟨d, hd, _⟩ := wdC_suffix l
  have h := congrArg List.length hd
  simp at h
  have e : l.length - (wdC l).length = d.length := by omega
  rw [e]
  conv => lhs; rw [hd]
  simp
/-- the word under way, cut out of the text -/
theorem wdC_extract (s : ByteArray) (k f : Nat) (h : k ≤ s.size) (hf : f + (wdC (s.data.toList.take k)).length = k) : s.extract f k = ba (wdC (s.data.toList.take k)) := by
  rw [extract_list]
  have e := wdC_drop (s.data.toList.take k)
  have hl : (s.data.toList.take k).length = k := take_len s k h
  rw [hl, show k - (wdC (s.data.toList.take k)).length = f from by omega] at e
  rw [e]
theorem words_len (l : List UInt8) : (words l).length ≤ l.length + 1 := by
  have := wdC_le l
  simp [words]; omega

/-- cut at the lengths of other parts -/
def cutBy : List (List UInt8) → List UInt8 → List (List UInt8)
  | [], _ => []
  | y :: ys, l => l.take y.length :: cutBy ys (l.drop (y.length + 1))
/-- where the next part begins -/
def off (ys : List (List UInt8)) : Nat := (ys.map fun y => y.length + 1).sum
theorem off_snoc (ys : List (List UInt8)) (y : List UInt8) : off (ys ++ [y]) = off ys + y.length + 1 := by simp [off]; omega
theorem off_ge (ys : List (List UInt8)) : ys.length ≤ off ys := by
  induction ys with
  | nil => simp
  | cons y ys ih => simp [off] at ih ⊢; omega
theorem off_cons (ys : List (List UInt8)) (y : List UInt8) : off (y :: ys) = y.length + 1 + off ys := by simp [off]
theorem off_app (xs ys : List (List UInt8)) : off (xs ++ ys) = off xs + off ys := by simp [off]
theorem cutBy_snoc : ∀ (ys : List (List UInt8)) (y l : List UInt8), cutBy (ys ++ [y]) l = cutBy ys l ++ [(l.drop (off ys)).take y.length]
  | [], y, l => by simp [cutBy, off]
  | x :: ys, y, l => by
    show _ :: cutBy (ys ++ [y]) _ = _
    rw [cutBy_snoc ys y]
    simp [cutBy, off_cons, List.drop_drop]
theorem cutBy_len : ∀ (ys : List (List UInt8)) (l : List UInt8), (cutBy ys l).length = ys.length
  | [], _ => rfl
  | _ :: ys, l => by simp [cutBy, cutBy_len ys]
/-- the mask's byte is a space just where an open space stands -/
theorem mask32 (p : Bool) (c : UInt8) : (if stp p c = true then (123 : UInt8) else c) = 32 ↔ (p = false ∧ c.toNat = 32) := by
  by_cases h : stp p c = true
  · rw [if_pos h]
    constructor
    · intro h'; exact absurd h' (by decide)
    · rintro ⟨rfl, h2⟩
      rw [stp_else (by omega) (by omega)] at h
      cases h
  · rw [if_neg h]
    constructor
    · rintro rfl
      refine ⟨?_, rfl⟩
      rw [stp_else (by decide) (by decide)] at h
      simpa using h
    · rintro ⟨_, h2⟩
      exact UInt8.toNat_inj.1 h2
theorem mk_snoc (l : List UInt8) (c : UInt8) : mk (l ++ [c]) = mk l ++ [if stp (st false l) c = true then 123 else c] := mkf_snoc false l c
theorem mk_len (l : List UInt8) : (mk l).length = l.length := mkf_len false l
theorem split_off (b : UInt8) (l : List UInt8) : off (spD b l) + (spC b l).length = l.length := by
  refine snocInd (P := fun l => off (spD b l) + (spC b l).length = l.length) rfl ?_ l
  intro l x ih
  by_cases h : x = b
  · rw [spD_hit b l h, spC_hit b l h, off_snoc]; simp; omega
  · rw [spD_miss b l h, spC_miss b l h]; simp; omega
theorem off_split (b : UInt8) (l : List UInt8) : off (split b l) = l.length + 1 := by
  have := split_off b l
  rw [split, off_snoc]; omega
theorem part_room {b : UInt8} {l : List UInt8} {pre : List (List UInt8)} {x : List UInt8} (h : pre ++ [x] <+: split b l) : off pre + x.length ≤ l.length := by
  obtain ⟨r, hr⟩ := h
  have h1 := off_split b l
  rw [← hr, off_app, off_snoc] at h1
  omega
theorem wd_mask (l : List UInt8) : (spC 32 (mk l)).length = (wdC l).length ∧ (∀ r, cutBy (spD 32 (mk l)) (l ++ r) = wdD l) := by
  refine snocInd (P := fun l => (spC 32 (mk l)).length = (wdC l).length ∧ (∀ r, cutBy (spD 32 (mk l)) (l ++ r) = wdD l)) ⟨rfl, fun _ => rfl⟩ ?_ l
  rintro l c ⟨h1, h2⟩
  rw [mk_snoc]
  have ho := split_off 32 (mk l)
  rw [mk_len] at ho
  by_cases h : st false l = false ∧ c.toNat = 32
  · obtain ⟨e1, e2⟩ := wd_hit h.1 h.2
    have hm := (mask32 (st false l) c).2 h
    rw [spD_hit _ _ hm, spC_hit _ _ hm, e1, e2]
    refine ⟨rfl, fun r => ?_⟩
    rw [cutBy_snoc, List.append_assoc, h2]
    congr 1
    have ed := wdC_drop l
    have e : off (spD 32 (mk l)) = l.length - (wdC l).length := by omega
    rw [e, List.drop_append_of_le_length (by omega), ed, h1]
    simp
  · obtain ⟨e1, e2⟩ := wd_miss h
    have hm := fun h' => h ((mask32 (st false l) c).1 h')
    rw [spD_miss _ _ hm, spC_miss _ _ hm, e1, e2]
    refine ⟨by simp [h1], fun r => ?_⟩
    rw [List.append_assoc]
    exact h2 _
/-- the words of a title are its cuts at the mask's parts -/
theorem words_cut (l : List UInt8) : cutBy (split 32 (mk l)) l = words l := by
  obtain ⟨h1, h2⟩ := wd_mask l
  have ho := split_off 32 (mk l)
  rw [mk_len] at ho
  rw [split, cutBy_snoc]
  have := h2 []
  rw [List.append_nil] at this
  rw [this, words]
  congr 2
  have ed := wdC_drop l
  have e : off (spD 32 (mk l)) = l.length - (wdC l).length := by omega
  rw [e, ed, h1, List.take_length]
theorem wd_off (l : List UInt8) : off (wdD l) + (wdC l).length = l.length := by
  refine snocInd (P := fun l => off (wdD l) + (wdC l).length = l.length) rfl ?_ l
  intro l x ih
  by_cases h : st false l = false ∧ x.toNat = 32
  · obtain ⟨e1, e2⟩ := wd_hit h.1 h.2
    rw [e1, e2, off_snoc]; simp; omega
  · obtain ⟨e1, e2⟩ := wd_miss h
    rw [e1, e2]; simp; omega
theorem words_off (l : List UInt8) : off (words l) = l.length + 1 := by
  have := wd_off l
  rw [words, off_snoc]; omega
theorem cut_at (s : ByteArray) (i n : Nat) : s.extract i (i + n) = ba ((s.data.toList.drop i).take n) := by
  rw [extract_list, List.drop_take]
  congr 2; omega
end Go.Proofs.YtobjfmchnlnohaaGreatDoor.TiPl
