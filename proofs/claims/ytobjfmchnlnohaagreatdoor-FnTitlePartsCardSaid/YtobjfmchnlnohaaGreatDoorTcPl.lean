/-
  Plain mathematics of chapter 6: letters raised and lowered, minor words, what both cases make of a word; the words of a title are not empty. Nothing of the program is named here.
-/
import Derived.Test.YtobjfmchnlnohaaGreatDoorWdPl
import Derived.Lib.Case
import Derived.Lib.IndexAny
namespace Go.Proofs.YtobjfmchnlnohaaGreatDoor.TiPl
open Pl NmPl
set_option linter.unusedSimpArgs false

/-- the first letter raised -/
def raise : List UInt8 → List UInt8
  | [] => []
  | c :: r => if isLt c = true then Lib.upperB c :: r else c :: raise r
theorem raise_no : ∀ (a b : List UInt8), a.any isLt = false → raise (a ++ b) = a ++ raise b
  | [], _, _ => rfl
  | c :: r, b, h => by
    rw [List.any_cons, Bool.or_eq_false_iff] at h
    show (if isLt c = true then _ else c :: raise (r ++ b)) = _
    rw [h.1, if_neg (by decide), raise_no r b h.2]
    rfl
theorem raise_hit {a : List UInt8} {c : UInt8} (b : List UInt8) (h : a.any isLt = false) (hc : isLt c = true) : raise (a ++ c :: b) = a ++ Lib.upperB c :: b := by
  rw [raise_no a _ h]
  show a ++ (if isLt c = true then _ else _) = _
  rw [if_pos hc]
theorem raise_none {a : List UInt8} (h : a.any isLt = false) : raise a = a := by
  have := raise_no a [] h
  simpa [raise] using this
theorem raise_len : ∀ l : List UInt8, (raise l).length = l.length
  | [] => rfl
  | c :: r => by
    unfold raise
    split
    · rfl
    · simp [raise_len r]
/-- what is not protected lowered -/
def calmf : Bool → List UInt8 → List UInt8
  | _, [] => []
  | p, c :: r => (if stp p c = true then c else Lib.lowerB c) :: calmf (stp p c) r
theorem calmf_snoc : ∀ (p : Bool) (l : List UInt8) (c : UInt8), calmf p (l ++ [c]) = calmf p l ++ [if stp (st p l) c = true then c else Lib.lowerB c]
  | _, [], _ => rfl
  | p, d :: r, c => by
    have ih := calmf_snoc (stp p d) r c
    show _ :: calmf (stp p d) (r ++ [c]) = _
    rw [ih]
    rfl
def calm (l : List UInt8) : List UInt8 := calmf false l
theorem calm_snoc (l : List UInt8) (c : UInt8) : calm (l ++ [c]) = calm l ++ [if stp (st false l) c = true then c else Lib.lowerB c] := calmf_snoc false l c
theorem calmf_len : ∀ (p : Bool) (l : List UInt8), (calmf p l).length = l.length
  | _, [] => rfl
  | p, c :: r => by simp [calmf, calmf_len (stp p c) r]
theorem calm_len (l : List UInt8) : (calm l).length = l.length := calmf_len false l
/-- has it a brace -/
def brc (c : UInt8) : Bool := decide (c.toNat = 123) || decide (c.toNat = 125)
def brB (l : List UInt8) : Bool := l.any brc
theorem brB_snoc (l : List UInt8) (c : UInt8) : brB (l ++ [c]) = (brB l || brc c) := by simp [brB]
theorem up_range {c : UInt8} (h : Lib.isUpperB c = true) : 65 ≤ c.toNat ∧ c.toNat ≤ 90 := by
  have := Lib.isUpperB_int c
  rw [h] at this
  have := this.symm
  simp only [Bool.and_eq_true, decide_eq_true_eq] at this
  omega
theorem lowerB_of {c : UInt8} (h : Lib.isUpperB c = true) : (Lib.lowerB c).toNat = c.toNat + 32 := by
  have hr := up_range h
  unfold Lib.lowerB
  rw [if_pos h, UInt8.toNat_add]
  show (c.toNat + 32) % 256 = _
  omega
theorem isUp_eq (c : UInt8) : Lib.isUpperB c = isUp c := by
  rw [Lib.isUpperB_int, Bool.eq_iff_iff]; simp [isUp]; omega
theorem isLo_eq (c : UInt8) : Lib.isLowerB c = isLo c := by
  rw [Lib.isLowerB_int, Bool.eq_iff_iff]; simp [isLo]; omega
theorem brc_low (c : UInt8) : brc (Lib.lowerB c) = brc c := by
  cases h : Lib.isUpperB c with
  | false => rw [Lib.lowerB_of_not c h]
  | true =>
    have h1 := up_range h
    have h2 := lowerB_of h
    unfold brc
    rw [h2]
    rw [Bool.eq_iff_iff]; simp; omega
theorem calm_br (l : List UInt8) : brB (calm l) = brB l := by
  refine snocInd (P := fun l => brB (calm l) = brB l) rfl ?_ l
  intro l c ih
  rw [calm_snoc, brB_snoc, brB_snoc, ih]
  split
  · rfl
  · rw [brc_low]
theorem st_nobr {l : List UInt8} (h : brB l = false) : st false l = false := by
  refine snocInd (P := fun l => brB l = false → st false l = false) (fun _ => rfl) ?_ l h
  intro l c ih h
  rw [brB_snoc, Bool.or_eq_false_iff] at h
  have hc := h.2
  simp only [brc, Bool.or_eq_false_iff, decide_eq_false_iff_not] at hc
  rw [st_snoc, ih h.1, stp_else hc.1 hc.2]
theorem calm_low {l : List UInt8} (h : brB l = false) : calm l = l.map Lib.lowerB := by
  refine snocInd (P := fun l => brB l = false → calm l = l.map Lib.lowerB) (fun _ => rfl) ?_ l h
  intro l c ih h
  rw [brB_snoc, Bool.or_eq_false_iff] at h
  have hc := h.2
  simp only [brc, Bool.or_eq_false_iff, decide_eq_false_iff_not] at hc
  rw [calm_snoc, ih h.1, st_nobr h.1, stp_else hc.1 hc.2, if_neg (by decide)]
  simp
/-- the minor words -/
def minors : List (List UInt8) := [[97], [97, 110], [97, 110, 100], [97, 115], [97, 116], [98, 117, 116], [98, 121], [102, 111, 114], [102, 114, 111, 109], [105, 110], [111, 102], [111, 110], [111, 114], [116, 104, 101], [116, 111], [119, 105, 116, 104]]
def minorB (l : List UInt8) : Bool := minors.contains (l.map Lib.lowerB)
/-- does the word at a place begin a part -/
def starts (ws : List (List UInt8)) : Nat → Bool
  | 0 => true
  | j + 1 => match ws[j]? with | some x => Lib.hasSuffix x [58] | none => false
/-- what title case makes of the word at a place -/
def tcF (ws : List (List UInt8)) (i : Nat) (x : List UInt8) : List UInt8 :=
  if brB x = true then x else if minorB x = true ∧ starts ws i = false ∧ i + 1 < ws.length then x.map Lib.lowerB else raise x
def scF (ws : List (List UInt8)) (i : Nat) (x : List UInt8) : List UInt8 :=
  if starts ws i = true ∧ brB x = false then raise (calm x) else calm x
theorem tcF_len (ws : List (List UInt8)) (i : Nat) (x : List UInt8) : (tcF ws i x).length = x.length := by
  unfold tcF
  split
  · rfl
  · split
    · simp
    · exact raise_len x
theorem scF_len (ws : List (List UInt8)) (i : Nat) (x : List UInt8) : (scF ws i x).length = x.length := by
  unfold scF
  split
  · rw [raise_len, calm_len]
  · exact calm_len x
/-- the first k words, changed -/
def outs (F : Nat → List UInt8 → List UInt8) (ws : List (List UInt8)) (k : Nat) : List (List UInt8) := (List.range k).map fun i => F i (ws.getD i [])
theorem outs_snoc (F : Nat → List UInt8 → List UInt8) (ws : List (List UInt8)) (k : Nat) {x : List UInt8} (h : ws[k]? = some x) : outs F ws (k + 1) = outs F ws k ++ [F k x] := by
  unfold outs
  rw [List.range_succ, List.map_append]
  simp [List.getD, h]
theorem outs_len (F : Nat → List UInt8 → List UInt8) (ws : List (List UInt8)) (k : Nat) : (outs F ws k).length = k := by simp [outs]
theorem outs_off (F : Nat → List UInt8 → List UInt8) (hF : ∀ i x, (F i x).length = x.length) (ws : List (List UInt8)) (k : Nat) (hk : k ≤ ws.length) : off (outs F ws k) = off (ws.take k) := by
  induction k with
  | zero => simp [outs, off]
  | succ k ih =>
    have hx := List.getElem?_eq_getElem (show k < ws.length by omega)
    rw [outs_snoc F ws k hx, off_snoc, ih (by omega), hF, List.take_succ_eq_append_getElem (show k < ws.length by omega), off_snoc]

/-! the words of a title -/
theorem words_mem (l : List UInt8) : ∀ x ∈ words l, ∀ c ∈ x, c ∈ l := by
  have : (∀ x ∈ wdD l, ∀ c ∈ x, c ∈ l) ∧ ∀ c ∈ wdC l, c ∈ l := by
    refine snocInd (P := fun l => (∀ x ∈ wdD l, ∀ c ∈ x, c ∈ l) ∧ ∀ c ∈ wdC l, c ∈ l) ⟨fun x hx => (by cases hx), fun x hx => (by cases hx)⟩ ?_ l
    rintro l d ⟨h1, h2⟩
    by_cases h : st false l = false ∧ d.toNat = 32
    · obtain ⟨e1, e2⟩ := wd_hit h.1 h.2
      rw [e1, e2]
      refine ⟨fun x hx c hc => ?_, fun c hc => by cases hc⟩
      rcases List.mem_append.1 hx with hx | hx
      · exact List.mem_append_left _ (h1 x hx c hc)
      · simp at hx; subst hx; exact List.mem_append_left _ (h2 c hc)
    · obtain ⟨e1, e2⟩ := wd_miss h
      rw [e1, e2]
      refine ⟨fun x hx c hc => List.mem_append_left _ (h1 x hx c hc), fun c hc => ?_⟩
      rcases List.mem_append.1 hc with hc | hc
      · exact List.mem_append_left _ (h2 c hc)
      · exact List.mem_append_right _ hc
  intro x hx
  rcases List.mem_append.1 hx with hx | hx
  · exact this.1 x hx
  · simp at hx; subst hx; exact this.2
/-- stands a space at the end (p: of nothing) -/
def end32 (p : Bool) : List UInt8 → Bool
  | [] => p
  | c :: r => end32 (c == 32) r
theorem end32_snoc : ∀ (p : Bool) (l : List UInt8) (c : UInt8), end32 p (l ++ [c]) = (c == 32)
  | _, [], _ => rfl
  | _, d :: r, c => end32_snoc (d == 32) r c
theorem dbl_snoc : ∀ (p : Bool) (l : List UInt8) (c : UInt8), dbl p (l ++ [c]) = (dbl p l || (end32 p l && c == 32))
  | p, [], c => by simp [dbl, end32]
  | p, d :: r, c => by
    show ((p && d == 32) || dbl (d == 32) (r ++ [c])) = ((p && d == 32) || dbl (d == 32) r || (end32 (d == 32) r && c == 32))
    rw [dbl_snoc, Bool.or_assoc]
theorem words_ne (l : List UInt8) : dbl true l = false → (∀ x ∈ wdD l, x ≠ []) ∧ (wdC l = [] → l = [] ∨ end32 true l = true) := by
  refine snocInd (P := fun l => dbl true l = false → (∀ x ∈ wdD l, x ≠ []) ∧ (wdC l = [] → l = [] ∨ end32 true l = true)) (fun _ => ⟨fun x hx => (by cases hx), fun _ => .inl rfl⟩) ?_ l
  intro l c ih h
  rw [dbl_snoc, Bool.or_eq_false_iff] at h
  obtain ⟨h1, h2⟩ := ih h.1
  by_cases hh : st false l = false ∧ c.toNat = 32
  · obtain ⟨e1, e2⟩ := wd_hit hh.1 hh.2
    have hc : (c == 32) = true := by rw [beq32]; simp [hh.2]
    rw [e1]
    refine ⟨fun x hx => ?_, fun _ => .inr (by rw [end32_snoc]; exact hc)⟩
    rcases List.mem_append.1 hx with hx | hx
    · exact h1 x hx
    · simp at hx
      subst hx
      intro e
      have h3 := h.2
      rw [hc, Bool.and_true] at h3
      rcases h2 e with h4 | h4
      · subst h4; cases h3
      · rw [h4] at h3; cases h3
  · obtain ⟨e1, e2⟩ := wd_miss hh
    rw [e1, e2]
    exact ⟨h1, fun e => by simp at e⟩
theorem words_good {l : List UInt8} (h : okT l = true) : ∀ x ∈ words l, x ≠ [] ∧ x.all prC = true ∧ x.length ≤ 100 := by
  obtain ⟨hp, hd, _, hl⟩ := okT_parts h
  have hs := (okT_size h).1
  have he : edg l = true := by
    unfold okT at h
    simp only [Bool.and_eq_true] at h
    exact h.2.1
  unfold edg at he
  simp only [Bool.and_eq_true, Bool.not_eq_true'] at he
  have hfirst : dbl true l = false := by
    cases l with
    | nil => rfl
    | cons c r =>
      have h1 : Lib.hasPrefix (c :: r) [32] = ((32 : UInt8) == c) := by show ((32 : UInt8) == c && true) = _; rw [Bool.and_true]
      rw [h1] at he
      unfold dbl at hd ⊢
      rw [Bool.or_eq_false_iff] at hd ⊢
      exact ⟨by rw [Bool.true_and, BEq.comm]; exact he.1, hd.2⟩
  obtain ⟨h1, h2⟩ := words_ne l hfirst
  have hlast : end32 true l = false := by
    rcases List.eq_nil_or_concat l with rfl | ⟨r, c, rfl⟩
    · simp at hs
    · rw [List.concat_eq_append] at he ⊢
      have h3 : Lib.hasSuffix (r ++ [c]) [32] = ((32 : UInt8) == c) := by
        show List.isPrefixOf [32] (r ++ [c]).reverse = _
        rw [List.reverse_append]
        show ((32 : UInt8) == c && true) = _
        rw [Bool.and_true]
      rw [h3] at he
      rw [end32_snoc, BEq.comm]
      exact he.2
  intro x hx
  refine ⟨?_, List.all_eq_true.2 fun c hc => List.all_eq_true.1 hp c (words_mem l x hx c hc), ?_⟩
  · rcases List.mem_append.1 hx with hx | hx
    · exact h1 x hx
    · simp at hx
      subst hx
      intro e
      rcases h2 e with h4 | h4
      · subst h4; simp at hs
      · rw [h4] at hlast; cases hlast
  · have hmem : ∀ (L : List (List UInt8)), x ∈ L → x.length + 1 ≤ off L := by
      intro L
      induction L with
      | nil => intro h; cases h
      | cons y L ih =>
        intro h
        rw [off_cons]
        rcases List.mem_cons.1 h with rfl | h
        · omega
        · have := ih h; omega
    have := hmem _ hx
    rw [words_off] at this
    omega
end Go.Proofs.YtobjfmchnlnohaaGreatDoor.TiPl
