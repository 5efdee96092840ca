/-
  Plain mathematics of chapter 6: both cases keep a title a title, its words and its length; a case again changes nothing; the sentence case of the title case is that of the title. Nothing of the program is named here.
-/
import Derived.Test.YtobaapabkckblaaGreatDoorTcPl
import Derived.Test.YtobaapabkckblaaGreatDoorJo
namespace Go.Proofs.YtobaapabkckblaaGreatDoor.TiPl
open Pl NmPl Jo
set_option linter.unusedSimpArgs false
set_option linter.unusedVariables false

theorem low_nat (c : UInt8) : (65 ≤ c.toNat ∧ c.toNat ≤ 90 ∧ (Lib.lowerB c).toNat = c.toNat + 32) ∨ (¬ (65 ≤ c.toNat ∧ c.toNat ≤ 90) ∧ Lib.lowerB c = c) := by
  cases h : Lib.isUpperB c with
  | true => exact .inl ⟨(up_range h).1, (up_range h).2, lowerB_of h⟩
  | false =>
    refine .inr ⟨?_, Lib.lowerB_of_not c h⟩
    rw [isUp_eq] at h
    exact of_decide_eq_false h
theorem up_nat (c : UInt8) : (97 ≤ c.toNat ∧ c.toNat ≤ 122 ∧ (Lib.upperB c).toNat + 32 = c.toNat) ∨ (¬ (97 ≤ c.toNat ∧ c.toNat ≤ 122) ∧ Lib.upperB c = c) := by
  cases h : Lib.isLowerB c with
  | true =>
    have h0 := Lib.upperB_int c h
    rw [isLo_eq] at h
    have h1 := of_decide_eq_true h
    exact .inl ⟨h1.1, h1.2, by omega⟩
  | false =>
    refine .inr ⟨?_, Lib.upperB_of_not c h⟩
    rw [isLo_eq] at h
    exact of_decide_eq_false h
theorem low_is (c : UInt8) (k : Nat) (h1 : ¬ (65 ≤ k ∧ k ≤ 90)) (h2 : ¬ (97 ≤ k ∧ k ≤ 122)) : (Lib.lowerB c).toNat = k ↔ c.toNat = k := by
  rcases low_nat c with ⟨h3, h4, h5⟩ | ⟨_, h3⟩
  · rw [h5]; omega
  · rw [h3]
theorem low_low (c : UInt8) : Lib.lowerB (Lib.lowerB c) = Lib.lowerB c := by
  rcases low_nat c with ⟨h1, h2, h3⟩ | ⟨_, h3⟩
  · rcases low_nat (Lib.lowerB c) with ⟨h4, h5, _⟩ | ⟨_, h6⟩
    · omega
    · exact h6
  · rw [h3, h3]
theorem low_up (c : UInt8) : Lib.lowerB (Lib.upperB c) = Lib.lowerB c := by
  rcases up_nat c with ⟨h1, h2, h3⟩ | ⟨_, h3⟩
  · apply UInt8.toNat_inj.1
    rcases low_nat (Lib.upperB c) with ⟨_, _, h4⟩ | ⟨h4, _⟩
    · rcases low_nat c with ⟨h5, h6, _⟩ | ⟨_, h5⟩
      · omega
      · rw [h4, h5]; omega
    · omega
  · rw [h3]
theorem up_up (c : UInt8) : Lib.upperB (Lib.upperB c) = Lib.upperB c := by
  rcases up_nat c with ⟨h1, h2, h3⟩ | ⟨_, h3⟩
  · rcases up_nat (Lib.upperB c) with ⟨h4, _, _⟩ | ⟨_, h4⟩
    · omega
    · exact h4
  · rw [h3, h3]
theorem lt_up {c : UInt8} (h : isLt c = true) : isLt (Lib.upperB c) = true := by
  rcases up_nat c with ⟨h1, h2, h3⟩ | ⟨_, h3⟩
  · have e : isUp (Lib.upperB c) = true := decide_eq_true (by omega)
    unfold isLt
    rw [e]; rfl
  · rw [h3]; exact h
/-- in small letters -/
def lo (l : List UInt8) : List UInt8 := l.map Lib.lowerB
theorem lo_lo (l : List UInt8) : lo (lo l) = lo l := by
  unfold lo
  rw [List.map_map]
  exact List.map_congr_left fun c _ => low_low c
theorem stp_low (p : Bool) (c : UInt8) : stp p (Lib.lowerB c) = stp p c := by
  simp only [stp, ne_eq, low_is c 123 (by omega) (by omega), low_is c 125 (by omega) (by omega)]
theorem st_low : ∀ (p : Bool) (l : List UInt8), st p (lo l) = st p l
  | _, [] => rfl
  | p, c :: r => by
    show st (stp p (Lib.lowerB c)) (lo r) = st (stp p c) r
    rw [stp_low, st_low]
theorem wd_low (l : List UInt8) : wdD (lo l) = (wdD l).map lo ∧ wdC (lo l) = lo (wdC l) := by
  refine snocInd (P := fun l => wdD (lo l) = (wdD l).map lo ∧ wdC (lo l) = lo (wdC l)) ⟨rfl, rfl⟩ ?_ l
  rintro l c ⟨h1, h2⟩
  have e : lo (l ++ [c]) = lo l ++ [Lib.lowerB c] := by simp [lo]
  have hi := low_is c 32 (by omega) (by omega)
  rw [e]
  by_cases h : st false l = false ∧ c.toNat = 32
  · obtain ⟨e1, e2⟩ := wd_hit h.1 h.2
    obtain ⟨e3, e4⟩ := wd_hit (l := lo l) (c := Lib.lowerB c) (by rw [st_low]; exact h.1) (hi.2 h.2)
    rw [e1, e2, e3, e4, h1, h2]
    exact ⟨by simp, rfl⟩
  · obtain ⟨e1, e2⟩ := wd_miss h
    obtain ⟨e3, e4⟩ := wd_miss (l := lo l) (c := Lib.lowerB c) (by rw [st_low, hi]; exact h)
    rw [e1, e2, e3, e4, h1, h2]
    exact ⟨rfl, by simp [lo]⟩
theorem words_low (l : List UInt8) : words (lo l) = (words l).map lo := by
  unfold words
  rw [(wd_low l).1, (wd_low l).2]
  simp
theorem prC_low (c : UInt8) : prC (Lib.lowerB c) = prC c := by
  rcases low_nat c with ⟨h1, h2, h3⟩ | ⟨_, h3⟩
  · unfold prC
    rw [h3, decide_eq_true (by omega), decide_eq_true (by omega)]
  · rw [h3]
theorem gd_low : ∀ (l : List UInt8) (i : Nat) (p : Bool) (z : Int), gd (lo l) i p z = gd l i p z
  | [], _, _, _ => rfl
  | c :: r, i, p, z => by
    have h1 := low_is c 32 (by omega) (by omega)
    have h2 := low_is c 123 (by omega) (by omega)
    have h3 := low_is c 125 (by omega) (by omega)
    show gd (Lib.lowerB c :: lo r) i p z = _
    unfold gd
    simp only [prC_low, h1, h2, h3, gd_low r]
theorem pre_low (k : UInt8) (h1 : ¬ (65 ≤ k.toNat ∧ k.toNat ≤ 90)) (h2 : ¬ (97 ≤ k.toNat ∧ k.toNat ≤ 122)) (l : List UInt8) : List.isPrefixOf [k] (lo l) = List.isPrefixOf [k] l := by
  cases l with
  | nil => rfl
  | cons c r =>
    show (k == Lib.lowerB c && true) = (k == c && true)
    rw [Bool.and_true, Bool.and_true, Bool.eq_iff_iff, beq_iff_eq, beq_iff_eq, ← UInt8.toNat_inj, ← UInt8.toNat_inj]
    have := low_is c k.toNat h1 h2
    exact ⟨fun h => (this.1 h.symm).symm, fun h => (this.2 h.symm).symm⟩
theorem suf_low (k : UInt8) (h1 : ¬ (65 ≤ k.toNat ∧ k.toNat ≤ 90)) (h2 : ¬ (97 ≤ k.toNat ∧ k.toNat ≤ 122)) (l : List UInt8) : Lib.hasSuffix (lo l) [k] = Lib.hasSuffix l [k] := by
  show List.isPrefixOf [k] (lo l).reverse = List.isPrefixOf [k] l.reverse
  rw [← pre_low k h1 h2 l.reverse]
  unfold lo
  rw [List.map_reverse]
theorem okT_low (l : List UInt8) : okT (lo l) = okT l := by
  have e1 : (lo l).length = l.length := List.length_map _
  have e2 : Lib.hasPrefix (lo l) [32] = Lib.hasPrefix l [32] := pre_low 32 (by decide) (by decide) l
  unfold okT edg
  rw [e1, e2, suf_low 32 (by decide) (by decide), gd_low]

/-! words joined -/
theorem jL_end (L : List (List UInt8)) (x y : List UInt8) : jL (L ++ [x ++ y]) = jL (L ++ [x]) ++ y := by
  by_cases h : L = []
  · subst h; rw [List.nil_append, List.nil_append, jL_one, jL_one]
  · rw [jL_snoc h, jL_snoc h]; simp
theorem jL_words (l : List UInt8) : jL (words l) = l := by
  refine snocInd (P := fun l => jL (words l) = l) (jL_one []) ?_ l
  intro l c ih
  by_cases h : st false l = false ∧ c.toNat = 32
  · obtain ⟨e1, e2⟩ := wd_hit h.1 h.2
    have e : words (l ++ [c]) = words l ++ [[]] := by unfold words; rw [e1, e2]
    have hc : c = 32 := UInt8.toNat_inj.1 h.2
    rw [e, jL_snoc (by simp [words]), ih, hc]
  · obtain ⟨e1, e2⟩ := wd_miss h
    have e : words (l ++ [c]) = wdD l ++ [wdC l ++ [c]] := by unfold words; rw [e1, e2]
    rw [e, jL_end]
    show jL (words l) ++ [c] = _
    rw [ih]
theorem jT_low : ∀ r : List (List UInt8), Lib.joinTail [32] (r.map lo) = lo (Lib.joinTail [32] r)
  | [] => rfl
  | y :: r => by
    have ih := jT_low r
    have e : ∀ (y : List UInt8) (r : List (List UInt8)), Lib.joinTail [32] (y :: r) = 32 :: (y ++ Lib.joinTail [32] r) := fun y r => by simp [Lib.joinTail]
    rw [List.map_cons, e, e, ih]
    have h32 : Lib.lowerB 32 = 32 := by decide
    simp [lo, h32]
theorem jL_low (L : List (List UInt8)) : jL (L.map lo) = lo (jL L) := by
  cases L with
  | nil => rfl
  | cons y r =>
    unfold jL
    rw [List.map_cons, Lib.join_cons, Lib.join_cons, jT_low]
    simp [lo]
theorem jT_inj : ∀ a b : List (List UInt8), a.map List.length = b.map List.length → Lib.joinTail [32] a = Lib.joinTail [32] b → a = b
  | [], [], _, _ => rfl
  | [], _ :: _, h, _ => by simp at h
  | _ :: _, [], h, _ => by simp at h
  | x :: a, y :: b, h, e => by
    have e' : ∀ (y : List UInt8) (r : List (List UInt8)), Lib.joinTail [32] (y :: r) = 32 :: (y ++ Lib.joinTail [32] r) := fun y r => by simp [Lib.joinTail]
    rw [e', e'] at e
    rw [List.map_cons, List.map_cons] at h
    obtain ⟨hl, ht⟩ := List.cons.inj h
    obtain ⟨h1, h2⟩ := List.append_inj (List.cons.inj e).2 hl
    rw [h1, jT_inj a b ht h2]
theorem jL_inj (a b : List (List UInt8)) (h : a.map List.length = b.map List.length) (e : jL a = jL b) : a = b := by
  match a, b, h, e with
  | [], [], _, _ => rfl
  | [], _ :: _, h, _ => simp at h
  | _ :: _, [], h, _ => simp at h
  | x :: a, y :: b, h, e =>
    unfold jL at e
    rw [Lib.join_cons, Lib.join_cons] at e
    rw [List.map_cons, List.map_cons] at h
    obtain ⟨hl, ht⟩ := List.cons.inj h
    obtain ⟨h1, h2⟩ := List.append_inj e hl
    rw [h1, jT_inj a b ht h2]

/-! words changed -/
theorem outs_get (F : Nat → List UInt8 → List UInt8) (ws : List (List UInt8)) (i : Nat) : (outs F ws ws.length)[i]? = ws[i]?.map (F i) := by
  unfold outs
  rw [List.getElem?_map]
  by_cases h : i < ws.length
  · rw [List.getElem?_range h, List.getElem?_eq_getElem h]
    simp [List.getD, h]
  · rw [List.getElem?_eq_none (by simp; omega), List.getElem?_eq_none (by omega)]
    rfl
theorem outs_low {F : Nat → List UInt8 → List UInt8} (hF : ∀ i x, lo (F i x) = lo x) (ws : List (List UInt8)) : (outs F ws ws.length).map lo = ws.map lo := by
  apply List.ext_getElem?
  intro i
  rw [List.getElem?_map, outs_get, List.getElem?_map]
  cases ws[i]? with
  | none => rfl
  | some x => exact congrArg some (hF i x)
theorem map_len (L : List (List UInt8)) : (L.map lo).map List.length = L.map List.length := by
  rw [List.map_map]
  exact List.map_congr_left fun x _ => List.length_map _
theorem join_low {F : Nat → List UInt8 → List UInt8} (hF : ∀ i x, lo (F i x) = lo x) (l : List UInt8) : lo (jL (outs F (words l) (words l).length)) = lo l := by
  rw [← jL_low, outs_low hF, jL_low, jL_words]
theorem words_join {F : Nat → List UInt8 → List UInt8} (hF : ∀ i x, lo (F i x) = lo x) (l : List UInt8) : words (jL (outs F (words l) (words l).length)) = outs F (words l) (words l).length := by
  refine jL_inj _ _ ?_ (jL_words _)
  rw [← map_len, ← words_low, join_low hF, words_low, ← outs_low hF, map_len]
theorem starts_low : ∀ (ws : List (List UInt8)) (i : Nat), starts (ws.map lo) i = starts ws i
  | _, 0 => rfl
  | ws, j + 1 => by
    show (match (ws.map lo)[j]? with | some x => Lib.hasSuffix x [58] | none => false) = (match ws[j]? with | some x => Lib.hasSuffix x [58] | none => false)
    rw [List.getElem?_map]
    cases ws[j]? with
    | none => rfl
    | some x => exact suf_low 58 (by decide) (by decide) x
theorem brB_low (x : List UInt8) : brB (lo x) = brB x := by
  unfold brB lo
  rw [List.any_map]
  congr 1
  funext c
  exact brc_low c
theorem brB_of {x y : List UInt8} (h : lo x = lo y) : brB x = brB y := by rw [← brB_low, h, brB_low]
theorem minorB_of {x y : List UInt8} (h : lo x = lo y) : minorB x = minorB y := by
  unfold minorB
  exact congrArg _ h
theorem raise_low : ∀ x : List UInt8, lo (raise x) = lo x
  | [] => rfl
  | c :: r => by
    unfold raise
    split
    · simp [lo, low_up]
    · have := raise_low r
      unfold lo at this ⊢
      rw [List.map_cons, List.map_cons, this]
theorem raise_raise : ∀ x : List UInt8, raise (raise x) = raise x
  | [] => rfl
  | c :: r => by
    cases h : isLt c with
    | true =>
      have e : raise (c :: r) = Lib.upperB c :: r := by unfold raise; rw [if_pos h]
      have e2 : raise (Lib.upperB c :: r) = Lib.upperB (Lib.upperB c) :: r := by unfold raise; rw [if_pos (lt_up h)]
      rw [e, e2, up_up]
    | false =>
      have e : ∀ y, raise (c :: y) = c :: raise y := fun y => by conv => lhs; unfold raise; rw [if_neg (by rw [h]; decide)]
      rw [e, e, raise_raise r]
theorem calm_lo (l : List UInt8) : lo (calm l) = lo l := by
  refine snocInd (P := fun l => lo (calm l) = lo l) rfl ?_ l
  intro l c ih
  rw [calm_snoc]
  unfold lo at ih ⊢
  rw [List.map_append, List.map_append, ih]
  split
  · rfl
  · simp [low_low]
theorem calm_calm (l : List UInt8) : calm (calm l) = calm l := by
  refine snocInd (P := fun l => calm (calm l) = calm l) rfl ?_ l
  intro l c ih
  have hs : st false (calm l) = st false l := by rw [← st_low, calm_lo, st_low]
  rw [calm_snoc, calm_snoc, ih, hs]
  by_cases h : stp (st false l) c = true
  · rw [if_pos h, if_pos h]
  · rw [if_neg h, stp_low, if_neg h, low_low]
theorem tcF_low (ws : List (List UInt8)) (i : Nat) (x : List UInt8) : lo (tcF ws i x) = lo x := by
  unfold tcF
  split
  · rfl
  · split
    · exact lo_lo x
    · exact raise_low x
theorem scF_low (ws : List (List UInt8)) (i : Nat) (x : List UInt8) : lo (scF ws i x) = lo x := by
  unfold scF
  split
  · rw [raise_low, calm_lo]
  · exact calm_lo x
/-- of lists that read alike in small letters -/
theorem tc_tc {ws vs : List (List UInt8)} (h : vs.map lo = ws.map lo) (i : Nat) (x : List UInt8) : tcF vs i (tcF ws i x) = tcF ws i x := by
  have hs : starts vs i = starts ws i := by rw [← starts_low, h, starts_low]
  have hl : vs.length = ws.length := by have := congrArg List.length h; simpa using this
  have hm : ∀ y, lo y = lo x → minorB y = minorB x := fun y e => minorB_of e
  by_cases h1 : brB x = true
  · have e : ∀ us, tcF us i x = x := fun us => by unfold tcF; rw [if_pos h1]
    rw [e, e]
  · by_cases h2 : minorB x = true ∧ starts ws i = false ∧ i + 1 < ws.length
    · have e : tcF ws i x = lo x := by unfold tcF; rw [if_neg h1, if_pos h2]; rfl
      rw [e]
      unfold tcF
      rw [brB_low, if_neg h1, minorB_of (lo_lo x), hs, hl, if_pos h2]
      exact lo_lo x
    · have e : tcF ws i x = raise x := by unfold tcF; rw [if_neg h1, if_neg h2]
      rw [e]
      unfold tcF
      rw [brB_of (raise_low x), if_neg h1, minorB_of (raise_low x), hs, hl, if_neg h2]
      exact raise_raise x
theorem sc_any {ws vs : List (List UInt8)} (h : vs.map lo = ws.map lo) (i : Nat) {x y : List UInt8} (hy : lo y = lo x) (hc : calm y = calm x ∨ brB x = false) : scF vs i y = scF ws i x := by
  have hs : starts vs i = starts ws i := by rw [← starts_low, h, starts_low]
  have hb := brB_of hy
  have hcc : calm y = calm x := by
    rcases hc with hc | hc
    · exact hc
    · rw [calm_low hc, calm_low (by rw [hb]; exact hc)]; exact hy
  unfold scF
  rw [hs, hb, hcc]
theorem sc_sc {ws vs : List (List UInt8)} (h : vs.map lo = ws.map lo) (i : Nat) (x : List UInt8) : scF vs i (scF ws i x) = scF ws i x := by
  refine sc_any h i (scF_low ws i x) ?_
  cases hb : brB x with
  | false => exact .inr rfl
  | true =>
    refine .inl ?_
    have e : scF ws i x = calm x := by unfold scF; rw [if_neg (by rw [hb]; simp)]
    rw [e, calm_calm]
theorem sc_tc {ws vs : List (List UInt8)} (h : vs.map lo = ws.map lo) (i : Nat) (x : List UInt8) : scF vs i (tcF ws i x) = scF ws i x := by
  refine sc_any h i (tcF_low ws i x) ?_
  cases hb : brB x with
  | false => exact .inr rfl
  | true =>
    refine .inl ?_
    have e : tcF ws i x = x := by unfold tcF; rw [if_pos hb]
    rw [e]
/-- the title in a case -/
def inCase (F : List (List UInt8) → Nat → List UInt8 → List UInt8) (l : List UInt8) : List UInt8 := jL (outs (F (words l)) (words l) (words l).length)
theorem case_ok {F : List (List UInt8) → Nat → List UInt8 → List UInt8} (hF : ∀ ws i x, lo (F ws i x) = lo x) (l : List UInt8) : okT (inCase F l) = okT l := by
  rw [← okT_low]
  unfold inCase
  rw [join_low (hF _), okT_low]
theorem case_len {F : List (List UInt8) → Nat → List UInt8 → List UInt8} (hF : ∀ ws i x, lo (F ws i x) = lo x) (l : List UInt8) : (inCase F l).length = l.length := by
  have := congrArg List.length (join_low (hF (words l)) l)
  unfold lo at this
  rw [List.length_map, List.length_map] at this
  exact this
theorem case_two {F G H : List (List UInt8) → Nat → List UInt8 → List UInt8} (hF : ∀ ws i x, lo (F ws i x) = lo x) (hG : ∀ ws vs i x, vs.map lo = ws.map lo → G vs i (F ws i x) = H ws i x) (l : List UInt8) : inCase G (inCase F l) = inCase H l := by
  unfold inCase
  rw [words_join (hF _)]
  congr 1
  have hl := outs_low (hF (words l)) (words l)
  apply List.ext_getElem?
  intro i
  rw [outs_get, outs_get, outs_get, Option.map_map]
  cases (words l)[i]? with
  | none => rfl
  | some x => exact congrArg some (hG _ _ i x hl)
theorem title_title (l : List UInt8) : inCase tcF (inCase tcF l) = inCase tcF l := case_two tcF_low (fun ws vs i x h => tc_tc h i x) l
theorem sent_sent (l : List UInt8) : inCase scF (inCase scF l) = inCase scF l := case_two scF_low (fun ws vs i x h => sc_sc h i x) l
theorem sent_title (l : List UInt8) : inCase scF (inCase tcF l) = inCase scF l := case_two tcF_low (fun ws vs i x h => sc_tc h i x) l
end Go.Proofs.YtobaapabkckblaaGreatDoor.TiPl
