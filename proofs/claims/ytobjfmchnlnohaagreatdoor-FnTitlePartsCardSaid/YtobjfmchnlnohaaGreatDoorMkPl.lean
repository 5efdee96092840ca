/-
  Plain mathematics of chapter 6: what is protected in a title, its mask, the place of the subtitle, the parts of a title. Nothing of the program is named here.
-/
import Derived.Test.YtobjfmchnlnohaaGreatDoorTiPl
import Derived.Lib.IndexMore
namespace Go.Proofs.YtobjfmchnlnohaaGreatDoor.TiPl
open Pl NmPl
set_option linter.unusedSimpArgs false

/-- is a byte behind c protected, p: was c's predecessor -/
def stp (p : Bool) (c : UInt8) : Bool := decide (c.toNat = 123) || (p && decide (c.toNat ≠ 125))
def st (p : Bool) (l : List UInt8) : Bool := l.foldl stp p
theorem st_snoc (p : Bool) (l : List UInt8) (c : UInt8) : st p (l ++ [c]) = stp (st p l) c := by simp [st, List.foldl_append]
theorem stp_open {p : Bool} {c : UInt8} (h : c.toNat = 123) : stp p c = true := by simp [stp, h]
theorem stp_shut {p : Bool} {c : UInt8} (h : c.toNat = 125) : stp p c = false := by simp [stp, h]
theorem stp_else {p : Bool} {c : UInt8} (h : c.toNat ≠ 123) (h2 : c.toNat ≠ 125) : stp p c = p := by simp [stp, h, h2]
/-- the mask: what is protected is overwritten -/
def mkf : Bool → List UInt8 → List UInt8
  | _, [] => []
  | p, c :: r => (if stp p c = true then 123 else c) :: mkf (stp p c) r
theorem mkf_snoc : ∀ (p : Bool) (l : List UInt8) (c : UInt8), mkf p (l ++ [c]) = mkf p l ++ [if stp (st p l) c = true then 123 else c]
  | _, [], _ => rfl
  | p, d :: r, c => by
    have ih := mkf_snoc (stp p d) r c
    show _ :: mkf (stp p d) (r ++ [c]) = _
    rw [ih]
    rfl
theorem mkf_len : ∀ (p : Bool) (l : List UInt8), (mkf p l).length = l.length
  | _, [] => rfl
  | p, c :: r => by simp [mkf, mkf_len (stp p c) r]
theorem mkf_at : ∀ (p : Bool) (l : List UInt8) (i : Nat) (c : UInt8), l[i]? = some c → (mkf p l)[i]? = some (if st p (l.take (i + 1)) = true then 123 else c)
  | _, [], _, _, h => by simp at h
  | p, d :: r, 0, c, h => by
    simp at h
    subst h
    simp [mkf, st]
  | p, d :: r, i + 1, c, h => by
    exact mkf_at (stp p d) r i c (by simpa using h)
def mk (l : List UInt8) : List UInt8 := mkf false l
theorem pre2b (l : List UInt8) : List.isPrefixOf [58, 32] l = (match l with | a :: b :: _ => (a == 58) && (b == 32) | _ => false) := by
  match l with
  | [] => rfl
  | [a] => simp [List.isPrefixOf]
  | a :: b :: t =>
    show ((58 : UInt8) == a && ((32 : UInt8) == b && true)) = _
    rw [Bool.and_true, BEq.comm (a := (58 : UInt8)) (b := a), BEq.comm (a := (32 : UInt8)) (b := b)]
theorem occ_at {m : List UInt8} {i : Nat} {a b : UInt8} (ha : m[i]? = some a) (hb : m[i + 1]? = some b) : Lib.occAt m [58, 32] i = ((a == 58) && (b == 32)) := by
  obtain ⟨h1, rfl⟩ := List.getElem?_eq_some_iff.1 ha
  obtain ⟨h2, rfl⟩ := List.getElem?_eq_some_iff.1 hb
  unfold Lib.occAt
  rw [List.drop_eq_getElem_cons h1, List.drop_eq_getElem_cons h2, pre2b]
theorem beqN (c : UInt8) (n : Nat) (h : n < 256) : (c == UInt8.ofNat n) = decide (c.toNat = n) := by
  rw [Bool.eq_iff_iff, beq_iff_eq, decide_eq_true_eq]
  constructor
  · rintro rfl; simp [UInt8.toNat_ofNat]; omega
  · intro h'; exact UInt8.toNat_inj.1 (by simp [UInt8.toNat_ofNat]; omega)
theorem beq58 (c : UInt8) : (c == 58) = decide (c.toNat = 58) := beqN c 58 (by decide)
theorem occ_no {l : List UInt8} {i : Nat} {c d : UInt8} (hc : l[i]? = some c) (hd : l[i + 1]? = some d) (h : st false (l.take (i + 1)) = true ∨ c.toNat ≠ 58 ∨ d.toNat ≠ 32) : Lib.occAt (mk l) [58, 32] i = false := by
  rw [mk, occ_at (mkf_at false l i c hc) (mkf_at false l (i + 1) d hd)]
  by_cases h1 : st false (l.take (i + 1)) = true
  · rw [if_pos h1]; rfl
  · rw [if_neg h1, beq58]
    by_cases h2 : c.toNat = 58
    · have hd' : d.toNat ≠ 32 := by rcases h with h | h | h; exact absurd h h1; exact absurd h2 h; exact h
      by_cases h3 : st false (l.take (i + 1 + 1)) = true
      · rw [if_pos h3]; simp
      · rw [if_neg h3, beq32]; simp [hd']
    · simp [h2]
theorem occ_yes {l : List UInt8} {i : Nat} {c d : UInt8} (hc : l[i]? = some c) (hd : l[i + 1]? = some d) (h1 : st false (l.take (i + 1)) = false) (h2 : c.toNat = 58) (h3 : d.toNat = 32) : Lib.occAt (mk l) [58, 32] i = true := by
  have h4 : st false (l.take (i + 1 + 1)) = false := by rw [List.take_add_one (i := i + 1), hd]; show st false (l.take (i + 1) ++ [d]) = false; rw [st_snoc, stp_else (by omega) (by omega), h1]
  rw [mk, occ_at (mkf_at false l i c hc) (mkf_at false l (i + 1) d hd), h1, h4, if_neg (by decide), if_neg (by decide), beq58, beq32]
  simp [h2, h3]
/-- the place of the subtitle's mark, or -1 -/
def sub (l : List UInt8) : Int := Lib.index (mk l) [58, 32]
theorem occ_end {l : List UInt8} {i : Nat} (h : l.length ≤ i + 1) : Lib.occAt (mk l) [58, 32] i = false := by
  cases h' : Lib.occAt (mk l) [58, 32] i with
  | false => rfl
  | true =>
    rcases Lib.occAt_room h' with h2 | h2
    · rw [mk, mkf_len] at h2; simp at h2; omega
    · cases h2
theorem occ_inv {l : List UInt8} {i : Nat} (h : Lib.occAt (mk l) [58, 32] i = true) : i + 1 < l.length ∧ st false (l.take (i + 1)) = false ∧ (∃ c, l[i]? = some c ∧ c.toNat = 58) ∧ ∃ d, l[i + 1]? = some d ∧ d.toNat = 32 := by
  rcases Nat.lt_or_ge (i + 1) l.length with hl | hl
  · have hc := List.getElem?_eq_getElem (show i < l.length by omega)
    have hd := List.getElem?_eq_getElem hl
    have key : ¬ (st false (l.take (i + 1)) = true ∨ l[i].toNat ≠ 58 ∨ l[i + 1].toNat ≠ 32) := fun hn => by
      rw [occ_no hc hd hn] at h
      cases h
    refine ⟨hl, ?_, ⟨_, hc, ?_⟩, _, hd, ?_⟩
    · cases hs : st false (l.take (i + 1)) with
      | false => rfl
      | true => exact absurd (.inl hs) key
    · exact Decidable.byContradiction fun h => key (.inr (.inl h))
    · exact Decidable.byContradiction fun h => key (.inr (.inr h))
  · rw [occ_end hl] at h; cases h
theorem index_some {m s : List UInt8} : ∀ {p : Nat}, Lib.index m s = (p : Int) → Lib.occAt m s p = true := by
  induction m with
  | nil =>
    intro p h
    unfold Lib.index at h
    by_cases hs : s.isEmpty = true
    · have : s = [] := by simpa using hs
      subst this
      rfl
    · rw [if_neg hs] at h; omega
  | cons b l ih =>
    intro p h
    unfold Lib.index at h
    by_cases h0 : s.isPrefixOf (b :: l) = true
    · rw [if_pos h0] at h
      have : p = 0 := by omega
      subst this
      exact h0
    · rw [if_neg h0] at h
      by_cases h1 : (Lib.index l s == -1) = true
      · rw [if_pos h1] at h; omega
      · rw [if_neg h1] at h
        have hge := Lib.index_ge l s
        have h1' : Lib.index l s ≠ -1 := by simpa using h1
        obtain ⟨q, hq⟩ : ∃ q : Nat, Lib.index l s = (q : Int) := ⟨(Lib.index l s).toNat, by omega⟩
        have := ih hq
        have e : p = q + 1 := by omega
        subst e
        exact this
theorem sub_ge (l : List UInt8) : -1 ≤ sub l := Lib.index_ge _ _
theorem sub_lt {l : List UInt8} {p : Nat} (h : sub l = (p : Int)) : p + 1 < l.length := (occ_inv (index_some h)).1

theorem dbl_left : ∀ (p : Bool) (a b : List UInt8), dbl p (a ++ b) = false → dbl p a = false
  | _, [], _, _ => rfl
  | p, c :: r, b, h => by
    unfold dbl at h ⊢
    rw [List.cons_append] at h
    simp only [Bool.or_eq_false_iff] at h ⊢
    exact ⟨h.1, dbl_left _ r b h.2⟩
theorem dbl_mono (p : Bool) (l : List UInt8) (h : dbl p l = false) : dbl false l = false := by
  cases l with
  | nil => rfl
  | cons c r =>
    unfold dbl at h ⊢
    simp only [Bool.or_eq_false_iff] at h ⊢
    exact ⟨rfl, h.2⟩
theorem dbl_drop : ∀ (n : Nat) (p : Bool) (l : List UInt8), dbl p l = false → dbl false (l.drop n) = false
  | 0, p, l, h => dbl_mono p l h
  | n + 1, _, [], _ => rfl
  | n + 1, p, c :: r, h => by
    unfold dbl at h
    simp only [Bool.or_eq_false_iff] at h
    exact dbl_drop n _ r h.2
/-- the state of the braces behind a list, if none is wrong -/
def bz : List UInt8 → Nat → Int → Option Int
  | [], _, z => some z
  | c :: r, i, z =>
    if c.toNat = 123 then (if 0 ≤ z then none else bz r (i + 1) i)
    else if c.toNat = 125 then (if z < 0 ∨ z = (i : Int) - 1 then none else bz r (i + 1) (-1))
    else bz r (i + 1) z
theorem br_cons (c : UInt8) (r : List UInt8) (i : Nat) (z : Int) : br (c :: r) i z = if c.toNat = 123 then (if 0 ≤ z then false else br r (i + 1) i)
    else if c.toNat = 125 then (if z < 0 ∨ z = (i : Int) - 1 then false else br r (i + 1) (-1))
    else br r (i + 1) z := rfl
theorem bz_cons (c : UInt8) (r : List UInt8) (i : Nat) (z : Int) : bz (c :: r) i z = if c.toNat = 123 then (if 0 ≤ z then none else bz r (i + 1) i)
    else if c.toNat = 125 then (if z < 0 ∨ z = (i : Int) - 1 then none else bz r (i + 1) (-1))
    else bz r (i + 1) z := rfl
theorem br_app : ∀ (a b : List UInt8) (i : Nat) (z : Int), br (a ++ b) i z = (match bz a i z with | none => false | some z' => br b (i + a.length) z')
  | [], _, _, _ => rfl
  | c :: r, b, i, z => by
    have e : i + (c :: r).length = i + 1 + r.length := by simp; omega
    rw [List.cons_append, br_cons, bz_cons, br_app r b, br_app r b, br_app r b, e]
    by_cases h1 : c.toNat = 123
    · simp only [h1, if_true]
      by_cases h2 : 0 ≤ z
      · simp [h2]
      · simp [h2]
    · simp only [h1, if_false]
      by_cases h3 : c.toNat = 125
      · simp only [h3, if_true]
        by_cases h4 : z < 0 ∨ z = (i : Int) - 1
        · simp [h4]
        · simp [h4]
      · simp [h3]
theorem bz_st : ∀ (a : List UInt8) (i : Nat) (z z' : Int), (z = -1 ∨ 0 ≤ z) → bz a i z = some z' → (z' = -1 ∨ 0 ≤ z') ∧ (st (decide (0 ≤ z)) a = decide (0 ≤ z'))
  | [], _, z, z', hz, h => by
    unfold bz at h
    cases h
    exact ⟨hz, rfl⟩
  | c :: r, i, z, z', hz, h => by
    unfold bz at h
    show _ ∧ st (stp (decide (0 ≤ z)) c) r = _
    by_cases h1 : c.toNat = 123
    · rw [if_pos h1] at h
      by_cases h2 : 0 ≤ z
      · rw [if_pos h2] at h; cases h
      · rw [if_neg h2] at h
        have := bz_st r (i + 1) i z' (.inr (by omega)) h
        rw [stp_open h1]
        rwa [show decide (0 ≤ (i : Int)) = true by simp] at this
    · rw [if_neg h1] at h
      by_cases h3 : c.toNat = 125
      · rw [if_pos h3] at h
        by_cases h4 : z < 0 ∨ z = (i : Int) - 1
        · rw [if_pos h4] at h; cases h
        · rw [if_neg h4] at h
          have := bz_st r (i + 1) (-1) z' (.inl rfl) h
          rw [stp_shut h3]
          exact this
      · rw [if_neg h3] at h
        rw [stp_else h1 h3]
        exact bz_st r (i + 1) z z' hz h
theorem br_shift : ∀ (r : List UInt8) (i d : Nat) (z : Int), (br r (i + d) (-1) = br r i (-1)) ∧ (0 ≤ z → br r (i + d) (z + d) = br r i z)
  | [], i, d, z => ⟨rfl, fun h => by unfold br; simp; omega⟩
  | c :: r, i, d, z => by
    have ih := fun z => br_shift r (i + 1) d z
    have e : i + d + 1 = i + 1 + d := by omega
    rw [br_cons, br_cons, br_cons, br_cons]
    by_cases h1 : c.toNat = 123
    · simp only [h1, if_true]
      refine ⟨?_, fun h => ?_⟩
      · rw [if_neg (by decide), if_neg (by decide), e]
        have := (ih (i : Int)).2 (by omega)
        rw [← this]
        congr 1
      · rw [if_pos (by omega), if_pos h]
    · simp only [h1, if_false]
      by_cases h3 : c.toNat = 125
      · simp only [h3, if_true]
        refine ⟨?_, fun h => ?_⟩
        · rw [if_pos (.inl (by decide)), if_pos (.inl (by decide))]
        · by_cases h4 : z = (i : Int) - 1
          · rw [if_pos (.inr (by omega)), if_pos (.inr h4)]
          · rw [if_neg (by omega), if_neg (by omega), e]
            exact (ih 0).1
      · simp only [h3, if_false]
        refine ⟨?_, fun h => ?_⟩
        · rw [e]; exact (ih 0).1
        · rw [e]; exact (ih z).2 h
/-- a title cut at a place that is not protected -/
theorem br_cut {l : List UInt8} {p : Nat} (hp : p ≤ l.length) (h : br l 0 (-1) = true) (hs : st false (l.take p) = false) : br (l.take p) 0 (-1) = true ∧ br (l.drop p) p (-1) = true := by
  have e : l = l.take p ++ l.drop p := (List.take_append_drop p l).symm
  have h1 := br_app (l.take p) (l.drop p) 0 (-1)
  rw [← e, h] at h1
  have h2 := br_app (l.take p) [] 0 (-1)
  rw [List.append_nil] at h2
  cases hb : bz (l.take p) 0 (-1) with
  | none => rw [hb] at h1; cases h1
  | some z' =>
    rw [hb] at h1 h2
    obtain ⟨h3, h4⟩ := bz_st (l.take p) 0 (-1) z' (.inl rfl) hb
    rw [show decide (0 ≤ (-1 : Int)) = false by decide, hs] at h4
    have hz : z' = -1 := by
      rcases h3 with h3 | h3
      · exact h3
      · simp [h3] at h4
    subst hz
    have hl : (l.take p).length = p := by rw [List.length_take]; omega
    simp only [hl, Nat.zero_add] at h1
    exact ⟨by rw [h2]; rfl, h1.symm⟩
/-- not empty, and no space at its ends -/
def part (l : List UInt8) : Bool := decide (1 ≤ l.length) && edg l
theorem okT_parts {l : List UInt8} (h : okT l = true) : l.all prC = true ∧ dbl false l = false ∧ br l 0 (-1) = true ∧ l.length ≤ 100 := by
  have h1 := okT_gd h
  rw [gd_eq] at h1
  simp only [Bool.and_eq_true, Bool.not_eq_true'] at h1
  exact ⟨h1.1, h1.2.1, h1.2.2, (okT_size h).2⟩
theorem okT_of {l : List UInt8} (h1 : l.all prC = true) (h2 : dbl false l = false) (h3 : br l 0 (-1) = true) (h4 : l.length ≤ 100) : okT l = part l := by
  unfold okT part
  rw [gd_eq, h1, h2, h3]
  by_cases h : 1 ≤ l.length
  · rw [decide_eq_true (show 1 ≤ l.length ∧ l.length ≤ 100 from ⟨h, h4⟩), decide_eq_true h]; simp
  · rw [decide_eq_false (fun h' => h h'.1), decide_eq_false h]; simp
/-- the two parts of a title, where it has a subtitle's mark -/
theorem sub_parts {l : List UInt8} {p : Nat} (h : okT l = true) (hp : sub l = (p : Int)) : okT (l.take p) = part (l.take p) ∧ okT (l.drop (p + 2)) = part (l.drop (p + 2)) := by
  obtain ⟨h1, h2, h3, h4⟩ := okT_parts h
  obtain ⟨g1, g2, ⟨c, gc, c58⟩, d, gd', d32⟩ := occ_inv (index_some hp)
  have hs : st false (l.take p) = false := by
    rw [List.take_add_one, gc] at g2
    have : st false (l.take p ++ [c]) = false := g2
    rwa [st_snoc, stp_else (by omega) (by omega)] at this
  obtain ⟨b1, b2⟩ := br_cut (by omega) h3 hs
  have all_sub : ∀ m : List UInt8, (∀ x ∈ m, x ∈ l) → m.all prC = true := fun m hm => List.all_eq_true.2 fun x hx => List.all_eq_true.1 h1 x (hm x hx)
  refine ⟨okT_of (all_sub _ fun x hx => List.mem_of_mem_take hx) ?_ b1 (by rw [List.length_take]; omega), okT_of (all_sub _ fun x hx => List.mem_of_mem_drop hx) (dbl_drop _ _ _ h2) ?_ (by rw [List.length_drop]; omega)⟩
  · exact dbl_left false (l.take p) (l.drop p) (by rw [List.take_append_drop]; exact h2)
  · obtain ⟨hc1, hc2⟩ := List.getElem?_eq_some_iff.1 gc
    obtain ⟨hd1, hd2⟩ := List.getElem?_eq_some_iff.1 gd'
    rw [List.drop_eq_getElem_cons hc1, List.drop_eq_getElem_cons hd1, hc2, hd2] at b2
    rw [br_cons, if_neg (by omega), if_neg (by omega), br_cons, if_neg (by omega), if_neg (by omega)] at b2
    rw [← (br_shift (l.drop (p + 2)) 0 (p + 2) 0).1, Nat.zero_add]
    exact b2
end Go.Proofs.YtobjfmchnlnohaaGreatDoor.TiPl
