/-
  Plain mathematics of chapter 12: depths of pairs; the text in which the paired marks are others. Nothing of the program is named here.
-/
import Derived.Test.YtljbbmefemfjpaaQtPl
namespace Go.Proofs.Ytljbbmefemfjpaa.QtPl
open NmPl

/-- the depth of a pair, from the pairs -/
def dp (P : List (Nat × Nat)) (x : Nat × Nat) : Nat := 1 + (P.filter fun o => decide (o.1 < x.1) && decide (x.2 < o.2)).length
/-- the depth of the pair that begins at a place, from the partners -/
def dm (M : List Int) (a : Nat) (b : Int) : Nat := ((M.take (a + 1)).filter fun m => decide (b ≤ m)).length
theorem cnt (b : Nat) : ∀ (L : List Int) (o : Nat), o + L.length ≤ b → (∀ m ∈ L, m ≠ (b : Int)) → ((prsF o L).filter (fun x => decide (b < x.2))).length = (L.filter fun m => decide ((b : Int) ≤ m)).length
  | [], _, _, _ => rfl
  | m :: r, o, hl, hne => by
    have ih := cnt b r (o + 1) (by simp at hl; omega) (fun x hx => hne x (List.mem_cons_of_mem _ hx))
    have h1 := hne m (List.mem_cons_self)
    have hl' : o + (r.length + 1) ≤ b := by simpa using hl
    rw [prsF]
    by_cases h : (o : Int) < m
    · rw [if_pos h, List.filter_cons, List.filter_cons]
      by_cases h2 : (b : Int) ≤ m
      · have : b < m.toNat := by omega
        simp [h2, this, ih]
      · have : ¬ b < m.toNat := by omega
        simp [h2, this, ih]
    · rw [if_neg h, List.filter_cons]
      have h2 : ¬ (b : Int) ≤ m := by omega
      simp [h2, ih]
theorem dm_dp {s : ByteArray} {k : Nat} {q : Qs} (h : QInv s k q) {x : Nat × Nat} (hx : x ∈ prs q.M) : dm q.M x.1 (x.2 : Int) = dp (prs q.M) x := by
  obtain ⟨h1, h2, h3, h4, _, _⟩ := prs_bd h hx
  have ha := lt_of_some h3
  have hne : ∀ m ∈ q.M.take x.1, m ≠ (x.2 : Int) := by
    intro m hm he
    obtain ⟨i, hi⟩ := List.getElem?_of_mem hm
    have hil := (List.getElem?_eq_some_iff.1 hi).1
    rw [List.length_take] at hil
    rw [List.getElem?_take, if_pos (by omega)] at hi
    rw [he] at hi
    rcases h.low i _ hi with h9 | ⟨j, e, _, _, e3, _⟩
    · omega
    · obtain rfl : x.2 = j := by omega
      rw [h4] at e3
      cases e3
      omega
  have hT : q.M.take (x.1 + 1) = q.M.take x.1 ++ [(x.2 : Int)] := by rw [List.take_add_one, h3]; rfl
  have hc := cnt x.2 (q.M.take x.1) 0 (by rw [List.length_take]; omega) hne
  have hsp := prs_split h3
  have hone : prsF x.1 [(x.2 : Int)] = [x] := by unfold prsF; rw [if_pos (by omega)]; simp [prsF]
  have e1 : ((prsF 0 (q.M.take x.1)).filter fun o => decide (o.1 < x.1) && decide (x.2 < o.2)) = (prsF 0 (q.M.take x.1)).filter fun o => decide (x.2 < o.2) := by
    apply List.filter_congr
    intro o ho
    obtain ⟨i, e, hi, _⟩ := prsF_mem.1 ho
    have := lt_of_some hi
    rw [List.length_take] at this
    rw [decide_eq_true (by omega), Bool.true_and]
  have e2 : ((prsF (x.1 + 1) (q.M.drop (x.1 + 1))).filter fun o => decide (o.1 < x.1) && decide (x.2 < o.2)) = [] := by
    rw [List.filter_eq_nil_iff]
    intro o ho
    obtain ⟨i, e, _⟩ := prsF_mem.1 ho
    simp
    omega
  unfold dm dp
  rw [hT, hsp, hone, List.filter_append, List.filter_append, List.filter_append, e1, e2, List.length_append, List.length_append, List.length_append, hc]
  simp
  omega
theorem dp_take {P : List (Nat × Nat)} {x y : Nat × Nat} {k : Nat} (h : P[k]? = some y) : ((P.take (k + 1)).filter fun o => decide (o.1 < x.1) && decide (x.2 < o.2)).length = ((P.take k).filter fun o => decide (o.1 < x.1) && decide (x.2 < o.2)).length + if (decide (y.1 < x.1) && decide (x.2 < y.2)) = true then 1 else 0 := by
  rw [List.take_add_one, h, List.filter_append, List.length_append]
  simp only [Option.toList, List.filter_cons, List.filter_nil]
  split <;> simp
theorem dp_le (P : List (Nat × Nat)) (x : Nat × Nat) : dp P x ≤ 1 + P.length := by
  unfold dp
  have := List.length_filter_le (fun o : Nat × Nat => decide (o.1 < x.1) && decide (x.2 < o.2)) P
  omega
theorem dm_take {M : List Int} {k : Nat} {m b : Int} (h : M[k]? = some m) : ((M.take (k + 1)).filter fun m => decide (b ≤ m)).length = ((M.take k).filter fun m => decide (b ≤ m)).length + if b ≤ m then 1 else 0 := by
  rw [List.take_add_one, h, List.filter_append, List.length_append]
  simp only [Option.toList, List.filter_cons, List.filter_nil]
  by_cases h2 : b ≤ m <;> simp [h2]

/-- the byte at a place where the marks of the pair that begins at a are f a -/
def rmB (s : ByteArray) (M : List Int) (f : Nat → UInt8) (i : Nat) : UInt8 := match M[i]? with
  | some m => if 0 ≤ m then f (min i m.toNat) else bt s i
  | none => bt s i
/-- the text in which the marks of the pair that begins at a are f a -/
def rmk (s : ByteArray) (M : List Int) (f : Nat → UInt8) : List UInt8 := (List.range s.size).map (rmB s M f)
theorem rmk_len (s : ByteArray) (M : List Int) (f : Nat → UInt8) : (rmk s M f).length = s.size := by simp [rmk]
theorem rmk_at {s : ByteArray} {M : List Int} {f : Nat → UInt8} {i : Nat} (h : i < s.size) : (rmk s M f)[i]? = some (rmB s M f i) := by
  unfold rmk
  rw [List.getElem?_map, List.getElem?_range h]
  rfl
/-- one pair changed -/
def st2 (f : Nat → UInt8) (l : List UInt8) (x : Nat × Nat) : List UInt8 := (l.set x.1 (f x.1)).set x.2 (f x.1)
theorem st2_len (f : Nat → UInt8) (l : List UInt8) (x : Nat × Nat) : (st2 f l x).length = l.length := by simp [st2]
theorem fold_len (f : Nat → UInt8) (Q : List (Nat × Nat)) (l : List UInt8) : (Q.foldl (st2 f) l).length = l.length := by
  induction Q generalizing l with
  | nil => rfl
  | cons x r ih => rw [List.foldl_cons, ih, st2_len]
theorem fold_take {Q : List (Nat × Nat)} {k : Nat} {x : Nat × Nat} (f : Nat → UInt8) (l : List UInt8) (h : Q[k]? = some x) : (Q.take (k + 1)).foldl (st2 f) l = st2 f ((Q.take k).foldl (st2 f) l) x := by
  rw [List.take_add_one, h, List.foldl_append]
  rfl
theorem bt_list {s : ByteArray} {i : Nat} (h : i < s.size) : s.data.toList[i]? = some (bt s i) := by
  rw [bt_eq h]
  have : i < s.data.toList.length := by rw [Array.length_toList]; exact h
  rw [List.getElem?_eq_getElem this]
  rfl
theorem snoc_ind {α : Type} {C : List α → Prop} (h0 : C []) (h1 : ∀ l x, C l → C (l ++ [x])) (l : List α) : C l := by
  have key : ∀ (n : Nat) (l : List α), l.length = n → C l := by
    intro n
    induction n with
    | zero => intro l hl; rw [List.eq_nil_of_length_eq_zero hl]; exact h0
    | succ n ih =>
      intro l hl
      rcases List.eq_nil_or_concat l with rfl | ⟨r, b, rfl⟩
      · cases hl
      · rw [List.concat_eq_append] at hl ⊢
        exact h1 r b (ih r (by simpa using hl))
  exact key l.length l rfl
theorem fold_at {s : ByteArray} {q : Qs} (h : QInv s s.size q) (f : Nat → UInt8) {i : Nat} (hi : i < s.size) :
    ∀ (Q : List (Nat × Nat)), (∀ x ∈ Q, x ∈ prs q.M) → (Q.foldl (st2 f) s.data.toList)[i]? = some (if ∃ x ∈ Q, i = x.1 ∨ i = x.2 then rmB s q.M f i else bt s i) := by
  intro Q
  refine snoc_ind (C := fun Q => (∀ x ∈ Q, x ∈ prs q.M) → (Q.foldl (st2 f) s.data.toList)[i]? = some (if ∃ x ∈ Q, i = x.1 ∨ i = x.2 then rmB s q.M f i else bt s i)) ?_ ?_ Q
  · intro _
    rw [if_neg (by rintro ⟨x, hx, _⟩; cases hx)]
    exact bt_list hi
  · intro Q x ih hQ
    have ih' := ih (fun y hy => hQ y (List.mem_append_left _ hy))
    obtain ⟨h1, h2, h3, h4, _, _⟩ := prs_bd h (hQ x (List.mem_append_right _ (List.mem_singleton.2 rfl)))
    rw [List.foldl_append]
    have hl : (Q.foldl (st2 f) s.data.toList).length = s.size := by rw [fold_len, Array.length_toList]; rfl
    show (st2 f (Q.foldl (st2 f) s.data.toList) x)[i]? = _
    generalize Q.foldl (st2 f) s.data.toList = l0 at hl ih' ⊢
    unfold st2
    by_cases e2 : i = x.2
    · rw [if_pos ⟨x, List.mem_append_right _ (List.mem_singleton.2 rfl), .inr e2⟩]
      subst e2
      rw [List.getElem?_set, if_pos rfl, List.length_set, if_pos (by omega)]
      unfold rmB
      rw [h4]
      dsimp only
      rw [if_pos (Int.natCast_nonneg _), Int.toNat_natCast, Nat.min_eq_right (by omega)]
    · by_cases e1 : i = x.1
      · rw [if_pos ⟨x, List.mem_append_right _ (List.mem_singleton.2 rfl), .inl e1⟩]
        subst e1
        rw [List.getElem?_set, if_neg (by omega), List.getElem?_set, if_pos rfl, if_pos (by omega)]
        unfold rmB
        rw [h3]
        dsimp only
        rw [if_pos (Int.natCast_nonneg _), Int.toNat_natCast, Nat.min_eq_left (by omega)]
      · rw [List.getElem?_set, if_neg (by omega), List.getElem?_set, if_neg (by omega), ih']
        congr 1
        have : (∃ y ∈ Q ++ [x], i = y.1 ∨ i = y.2) ↔ ∃ y ∈ Q, i = y.1 ∨ i = y.2 := by
          constructor
          · rintro ⟨y, hy, hi'⟩
            rcases List.mem_append.1 hy with hy | hy
            · exact ⟨y, hy, hi'⟩
            · obtain rfl := List.mem_singleton.1 hy
              rcases hi' with h9 | h9
              · exact absurd h9 e1
              · exact absurd h9 e2
          · rintro ⟨y, hy, hi'⟩
            exact ⟨y, List.mem_append_left _ hy, hi'⟩
        by_cases h9 : ∃ y ∈ Q, i = y.1 ∨ i = y.2
        · rw [if_pos h9, if_pos (this.2 h9)]
        · rw [if_neg h9, if_neg (fun h8 => h9 (this.1 h8))]
theorem fold_all {s : ByteArray} {q : Qs} (h : QInv s s.size q) (f : Nat → UInt8) : (prs q.M).foldl (st2 f) s.data.toList = rmk s q.M f := by
  apply List.ext_getElem?
  intro i
  rcases Nat.lt_or_ge i s.size with hi | hi
  · rw [fold_at h f hi _ (fun x hx => hx), rmk_at hi]
    by_cases h9 : ∃ x ∈ prs q.M, i = x.1 ∨ i = x.2
    · rw [if_pos h9]
    · rw [if_neg h9]
      congr 1
      unfold rmB
      have hil : i < q.M.length := by rw [h.len]; exact hi
      have hm := List.getElem?_eq_getElem hil
      rw [hm]
      dsimp only
      rcases h.low i _ hm with h0 | ⟨j, e, h1, h2, h3, _, _⟩
      · rw [if_neg (by omega)]
      · exfalso
        apply h9
        rcases Nat.lt_or_gt_of_ne h1 with h4 | h4
        · exact ⟨(j, i), prs_mem.2 ⟨h3, h4⟩, .inr rfl⟩
        · exact ⟨(i, j), prs_mem.2 ⟨by rw [hm, e], h4⟩, .inl rfl⟩
  · rw [List.getElem?_eq_none (by rw [fold_len, Array.length_toList]; exact hi), List.getElem?_eq_none (by rw [rmk_len]; exact hi)]
/-- the row when k bytes are done -/
theorem row_step {s : ByteArray} {M : List Int} {f : Nat → UInt8} {k : Nat} (h : k < s.size) : ((rmk s M f).take k ++ s.data.toList.drop k).set k (rmB s M f k) = (rmk s M f).take (k + 1) ++ s.data.toList.drop (k + 1) := by
  have hl : ((rmk s M f).take k).length = k := by rw [List.length_take, rmk_len]; omega
  have hk : k < s.data.toList.length := by rw [Array.length_toList]; exact h
  rw [List.set_append_right _ _ (by omega), hl, Nat.sub_self, List.drop_eq_getElem_cons hk, List.take_add_one, rmk_at h]
  simp
theorem row_same {s : ByteArray} {M : List Int} {f : Nat → UInt8} {k : Nat} (h : k < s.size) (hb : rmB s M f k = bt s k) : (rmk s M f).take k ++ s.data.toList.drop k = (rmk s M f).take (k + 1) ++ s.data.toList.drop (k + 1) := by
  have hk : k < s.data.toList.length := by rw [Array.length_toList]; exact h
  have := bt_list h
  rw [List.getElem?_eq_getElem hk] at this
  rw [List.drop_eq_getElem_cons hk, List.take_add_one, rmk_at h, hb]
  simp at this ⊢
  exact this
theorem row_len {s : ByteArray} {M : List Int} {f : Nat → UInt8} {k : Nat} (h : k ≤ s.size) : ((rmk s M f).take k ++ s.data.toList.drop k).length = s.size := by
  have : s.data.toList.length = s.size := by rw [Array.length_toList]; rfl
  rw [List.length_append, List.length_take, rmk_len, List.length_drop, this]
  omega
/-- the other mark -/
def oth (s : ByteArray) (a : Nat) : UInt8 := if bt s a = 34 then 39 else 34
/-- the mark of a depth -/
def alt (M : List Int) (a : Nat) : UInt8 := if dm M a (M.getD a 0) % 2 = 0 then 39 else 34
theorem low_byte {s : ByteArray} {k : Nat} {q : Qs} (h : QInv s k q) {i : Nat} {m : Int} (hm : q.M[i]? = some m) (h0 : 0 ≤ m) : rmB s q.M (oth s) i = 73 - bt s i ∧ (bt s i = 34 ∨ bt s i = 39) := by
  rcases h.low i m hm with h9 | ⟨j, rfl, h1, h2, h3, h4, h5⟩
  · omega
  · have hb := mk_byte h5
    refine ⟨?_, hb⟩
    unfold rmB
    rw [hm]
    dsimp only
    rw [if_pos h0, Int.toNat_natCast]
    have e : bt s (min i j) = bt s i := by
      rcases Nat.le_total i j with h9 | h9
      · rw [Nat.min_eq_left h9]
      · rw [Nat.min_eq_right h9]; exact h4.symm
    unfold oth
    rw [e]
    rcases hb with h8 | h8 <;> rw [h8] <;> decide
end Go.Proofs.Ytljbbmefemfjpaa.QtPl
