/-
  Plain mathematics of merging ranges of pages: the order, the shortest list, that it is one and the same for all orders. Nothing of the program is named here.
-/
import Derived.Test.YtocgpoafhocbbaaDoorPgPl
import Derived.Test.YtocgpoafhocbbaaDoorPgHit
namespace Go.Proofs.YtocgpoafhocbbaaDoor.PgMe
open PgPl NmPl PgHit

/-- the letter's place -/
def lk (l : ByteArray) : Nat := match l.data.toList with
  | [] => 0
  | c :: _ => c.toNat + 1
theorem lk_inj {l m : ByteArray} (h : lB l = true) (h' : lB m = true) (e : lk l = lk m) : l = m := by
  obtain ⟨⟨l⟩⟩ := l
  obtain ⟨⟨m⟩⟩ := m
  unfold lB at h h'
  unfold lk at e
  dsimp only at h h' e
  match l, m, h, h', e with
  | [], [], _, _, _ => rfl
  | [], [c], _, _, e => exact absurd e (by simp)
  | [c], [], _, _, e => exact absurd e (by simp)
  | [c], [d], _, _, e =>
    have : c = d := UInt8.toNat_inj.1 (by simp at e; omega)
    rw [this]
theorem lk_le {l : ByteArray} : lk l ≤ 256 := by
  unfold lk
  split
  · omega
  · rename_i c r e
    have := c.toNat_lt
    omega
/-- the range's place -/
def K (x : Pr) : Nat := lk x.l * 1000000 + x.f.toNat
def Le (x y : Pr) : Prop := K x ≤ K y
/-- no page lies between -/
def cont (y x : Pr) : Bool := decide (x.l = y.l) && decide (x.f ≤ y.t + 1)
theorem K_le {x y : Pr} (hx : x.ok = true) (hy : y.ok = true) : K x ≤ K y ↔ (lk x.l < lk y.l ∨ (x.l = y.l ∧ x.f ≤ y.f)) := by
  obtain ⟨a0, a1, a2, a3⟩ := okR_yes hx
  obtain ⟨b0, b1, b2, b3⟩ := okR_yes hy
  unfold K
  constructor
  · intro h
    rcases Nat.lt_trichotomy (lk x.l) (lk y.l) with h1 | h1 | h1
    · exact .inl h1
    · exact .inr ⟨lk_inj a0 b0 h1, by rw [h1] at h; omega⟩
    · exfalso
      have : (lk y.l + 1) * 1000000 ≤ lk x.l * 1000000 := Nat.mul_le_mul_right _ h1
      omega
  · rintro (h | ⟨h, h2⟩)
    · have : (lk x.l + 1) * 1000000 ≤ lk y.l * 1000000 := Nat.mul_le_mul_right _ h
      omega
    · rw [h]; omega
theorem K_lt {x y : Pr} (hx : x.ok = true) (hy : y.ok = true) : K x < K y ↔ (lk x.l < lk y.l ∨ (x.l = y.l ∧ x.f < y.f)) := by
  have h1 := K_le hy hx
  rcases Nat.lt_trichotomy (lk x.l) (lk y.l) with h | h | h
  · constructor
    · intro _; exact .inl h
    · intro _
      refine Nat.lt_of_not_le fun h2 => ?_
      rcases h1.1 h2 with h3 | ⟨h3, _⟩
      · omega
      · rw [h3] at h; omega
  · have e := lk_inj (okR_yes hx).1 (okR_yes hy).1 h
    constructor
    · intro h2
      refine .inr ⟨e, ?_⟩
      refine Classical.byContradiction fun h3 => ?_
      have := h1.2 (.inr ⟨e.symm, by omega⟩)
      omega
    · rintro (h2 | ⟨_, h2⟩)
      · omega
      · refine Nat.lt_of_not_le fun h3 => ?_
        rcases h1.1 h3 with h4 | ⟨_, h4⟩ <;> omega
  · constructor
    · intro h2
      have := h1.2 (.inl h)
      omega
    · rintro (h2 | ⟨h2, _⟩)
      · omega
      · rw [h2] at h; omega
def Gap (x y : Pr) : Prop := lk x.l < lk y.l ∨ (x.l = y.l ∧ x.t + 1 < y.f)
theorem Gap.trans {x y z : Pr} (hy : y.ok = true) (h : Gap x y) (h' : Gap y z) : Gap x z := by
  obtain ⟨_, b1, b2, b3⟩ := okR_yes hy
  rcases h with h | ⟨h, h2⟩ <;> rcases h' with h' | ⟨h', h2'⟩
  · exact .inl (by omega)
  · exact .inl (by rw [← h']; exact h)
  · exact .inl (by rw [h]; exact h')
  · exact .inr ⟨h.trans h', by omega⟩
/-- one more range -/
def mg (out : List Pr) (x : Pr) : List Pr := match out.getLast? with
  | none => [x]
  | some y => if cont y x then out.dropLast ++ [⟨y.l, y.f, max y.t x.t⟩] else out ++ [x]
theorem mg_nil (x : Pr) : mg [] x = [x] := rfl
theorem mg_snoc (m : List Pr) (y x : Pr) : mg (m ++ [y]) x = if cont y x then m ++ [⟨y.l, y.f, max y.t x.t⟩] else (m ++ [y]) ++ [x] := by
  unfold mg
  rw [List.getLast?_append]
  simp
def merge (S : List Pr) : List Pr := S.foldl mg []
theorem merge_snoc (S : List Pr) (x : Pr) : merge (S ++ [x]) = mg (merge S) x := by simp [merge]
/-- what the list is, as long as ranges come -/
structure Inv (M : List Pr) (x : Pr) : Prop where
  ok : ∀ y ∈ M, y.ok = true
  gap : M.Pairwise Gap
  le : ∀ y ∈ M, K y ≤ K x
theorem snoc_cases (M : List Pr) : M = [] ∨ ∃ m y, M = m ++ [y] := by
  rcases List.eq_nil_or_concat M with h | ⟨m, y, h⟩
  · exact .inl h
  · exact .inr ⟨m, y, by simpa using h⟩
theorem hit_cont {l : ByteArray} {p : Int} {x y : Pr} (hx : x.ok = true) (hy : y.ok = true) (hl : K y ≤ K x) (hc : cont y x = true) : hit l p ⟨y.l, y.f, max y.t x.t⟩ = (hit l p y || hit l p x) := by
  unfold cont at hc
  rw [Bool.and_eq_true, decide_eq_true_eq, decide_eq_true_eq] at hc
  obtain ⟨_, a1, a2, a3⟩ := okR_yes hx
  obtain ⟨_, b1, b2, b3⟩ := okR_yes hy
  have hf : y.f ≤ x.f := by
    rcases (K_le hy hx).1 hl with h | ⟨_, h⟩
    · rw [hc.1] at h; omega
    · exact h
  unfold hit
  rw [hc.1]
  by_cases e : y.l = l
  · rw [decide_eq_true e]
    simp only [Bool.true_and]
    rw [Bool.eq_iff_iff, Bool.or_eq_true, decide_eq_true_iff, decide_eq_true_iff, decide_eq_true_iff]
    omega
  · rw [decide_eq_false e]; rfl
theorem mg_step {M : List Pr} {x : Pr} (h : Inv M x) (hx : x.ok = true) : (∀ y ∈ mg M x, y.ok = true) ∧ (mg M x).Pairwise Gap ∧ (∀ y ∈ mg M x, K y ≤ K x) ∧ (∀ l p, hits l p (mg M x) = (hits l p M || hit l p x)) ∧ (mg M x).length ≤ M.length + 1 := by
  rcases snoc_cases M with rfl | ⟨m, y, rfl⟩
  · rw [mg_nil]
    exact ⟨fun y hy => by rw [List.mem_singleton.1 hy]; exact hx, List.pairwise_singleton _ _, fun y hy => by rw [List.mem_singleton.1 hy]; exact Nat.le_refl _, fun l p => by simp [hits], by simp⟩
  · have hy := h.ok y (by simp)
    have hyx := h.le y (by simp)
    obtain ⟨g1, -, g2⟩ := List.pairwise_append.1 h.gap
    have g3 : ∀ z ∈ m, Gap z y := fun z hz => g2 z hz y (by simp)
    rw [mg_snoc]
    split
    · rename_i hc
      obtain ⟨_, a1, a2, a3⟩ := okR_yes hx
      obtain ⟨b0, b1, b2, b3⟩ := okR_yes hy
      have hy' : (⟨y.l, y.f, max y.t x.t⟩ : Pr).ok = true := by
        show (lB y.l && decide (1 ≤ y.f ∧ y.f ≤ max y.t x.t ∧ max y.t x.t ≤ 99999)) = true
        rw [Bool.and_eq_true, decide_eq_true_eq]
        exact ⟨b0, by omega, by omega, by omega⟩
      refine ⟨fun z hz => ?_, ?_, fun z hz => ?_, fun l p => ?_, by simp⟩
      · rcases List.mem_append.1 hz with hz | hz
        · exact h.ok z (List.mem_append_left _ hz)
        · rw [List.mem_singleton.1 hz]; exact hy'
      · refine List.pairwise_append.2 ⟨g1, List.pairwise_singleton _ _, fun z hz w hw => ?_⟩
        rw [List.mem_singleton.1 hw]
        exact g3 z hz
      · rcases List.mem_append.1 hz with hz | hz
        · exact h.le z (List.mem_append_left _ hz)
        · rw [List.mem_singleton.1 hz]; exact hyx
      · unfold hits
        rw [List.any_append, List.any_append]
        simp only [List.any_cons, List.any_nil, Bool.or_false]
        rw [hit_cont hx hy hyx hc, Bool.or_assoc]
    · rename_i hc
      have hg : Gap y x := by
        rcases (K_le hy hx).1 hyx with h1 | ⟨h1, h2⟩
        · exact .inl h1
        · refine .inr ⟨h1, ?_⟩
          refine Classical.byContradiction fun h3 => hc ?_
          unfold cont
          rw [Bool.and_eq_true, decide_eq_true_eq, decide_eq_true_eq]
          exact ⟨h1.symm, by omega⟩
      refine ⟨fun z hz => ?_, ?_, fun z hz => ?_, fun l p => ?_, by simp⟩
      · rcases List.mem_append.1 hz with hz | hz
        · exact h.ok z hz
        · rw [List.mem_singleton.1 hz]; exact hx
      · refine List.pairwise_append.2 ⟨h.gap, List.pairwise_singleton _ _, fun z hz w hw => ?_⟩
        rw [List.mem_singleton.1 hw]
        rcases List.mem_append.1 hz with hz | hz
        · exact (g3 z hz).trans hy hg
        · rw [List.mem_singleton.1 hz]; exact hg
      · rcases List.mem_append.1 hz with hz | hz
        · exact h.le z hz
        · rw [List.mem_singleton.1 hz]; exact Nat.le_refl _
      · unfold hits
        rw [List.any_append]
        simp
/-- only the last range can be continued -/
theorem nocont {m : List Pr} {y z x : Pr} (h : Inv (m ++ [y]) x) (hx : x.ok = true) (hz : z ∈ m) : cont z x = false := by
  have hy := h.ok y (by simp)
  have hzo := h.ok z (List.mem_append_left _ hz)
  have hyx := h.le y (by simp)
  obtain ⟨-, -, g2⟩ := List.pairwise_append.1 h.gap
  have g3 : Gap z y := g2 z hz y (by simp)
  cases hc : cont z x with
  | false => rfl
  | true =>
    exfalso
    unfold cont at hc
    rw [Bool.and_eq_true, decide_eq_true_eq, decide_eq_true_eq] at hc
    rcases (K_le hy hx).1 hyx with h1 | ⟨h1, h2⟩ <;> rcases g3 with g | ⟨g, g'⟩
    · rw [hc.1] at h1; omega
    · rw [hc.1, ← g] at h1; omega
    · rw [h1, hc.1] at g; omega
    · omega
theorem mg_all {M : List Pr} {x : Pr} (h : ∀ (q : Nat) (y : Pr), M[q]? = some y → cont y x = false) : mg M x = M ++ [x] := by
  rcases snoc_cases M with rfl | ⟨m, y, rfl⟩
  · rfl
  · rw [mg_snoc, h m.length y (by simp)]
    rfl
theorem mg_at {M : List Pr} {x y : Pr} {j : Nat} (h : Inv M x) (hx : x.ok = true) (hy : M[j]? = some y) (hc : cont y x = true) : j + 1 = M.length ∧ mg M x = M.set j ⟨y.l, y.f, max y.t x.t⟩ := by
  rcases snoc_cases M with rfl | ⟨m, z, rfl⟩
  · simp at hy
  · have hj : j < (m ++ [z]).length := (List.getElem?_eq_some_iff.1 hy).1
    rcases Nat.lt_or_ge j m.length with h1 | h1
    · rw [List.getElem?_append_left h1] at hy
      rw [nocont h hx (List.mem_of_getElem? hy)] at hc
      cases hc
    · obtain rfl : j = m.length := by simp at hj; omega
      simp at hy
      subst hy
      refine ⟨by simp, ?_⟩
      rw [mg_snoc, if_pos hc]
      simp
def Sorted (S : List Pr) : Prop := S.Pairwise Le
/-- the merged list -/
theorem merge_facts {S : List Pr} (hs : Sorted S) (hok : ∀ x ∈ S, x.ok = true) : (∀ y ∈ merge S, y.ok = true) ∧ (merge S).Pairwise Gap ∧ (∀ y ∈ merge S, ∃ x ∈ S, K y ≤ K x) ∧ (∀ l p, hits l p (merge S) = hits l p S) ∧ (merge S).length ≤ S.length := by
  induction hn : S.length generalizing S with
  | zero =>
    obtain rfl := List.eq_nil_of_length_eq_zero hn
    exact ⟨fun y hy => by simp [merge] at hy, List.Pairwise.nil, fun y hy => by simp [merge] at hy, fun l p => rfl, by simp [merge]⟩
  | succ n ih =>
    rcases snoc_cases S with rfl | ⟨T, x, rfl⟩
    · simp at hn
    · obtain ⟨s1, -, s2⟩ := List.pairwise_append.1 hs
      obtain ⟨i1, i2, i3, i4, i5⟩ := ih (S := T) s1 (fun z hz => hok z (List.mem_append_left _ hz)) (by simpa using hn)
      have hx := hok x (by simp)
      have hI : Inv (merge T) x := ⟨i1, i2, fun y hy => by
        obtain ⟨z, hz, hyz⟩ := i3 y hy
        exact Nat.le_trans hyz (s2 z hz x (by simp))⟩
      obtain ⟨j1, j2, j3, j4, j5⟩ := mg_step hI hx
      rw [merge_snoc]
      refine ⟨j1, j2, fun y hy => ⟨x, by simp, j3 y hy⟩, fun l p => ?_, ?_⟩
      · rw [j4, i4]
        unfold hits
        rw [List.any_append]
        simp
      · have : T.length = n := by simpa using hn
        omega
theorem merge_len {S : List Pr} (k : Nat) (hs : Sorted S) (hok : ∀ x ∈ S, x.ok = true) : (merge (S.take k)).length ≤ k :=
  Nat.le_trans (merge_facts (List.Pairwise.sublist (List.take_sublist k S) hs) (fun x hx => hok x (List.mem_of_mem_take hx))).2.2.2.2 (by rw [List.length_take]; omega)
/-- the invariant at each round -/
theorem inv_take {S : List Pr} {k : Nat} {x : Pr} (hs : Sorted S) (hok : ∀ x ∈ S, x.ok = true) (hx : S[k]? = some x) : Inv (merge (S.take k)) x := by
  obtain ⟨hk, e⟩ := List.getElem?_eq_some_iff.1 hx
  have e1 : S = S.take k ++ x :: S.drop (k + 1) := by
    conv => lhs; rw [← List.take_append_drop k S, List.drop_eq_getElem_cons hk, e]
  have hs' : Sorted (S.take k ++ x :: S.drop (k + 1)) := e1 ▸ hs
  obtain ⟨s1, -, s2⟩ := List.pairwise_append.1 hs'
  obtain ⟨i1, i2, i3, -, -⟩ := merge_facts s1 (fun z hz => hok z (List.mem_of_mem_take hz))
  exact ⟨i1, i2, fun y hy => by
    obtain ⟨z, hz, hyz⟩ := i3 y hy
    exact Nat.le_trans hyz (s2 z hz x (by simp))⟩
theorem merge_take {S : List Pr} {k : Nat} {x : Pr} (hx : S[k]? = some x) : merge (S.take (k + 1)) = mg (merge (S.take k)) x := by
  rw [List.take_add_one, hx]
  exact merge_snoc _ _
theorem gap_hit {l : ByteArray} {p : Int} {x y : Pr} (h : Gap x y) (hx : hit l p x = true) : hit l p y = false := by
  unfold hit at hx
  rw [Bool.and_eq_true, decide_eq_true_eq, decide_eq_true_eq] at hx
  cases hy : hit l p y with
  | false => rfl
  | true =>
    exfalso
    unfold hit at hy
    rw [Bool.and_eq_true, decide_eq_true_eq, decide_eq_true_eq] at hy
    rcases h with h | ⟨h, h2⟩
    · rw [hx.1, hy.1] at h; omega
    · omega
theorem first_le {x x' : Pr} {r' : List Pr} (hx : x.ok = true) (hok : ∀ z ∈ x' :: r', z.ok = true) (hg : (x' :: r').Pairwise Gap) (hh : hits x.l x.f (x' :: r') = true) : K x' ≤ K x ∧ (x'.l = x.l → x'.f = x.f → ∀ p, x.f ≤ p → hits x.l p (x' :: r') = true → p ≤ x'.t + 1 → p ≤ x'.t) := by
  have hx' := hok x' (List.mem_cons_self ..)
  obtain ⟨g1, g2⟩ := List.pairwise_cons.1 hg
  constructor
  · obtain ⟨y, hy, hyh⟩ := List.any_eq_true.1 hh
    unfold hit at hyh
    rw [Bool.and_eq_true, decide_eq_true_eq, decide_eq_true_eq] at hyh
    have hyx : K y ≤ K x := (K_le (hok y hy) hx).2 (.inr ⟨hyh.1, hyh.2.1⟩)
    rcases List.mem_cons.1 hy with rfl | hy'
    · exact hyx
    · refine Nat.le_trans ((K_le hx' (hok y hy)).2 ?_) hyx
      obtain ⟨_, b1, b2, b3⟩ := okR_yes hx'
      rcases g1 y hy' with g | ⟨g, g'⟩
      · exact .inl g
      · exact .inr ⟨g, by omega⟩
  · intro hl hf p hp hhp hpt
    refine Classical.byContradiction fun hn => ?_
    obtain ⟨y, hy, hyh⟩ := List.any_eq_true.1 hhp
    unfold hit at hyh
    rw [Bool.and_eq_true, decide_eq_true_eq, decide_eq_true_eq] at hyh
    rcases List.mem_cons.1 hy with rfl | hy'
    · omega
    · rcases g1 y hy' with g | ⟨g, g'⟩
      · rw [hyh.1, hl] at g; omega
      · omega
/-- two such lists with the same pages are the same -/
theorem same_list {M M' : List Pr} (ho : ∀ z ∈ M, z.ok = true) (ho' : ∀ z ∈ M', z.ok = true) (hg : M.Pairwise Gap) (hg' : M'.Pairwise Gap) (hh : ∀ l p, hits l p M = hits l p M') : M = M' := by
  induction M generalizing M' with
  | nil =>
    cases M' with
    | nil => rfl
    | cons x' r' =>
      exfalso
      obtain ⟨_, b1, b2, b3⟩ := okR_yes (ho' x' (List.mem_cons_self ..))
      have := hh x'.l x'.f
      simp [hits, hit] at this
      omega
  | cons x r ih =>
    cases M' with
    | nil =>
      exfalso
      obtain ⟨_, b1, b2, b3⟩ := okR_yes (ho x (List.mem_cons_self ..))
      have := hh x.l x.f
      simp [hits, hit] at this
      omega
    | cons x' r' =>
      have hx := ho x (List.mem_cons_self ..)
      have hx' := ho' x' (List.mem_cons_self ..)
      obtain ⟨a0, a1, a2, a3⟩ := okR_yes hx
      obtain ⟨b0, b1, b2, b3⟩ := okR_yes hx'
      have self : ∀ (y : Pr) (s : List Pr) (p : Int), y.f ≤ p → p ≤ y.t → hits y.l p (y :: s) = true := fun y s p h1 h2 => by simp [hits, hit]; exact .inl ⟨h1, h2⟩
      obtain ⟨k1, t1⟩ := first_le hx ho' hg' ((hh _ _).symm.trans (self x r x.f (Int.le_refl _) a2))
      obtain ⟨k2, t2⟩ := first_le hx' ho hg ((hh _ _).trans (self x' r' x'.f (Int.le_refl _) b2))
      have hl : x.l = x'.l ∧ x.f = x'.f := by
        rcases (K_le hx hx').1 k2 with h | ⟨h, h2⟩ <;> rcases (K_le hx' hx).1 k1 with h' | ⟨h', h2'⟩
        · omega
        · rw [h'] at h; omega
        · rw [h] at h'; omega
        · exact ⟨h, by omega⟩
      have ht : x.t = x'.t := by
        rcases Int.lt_trichotomy x.t x'.t with h | h | h
        · exfalso
          have := t2 hl.1 hl.2 (x.t + 1) (by omega) ((hh _ _).trans (self x' r' (x.t + 1) (by omega) (by omega))) (by omega)
          omega
        · exact h
        · exfalso
          have := t1 hl.1.symm hl.2.symm (x'.t + 1) (by omega) ((hh _ _).symm.trans (self x r (x'.t + 1) (by omega) (by omega))) (by omega)
          omega
      have hxx : x = x' := by
        obtain ⟨l, f, t⟩ := x
        obtain ⟨l', f', t'⟩ := x'
        dsimp only at hl ht
        obtain ⟨rfl, rfl⟩ := hl
        rw [ht]
      subst hxx
      obtain ⟨g1, g2⟩ := List.pairwise_cons.1 hg
      obtain ⟨g1', g2'⟩ := List.pairwise_cons.1 hg'
      congr 1
      refine ih (fun z hz => ho z (List.mem_cons_of_mem _ hz)) (fun z hz => ho' z (List.mem_cons_of_mem _ hz)) g2 g2' fun l p => ?_
      have h1 := hh l p
      unfold hits at h1 ⊢
      simp only [List.any_cons] at h1
      cases hxh : hit l p x with
      | false => rw [hxh] at h1; simpa using h1
      | true =>
        have e1 : r.any (hit l p) = false := by
          rw [List.any_eq_false]; intro z hz; rw [gap_hit (g1 z hz) hxh]; exact Bool.false_ne_true
        have e2 : r'.any (hit l p) = false := by
          rw [List.any_eq_false]; intro z hz; rw [gap_hit (g1' z hz) hxh]; exact Bool.false_ne_true
        rw [e1, e2]
theorem hits_perm {S L : List Pr} (h : S.Perm L) (l : ByteArray) (p : Int) : hits l p S = hits l p L := by
  rw [Bool.eq_iff_iff]
  unfold hits
  rw [List.any_eq_true, List.any_eq_true]
  exact ⟨fun ⟨x, hx, e⟩ => ⟨x, h.mem_iff.1 hx, e⟩, fun ⟨x, hx, e⟩ => ⟨x, h.mem_iff.2 hx, e⟩⟩
/-- the order in which equal ranges stand does not matter -/
theorem merge_one {S S' L : List Pr} (hok : ∀ x ∈ L, x.ok = true) (hp : S.Perm L) (hs : Sorted S) (hp' : S'.Perm L) (hs' : Sorted S') : merge S = merge S' := by
  obtain ⟨i1, i2, -, i4, -⟩ := merge_facts hs (fun x hx => hok x (hp.mem_iff.1 hx))
  obtain ⟨j1, j2, -, j4, -⟩ := merge_facts hs' (fun x hx => hok x (hp'.mem_iff.1 hx))
  exact same_list i1 j1 i2 j2 fun l p => by rw [i4, j4, hits_perm hp, hits_perm hp']
/-- the shortest list with the same pages -/
def srt (L : List Pr) : List Pr := L.mergeSort (fun x y => decide (K x ≤ K y))
def mL (L : List Pr) : List Pr := merge (srt L)
theorem srt_perm (L : List Pr) : (srt L).Perm L := List.mergeSort_perm L _
theorem srt_sorted (L : List Pr) : Sorted (srt L) := by
  have h := List.pairwise_mergeSort (le := fun x y : Pr => decide (K x ≤ K y)) (fun a b c h1 h2 => by simp at h1 h2 ⊢; omega) (fun a b => by simp; omega) L
  exact h.imp (fun h => of_decide_eq_true h)
theorem merge_is {S L : List Pr} (hok : ∀ x ∈ L, x.ok = true) (hp : S.Perm L) (hs : Sorted S) : merge S = mL L := merge_one hok hp hs (srt_perm L) (srt_sorted L)
theorem mL_facts {L : List Pr} (hok : ∀ x ∈ L, x.ok = true) : (∀ y ∈ mL L, y.ok = true) ∧ (mL L).Pairwise Gap ∧ (∀ l p, hits l p (mL L) = hits l p L) ∧ (mL L).length ≤ L.length := by
  obtain ⟨i1, i2, -, i4, i5⟩ := merge_facts (srt_sorted L) (fun x hx => hok x ((srt_perm L).mem_iff.1 hx))
  exact ⟨i1, i2, fun l p => by rw [mL, i4, hits_perm (srt_perm L)], by rw [← (srt_perm L).length_eq]; exact i5⟩
theorem mL_again {L : List Pr} (hok : ∀ x ∈ L, x.ok = true) : mL (mL L) = mL L := by
  obtain ⟨i1, i2, i3, -⟩ := mL_facts hok
  obtain ⟨j1, j2, j3, -⟩ := mL_facts i1
  exact same_list j1 i1 j2 i2 j3
/-- a range put where it belongs -/
theorem ins_sorted {S : List Pr} {k : Nat} {x : Pr} (hs : Sorted S) (h1 : ∀ j y, k ≤ j → S[j]? = some y → K x ≤ K y) (h2 : ∀ j y, j < k → S[j]? = some y → K y ≤ K x) : Sorted (S.take k ++ x :: S.drop k) := by
  have hs' : Sorted (S.take k ++ S.drop k) := by rw [List.take_append_drop]; exact hs
  obtain ⟨s1, s2, s3⟩ := List.pairwise_append.1 hs'
  refine List.pairwise_append.2 ⟨s1, List.pairwise_cons.2 ⟨fun y hy => ?_, s2⟩, fun y hy z hz => ?_⟩
  · obtain ⟨j, hj⟩ := List.getElem?_of_mem hy
    rw [List.getElem?_drop] at hj
    exact h1 _ y (by omega) hj
  · rcases List.mem_cons.1 hz with rfl | hz
    · obtain ⟨j, hj⟩ := List.getElem?_of_mem hy
      rw [List.getElem?_take] at hj
      split at hj
      · rename_i hjk; exact h2 j y hjk hj
      · cases hj
    · exact s3 y hy z hz
theorem ins_perm {S : List Pr} {k : Nat} {x : Pr} : (S.take k ++ x :: S.drop k).Perm (S ++ [x]) := by
  have h : (S.take k ++ x :: S.drop k).Perm (x :: S) := by
    have := List.perm_middle (a := x) (l₁ := S.take k) (l₂ := S.drop k)
    rw [List.take_append_drop] at this
    exact this
  exact h.trans (List.perm_append_comm (l₁ := [x]) (l₂ := S))
/-- below the place all are at most x -/
theorem below_k {S : List Pr} {k : Nat} {x : Pr} (hs : Sorted S) (hk : k = 0 ∨ ∃ y, S[k - 1]? = some y ∧ K y ≤ K x) : ∀ j y, j < k → S[j]? = some y → K y ≤ K x := by
  intro j y hj hy
  rcases hk with rfl | ⟨z, hz, hzx⟩
  · omega
  · rcases Nat.lt_or_ge j (k - 1) with h | h
    · obtain ⟨h1, e1⟩ := List.getElem?_eq_some_iff.1 hy
      obtain ⟨h2, e2⟩ := List.getElem?_eq_some_iff.1 hz
      have := List.pairwise_iff_getElem.1 hs j (k - 1) h1 h2 h
      rw [e1, e2] at this
      exact Nat.le_trans this hzx
    · obtain rfl : j = k - 1 := by omega
      rw [hy] at hz
      cases hz
      exact hzx
end Go.Proofs.YtocgpoafhocbbaaDoor.PgMe
