/-
  Plain mathematics of chapter 12: marks of a text, how they are paired from the left to the right, pairs in the order of their opening marks. Nothing of the program is named here.
-/
import Derived.Test.YtljbbmefemfjpaaPlain
import Derived.Test.YtljbbmefemfjpaaNmPl
namespace Go.Proofs.Ytljbbmefemfjpaa.QtPl
open NmPl

/-- the byte at a place, 0 behind the end -/
def bt (s : ByteArray) (i : Nat) : UInt8 := if h : i < s.size then s[i] else 0
theorem bt_eq {s : ByteArray} {i : Nat} (h : i < s.size) : bt s i = s[i] := by unfold bt; rw [dif_pos h]
/-- does an apostrophe's neighborhood lie at a place -/
def apo (s : ByteArray) (i : Nat) : Bool := decide (0 < i) && (isLt (bt s (i - 1)) && (decide (i + 1 < s.size) && isLt (bt s (i + 1))))
/-- is the byte at a place a mark -/
def isMk (s : ByteArray) (i : Nat) : Bool := bt s i == 34 || (bt s i == 39 && !apo s i)
theorem mk_byte {s : ByteArray} {i : Nat} (h : isMk s i = true) : bt s i = 34 ∨ bt s i = 39 := by
  unfold isMk at h
  rw [Bool.or_eq_true, Bool.and_eq_true, beq_iff_eq, beq_iff_eq] at h
  rcases h with h | h
  · exact .inl h
  · exact .inr h.1

/-- marks that are open, and for each byte the place of its partner (or -1) -/
structure Qs where
  O : List Nat
  M : List Int
def qadd (k : Nat) (q : Qs) : Qs := ⟨q.O ++ [k], q.M ++ [-1]⟩
def qcl (a k : Nat) (q : Qs) : Qs := ⟨q.O.dropLast, q.M.set a k ++ [(a : Int)]⟩
def qno (q : Qs) : Qs := ⟨q.O, q.M ++ [-1]⟩
def qstep (s : ByteArray) (k : Nat) (q : Qs) : Qs :=
  if isMk s k then
    match q.O.getLast? with
    | some a => if bt s a = bt s k then qcl a k q else qadd k q
    | none => qadd k q
  else qno q
def qrun (s : ByteArray) : Nat → Qs
  | 0 => ⟨[], []⟩
  | k + 1 => qstep s k (qrun s k)
theorem qrun_succ (s : ByteArray) (k : Nat) : qrun s (k + 1) = qstep s k (qrun s k) := rfl
theorem st_no {s : ByteArray} {k : Nat} {q : Qs} (h : isMk s k = false) : qstep s k q = qno q := by unfold qstep; rw [h]; rfl
theorem st_none {s : ByteArray} {k : Nat} {q : Qs} (h : isMk s k = true) (ho : q.O = []) : qstep s k q = qadd k q := by
  unfold qstep; rw [if_pos h, ho]; rfl
theorem last_at {O : List Nat} {n a : Nat} (hn : O.length = n + 1) (h : O[n]? = some a) : O.getLast? = some a := by
  rw [List.getLast?_eq_getElem?, hn, Nat.add_sub_cancel]; exact h
theorem st_cl {s : ByteArray} {k n a : Nat} {q : Qs} (h : isMk s k = true) (hn : q.O.length = n + 1) (ha : q.O[n]? = some a) (e : bt s a = bt s k) : qstep s k q = qcl a k q := by
  unfold qstep; rw [if_pos h, last_at hn ha]; dsimp only; rw [if_pos e]
theorem st_op {s : ByteArray} {k n a : Nat} {q : Qs} (h : isMk s k = true) (hn : q.O.length = n + 1) (ha : q.O[n]? = some a) (e : bt s a ≠ bt s k) : qstep s k q = qadd k q := by
  unfold qstep; rw [if_pos h, last_at hn ha]; dsimp only; rw [if_neg e]

/-- what holds of the marks that have been read -/
structure QInv (s : ByteArray) (k : Nat) (q : Qs) : Prop where
  len : q.M.length = k
  op : ∀ a ∈ q.O, a < k ∧ q.M[a]? = some (-1) ∧ isMk s a = true
  asc : q.O.Pairwise (· < ·)
  low : ∀ (i : Nat) (m : Int), q.M[i]? = some m → m = -1 ∨ ∃ j : Nat, m = j ∧ j ≠ i ∧ j < k ∧ q.M[j]? = some (i : Int) ∧ bt s i = bt s j ∧ isMk s i = true
  odd : ∀ (i : Nat), i < k → isMk s i = true → q.M[i]? = some (-1) → i ∈ q.O
theorem inv_0 (s : ByteArray) : QInv s 0 (qrun s 0) :=
  ⟨rfl, fun a h => (by cases h), List.Pairwise.nil, fun i m h => (by simp [qrun] at h), fun i h => (by omega)⟩
theorem app_old {M : List Int} {x : Int} {i : Nat} (h : i < M.length) : (M ++ [x])[i]? = M[i]? := List.getElem?_append_left h
theorem app_new {M : List Int} {x : Int} : (M ++ [x])[M.length]? = some x := by rw [List.getElem?_append_right (Nat.le_refl _)]; simp
theorem lt_of_some {M : List Int} {i : Nat} {m : Int} (h : M[i]? = some m) : i < M.length := (List.getElem?_eq_some_iff.1 h).1
theorem app_cases {M : List Int} {x m : Int} {i : Nat} (h : (M ++ [x])[i]? = some m) : (i < M.length ∧ M[i]? = some m) ∨ (i = M.length ∧ m = x) := by
  rcases Nat.lt_or_ge i M.length with hi | hi
  · exact .inl ⟨hi, by rw [← app_old hi]; exact h⟩
  · have h1 : i < (M ++ [x]).length := lt_of_some h
    simp at h1
    obtain rfl : i = M.length := by omega
    rw [app_new] at h
    cases h
    exact .inr ⟨rfl, rfl⟩
theorem inv_no {s : ByteArray} {k : Nat} {q : Qs} (h : QInv s k q) (hm : isMk s k = false) : QInv s (k + 1) (qno q) := by
  refine ⟨by simp [qno, h.len], fun a ha => ?_, h.asc, fun i m hi => ?_, fun i hi hmk he => ?_⟩
  · obtain ⟨h1, h2, h3⟩ := h.op a ha
    exact ⟨by omega, by unfold qno; dsimp only; rw [app_old (by rw [h.len]; exact h1)]; exact h2, h3⟩
  · rcases app_cases hi with ⟨_, hi'⟩ | ⟨_, hx⟩
    · rcases h.low i m hi' with h0 | ⟨j, e, h1, h2, h3, h4, h5⟩
      · exact .inl h0
      · exact .inr ⟨j, e, h1, by omega, by unfold qno; dsimp only; rw [app_old (by rw [h.len]; exact h2)]; exact h3, h4, h5⟩
    · exact .inl hx
  · rcases app_cases he with ⟨h1, h2⟩ | ⟨h1, _⟩
    · exact h.odd i (by have := h.len; omega) hmk h2
    · rw [h.len] at h1; subst h1; rw [hm] at hmk; cases hmk
theorem inv_add {s : ByteArray} {k : Nat} {q : Qs} (h : QInv s k q) (hm : isMk s k = true) : QInv s (k + 1) (qadd k q) := by
  refine ⟨by simp [qadd, h.len], fun a ha => ?_, ?_, fun i m hi => ?_, fun i hi hmk he => ?_⟩
  · rcases List.mem_append.1 ha with ha | ha
    · obtain ⟨h1, h2, h3⟩ := h.op a ha
      exact ⟨by omega, by unfold qadd; dsimp only; rw [app_old (by rw [h.len]; exact h1)]; exact h2, h3⟩
    · obtain rfl := List.mem_singleton.1 ha
      refine ⟨Nat.lt_succ_self _, ?_, hm⟩
      have := @app_new q.M (-1)
      rw [h.len] at this
      exact this
  · refine List.pairwise_append.2 ⟨h.asc, List.pairwise_singleton _ _, fun a ha b hb => ?_⟩
    obtain rfl := List.mem_singleton.1 hb
    exact (h.op a ha).1
  · rcases app_cases hi with ⟨_, hi'⟩ | ⟨_, hx⟩
    · rcases h.low i m hi' with h0 | ⟨j, e, h1, h2, h3, h4, h5⟩
      · exact .inl h0
      · exact .inr ⟨j, e, h1, by omega, by unfold qadd; dsimp only; rw [app_old (by rw [h.len]; exact h2)]; exact h3, h4, h5⟩
    · exact .inl hx
  · rcases app_cases he with ⟨h1, h2⟩ | ⟨h1, _⟩
    · exact List.mem_append_left _ (h.odd i (by have := h.len; omega) hmk h2)
    · rw [h.len] at h1; subst h1; exact List.mem_append_right _ (List.mem_singleton.2 rfl)
theorem set_same {M : List Int} {a : Nat} {x : Int} (h : a < M.length) : (M.set a x)[a]? = some x := by rw [List.getElem?_set]; simp [h]
theorem set_other {M : List Int} {a i : Nat} {x : Int} (h : a ≠ i) : (M.set a x)[i]? = M[i]? := by rw [List.getElem?_set]; simp [h]
theorem inv_cl {s : ByteArray} {k n a : Nat} {q : Qs} (h : QInv s k q) (hm : isMk s k = true) (hn : q.O.length = n + 1) (ha : q.O[n]? = some a) (e : bt s a = bt s k) : QInv s (k + 1) (qcl a k q) := by
  have hmem : a ∈ q.O := List.mem_of_getElem? ha
  obtain ⟨hak, haM, haS⟩ := h.op a hmem
  have hO : q.O = q.O.dropLast ++ [a] := by
    have h1 := last_at hn ha
    have hne : q.O ≠ [] := by intro h9; rw [h9] at hn; cases hn
    rw [List.getLast?_eq_some_getLast hne] at h1
    have h2 := List.dropLast_concat_getLast hne
    cases h1
    exact h2.symm
  have hnd : a ∉ q.O.dropLast := by
    intro h9
    have h1 := h.asc
    rw [hO, List.pairwise_append] at h1
    have := h1.2.2 a h9 a (List.mem_singleton.2 rfl)
    omega
  have hl : (q.M.set a (k : Int)).length = k := by rw [List.length_set, h.len]
  refine ⟨by simp [qcl, h.len], fun b hb => ?_, ?_, fun i m hi => ?_, fun i hi hmk he => ?_⟩
  · have hb' : b ∈ q.O := List.dropLast_subset _ hb
    obtain ⟨h1, h2, h3⟩ := h.op b hb'
    have hne : a ≠ b := by rintro rfl; exact hnd hb
    refine ⟨by omega, ?_, h3⟩
    unfold qcl; dsimp only
    rw [app_old (by rw [hl]; exact h1), set_other hne]
    exact h2
  · exact h.asc.sublist (List.dropLast_sublist _)
  · have hkk : ((q.M.set a (k : Int)) ++ [(a : Int)])[k]? = some (a : Int) := by
      have := @app_new (q.M.set a (k : Int)) (a : Int)
      rw [hl] at this
      exact this
    rcases app_cases hi with ⟨h0, hi'⟩ | ⟨h0, hx⟩
    · rw [hl] at h0
      by_cases hai : a = i
      · subst hai
        rw [set_same (by rw [h.len]; exact hak)] at hi'
        cases hi'
        exact .inr ⟨k, rfl, by omega, by omega, hkk, e, haS⟩
      · rw [set_other hai] at hi'
        rcases h.low i m hi' with h9 | ⟨j, e1, h1, h2, h3, h4, h5⟩
        · exact .inl h9
        · refine .inr ⟨j, e1, h1, by omega, ?_, h4, h5⟩
          have haj : a ≠ j := by rintro rfl; rw [haM] at h3; cases h3
          unfold qcl; dsimp only
          rw [app_old (by rw [hl]; exact h2), set_other haj]
          exact h3
    · rw [hl] at h0
      subst h0 hx
      refine .inr ⟨a, rfl, by omega, by omega, ?_, e.symm, hm⟩
      unfold qcl; dsimp only
      rw [app_old (by rw [hl]; exact hak), set_same (by rw [h.len]; exact hak)]
  · rcases app_cases he with ⟨h1, h2⟩ | ⟨h1, h2⟩
    · rw [hl] at h1
      by_cases hai : a = i
      · subst hai
        rw [set_same (by rw [h.len]; exact hak)] at h2
        cases h2
      · rw [set_other hai] at h2
        have := h.odd i h1 hmk h2
        rw [hO] at this
        rcases List.mem_append.1 this with h9 | h9
        · exact h9
        · exact absurd (List.mem_singleton.1 h9).symm hai
    · cases h2
theorem inv_step {s : ByteArray} {k : Nat} {q : Qs} (h : QInv s k q) : QInv s (k + 1) (qstep s k q) := by
  by_cases hm : isMk s k = true
  · rcases Nat.eq_zero_or_pos q.O.length with h0 | h0
    · rw [st_none hm (List.eq_nil_of_length_eq_zero h0)]; exact inv_add h hm
    · obtain ⟨n, hn⟩ : ∃ n, q.O.length = n + 1 := ⟨q.O.length - 1, by omega⟩
      have ha := List.getElem?_eq_getElem (show n < q.O.length by omega)
      by_cases e : bt s (q.O[n]'(by omega)) = bt s k
      · rw [st_cl hm hn ha e]; exact inv_cl h hm hn ha e
      · rw [st_op hm hn ha e]; exact inv_add h hm
  · rw [st_no (by simpa using hm)]; exact inv_no h (by simpa using hm)
theorem inv_run (s : ByteArray) : ∀ k, QInv s k (qrun s k)
  | 0 => inv_0 s
  | k + 1 => inv_step (inv_run s k)

/-- the pairs in the order of their opening marks, of bytes from place o on -/
def prsF : Nat → List Int → List (Nat × Nat)
  | _, [] => []
  | o, m :: r => if (o : Int) < m then (o, m.toNat) :: prsF (o + 1) r else prsF (o + 1) r
theorem prsF_app (o : Nat) (L R : List Int) : prsF o (L ++ R) = prsF o L ++ prsF (o + L.length) R := by
  induction L generalizing o with
  | nil => simp [prsF]
  | cons m r ih =>
    rw [List.cons_append, prsF, prsF, ih, List.length_cons, show o + 1 + r.length = o + (r.length + 1) by omega]
    split <;> rfl
theorem prsF_one {o : Nat} {m : Int} (h : m ≤ o) : prsF o [m] = [] := by unfold prsF; rw [if_neg (by omega)]; rfl
theorem prsF_len (o : Nat) (L : List Int) : (prsF o L).length ≤ L.length := by
  induction L generalizing o with
  | nil => exact Nat.le_refl _
  | cons m r ih =>
    have := ih (o + 1)
    rw [prsF]
    split <;> simp <;> omega
theorem prsF_mem {o : Nat} {L : List Int} {x : Nat × Nat} : x ∈ prsF o L ↔ ∃ i, x.1 = o + i ∧ L[i]? = some (x.2 : Int) ∧ x.1 < x.2 := by
  induction L generalizing o with
  | nil => simp [prsF]
  | cons m r ih =>
    rw [prsF]
    constructor
    · intro h
      split at h
      · rcases List.mem_cons.1 h with rfl | h
        · exact ⟨0, rfl, by simp; omega, by simp; omega⟩
        · obtain ⟨i, e1, e2, e3⟩ := ih.1 h
          exact ⟨i + 1, by omega, by simpa using e2, e3⟩
      · obtain ⟨i, e1, e2, e3⟩ := ih.1 h
        exact ⟨i + 1, by omega, by simpa using e2, e3⟩
    · rintro ⟨i, e1, e2, e3⟩
      cases i with
      | zero =>
        simp at e2
        subst e2
        rw [if_pos (by omega)]
        refine List.mem_cons.2 (.inl ?_)
        ext <;> simp
        omega
      | succ i =>
        have : x ∈ prsF (o + 1) r := ih.2 ⟨i, by omega, by simpa using e2, e3⟩
        split
        · exact List.mem_cons_of_mem _ this
        · exact this
def prs (M : List Int) : List (Nat × Nat) := prsF 0 M
theorem prs_mem {M : List Int} {x : Nat × Nat} : x ∈ prs M ↔ M[x.1]? = some (x.2 : Int) ∧ x.1 < x.2 := by
  unfold prs
  rw [prsF_mem]
  constructor
  · rintro ⟨i, e1, e2, e3⟩
    rw [Nat.zero_add] at e1
    rw [e1]
    exact ⟨e2, by omega⟩
  · rintro ⟨e1, e2⟩
    exact ⟨x.1, by omega, e1, e2⟩
/-- how many pairs begin ahead of a place -/
def pAt (M : List Int) (a : Nat) : Nat := (prsF 0 (M.take a)).length
theorem prs_no (M : List Int) : prs (M ++ [-1]) = prs M := by
  unfold prs; rw [prsF_app, prsF_one (by omega), List.append_nil]
theorem prs_split {M : List Int} {a : Nat} {m : Int} (h : M[a]? = some m) : prs M = prsF 0 (M.take a) ++ (prsF a [m] ++ prsF (a + 1) (M.drop (a + 1))) := by
  obtain ⟨ha, e⟩ := List.getElem?_eq_some_iff.1 h
  have h1 : M = M.take a ++ ([m] ++ M.drop (a + 1)) := by
    conv => lhs; rw [← List.take_append_drop a M, List.drop_eq_getElem_cons ha, e]
    rfl
  unfold prs
  conv => lhs; rw [h1]
  rw [prsF_app, prsF_app, List.length_take, Nat.min_eq_left (Nat.le_of_lt ha), Nat.zero_add]
  rfl
theorem prs_cl {M : List Int} {a k : Nat} (h : M[a]? = some (-1)) (hk : a < k) (hl : M.length = k) : prs (M.set a (k : Int) ++ [(a : Int)]) = (prs M).take (pAt M a) ++ (a, k) :: (prs M).drop (pAt M a) := by
  obtain ⟨ha, e⟩ := List.getElem?_eq_some_iff.1 h
  have h1 : prs (M.set a (k : Int) ++ [(a : Int)]) = prs (M.set a (k : Int)) := by
    unfold prs; rw [prsF_app, prsF_one (by rw [List.length_set]; omega), List.append_nil]
  have h2 : (M.set a (k : Int)).take a = M.take a := by rw [List.take_set_of_le (Nat.le_refl _)]
  have h3 : (M.set a (k : Int)).drop (a + 1) = M.drop (a + 1) := by rw [List.drop_set_of_lt (Nat.lt_succ_self _)]
  have h4 := prs_split (set_same (x := (k : Int)) ha)
  rw [h2, h3] at h4
  have h5 := prs_split h
  have h6 : prsF a [(-1 : Int)] = [] := prsF_one (by omega)
  have h7 : prsF a [(k : Int)] = [(a, k)] := by unfold prsF; rw [if_pos (by omega)]; rfl
  rw [h6, List.nil_append] at h5
  rw [h7] at h4
  rw [h1, h4, h5]
  unfold pAt
  rw [List.take_left', List.drop_left'] <;> rfl
theorem pAt_le (M : List Int) (a : Nat) : pAt M a ≤ (prs M).length := by
  unfold prs pAt
  conv => rhs; rw [← List.take_append_drop a M, prsF_app]
  rw [List.length_append]
  omega
/-- the pairs ahead of a place, and the others -/
theorem pAt_lt {M : List Int} {a j : Nat} {x : Nat × Nat} (h : (prs M)[j]? = some x) : (x.1 < a ↔ j < pAt M a) := by
  unfold prs at h
  rw [← List.take_append_drop a M, prsF_app] at h
  unfold pAt
  rcases Nat.lt_or_ge j (prsF 0 (M.take a)).length with hj | hj
  · rw [List.getElem?_append_left hj] at h
    obtain ⟨i, e1, e2, _⟩ := prsF_mem.1 (List.mem_of_getElem? h)
    have := lt_of_some e2
    rw [List.length_take] at this
    exact ⟨fun _ => hj, fun _ => by omega⟩
  · rw [List.getElem?_append_right hj] at h
    obtain ⟨i, e1, e2, _⟩ := prsF_mem.1 (List.mem_of_getElem? h)
    have := lt_of_some e2
    rw [List.length_drop] at this
    rw [List.length_take] at e1
    refine ⟨fun h9 => ?_, fun h9 => ?_⟩ <;> omega
theorem prs_bd {s : ByteArray} {k : Nat} {q : Qs} (h : QInv s k q) {x : Nat × Nat} (hx : x ∈ prs q.M) : x.1 < x.2 ∧ x.2 < k ∧ q.M[x.1]? = some (x.2 : Int) ∧ q.M[x.2]? = some (x.1 : Int) ∧ bt s x.1 = bt s x.2 ∧ isMk s x.1 = true := by
  obtain ⟨h1, h2⟩ := prs_mem.1 hx
  rcases h.low _ _ h1 with h0 | ⟨j, e, h3, h4, h5, h6, h7⟩
  · omega
  · obtain rfl : x.2 = j := by omega
    exact ⟨h2, h4, h1, h5, h6, h7⟩
theorem prs_le {s : ByteArray} {k : Nat} {q : Qs} (h : QInv s k q) : (prs q.M).length ≤ k := by
  have := prsF_len 0 q.M
  rw [h.len] at this
  exact this
theorem op_le {s : ByteArray} {k : Nat} {q : Qs} (h : QInv s k q) : q.O.length ≤ k := by
  have key : ∀ (n : Nat) (l : List Nat), l.Pairwise (· < ·) → (∀ a ∈ l, a < n) → l.length ≤ n := by
    intro n
    induction n with
    | zero => intro l _ h; cases l with
      | nil => exact Nat.le_refl _
      | cons a r => exact absurd (h a (List.mem_cons_self)) (by omega)
    | succ n ih =>
      intro l hp hl
      rcases List.eq_nil_or_concat l with rfl | ⟨r, b, rfl⟩
      · exact Nat.zero_le _
      · rw [List.concat_eq_append] at hp hl ⊢
        rw [List.pairwise_append] at hp
        have hb := hl b (by simp)
        have := ih r hp.1 (fun a ha => by have := hp.2.2 a ha b (by simp); omega)
        rw [List.length_append, List.length_singleton]
        omega
  exact key k q.O h.asc (fun a ha => (h.op a ha).1)
end Go.Proofs.Ytljbbmefemfjpaa.QtPl
