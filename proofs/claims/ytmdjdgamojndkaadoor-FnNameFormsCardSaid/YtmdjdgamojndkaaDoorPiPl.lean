/-
  Plain mathematics of ParseInverse: what both readings make of the inverse form of a valid name.
-/
import Derived.Test.YtmdjdgamojndkaaDoorNmPl
import Derived.Lib.IndexMore
import Derived.Lib.IndexLaws
import Derived.Lib.LastIndexByte
namespace Go.Proofs.YtmdjdgamojndkaaDoor.NmPl
open Pl Stands SplitPl
set_option linter.unusedVariables false
set_option linter.unusedSimpArgs false

theorem wgo_all : ∀ (l : List UInt8) (p : Bool), wgo p l = true → ∀ c ∈ l, isLt c = true ∨ isHy c = true
  | [], _, _, c, hc => by cases hc
  | x :: r, p, h, c, hc => by
    cases h1 : isLt x with
    | true =>
      rw [wgo_lt h1] at h
      rcases List.mem_cons.1 hc with rfl | hc
      · exact .inl h1
      · exact wgo_all r true h c hc
    | false =>
      cases h2 : isHy x with
      | false => rw [wgo_no h1 h2] at h; cases h
      | true =>
        cases p with
        | false => rw [wgo_no' h1] at h; cases h
        | true =>
          rw [wgo_hy h1 h2] at h
          rcases List.mem_cons.1 hc with rfl | hc
          · exact .inr h2
          · exact wgo_all r false h c hc
theorem word_free {l : List UInt8} (h : wordB l = true) (b : UInt8) (hb : isLt b = false) (hb2 : isHy b = false) : stB b l = false := by
  unfold wordB at h
  simp only [Bool.and_eq_true] at h
  unfold stB
  rw [Bool.eq_false_iff]
  intro hc
  rw [List.contains_iff_mem] at hc
  rcases wgo_all l false h.2 b hc with h1 | h1
  · rw [hb] at h1; cases h1
  · rw [hb2] at h1; cases h1
theorem word_32 {l : List UInt8} (h : wordB l = true) : stB 32 l = false := word_free h 32 (by decide) (by decide)
theorem word_44 {l : List UInt8} (h : wordB l = true) : stB 44 l = false := word_free h 44 (by decide) (by decide)
theorem st_app (b : UInt8) (x y : List UInt8) : stB b (x ++ y) = (stB b x || stB b y) := by unfold stB; rw [List.contains_append]
theorem st_cons (b c : UInt8) (y : List UInt8) : stB b (c :: y) = ((b == c) || stB b y) := by unfold stB; rw [List.contains_cons]
theorem low_44 {l : List UInt8} (h : lowB l = true) : stB 44 l = false := by
  unfold lowB at h
  simp only [Bool.and_eq_true] at h
  unfold stB
  rw [Bool.eq_false_iff]
  intro hc
  rw [List.contains_iff_mem] at hc
  have := List.all_eq_true.1 h.2 _ hc
  simp [isLo] at this
theorem tail_free {b c : UInt8} (hbc : (b == c) = false) : ∀ xs : List (List UInt8), (∀ x ∈ xs, stB b x = false) → stB b (Lib.joinTail [c] xs) = false
  | [], _ => rfl
  | x :: r, h => by
    have h1 := h x (List.mem_cons_self ..)
    have h2 := tail_free hbc r (fun y hy => h y (List.mem_cons_of_mem _ hy))
    have e : Lib.joinTail [c] (x :: r) = c :: (x ++ Lib.joinTail [c] r) := by simp [Lib.joinTail]
    rw [e, st_cons, st_app, hbc, h1, h2]
    rfl
theorem join_free {b c : UInt8} (hbc : (b == c) = false) (xs : List (List UInt8)) (h : ∀ x ∈ xs, stB b x = false) : stB b (Lib.join xs [c]) = false := by
  cases xs with
  | nil => rfl
  | cons x r =>
    have h1 := h x (List.mem_cons_self ..)
    have h2 := tail_free hbc r (fun y hy => h y (List.mem_cons_of_mem _ hy))
    rw [Lib.join_cons, st_app, h1, h2]
    rfl
theorem split_tail {b : UInt8} : ∀ (xs : List (List UInt8)) (x : List UInt8), (∀ y ∈ xs, stB b y = false) → stB b x = false → split b (x ++ Lib.joinTail [b] xs) = x :: xs
  | [], x, _, hx => by
    have e : x ++ Lib.joinTail [b] [] = x := by simp [Lib.joinTail]
    rw [e]; exact split_one hx
  | y :: r, x, h, hx => by
    have e : x ++ Lib.joinTail [b] (y :: r) = x ++ b :: (y ++ Lib.joinTail [b] r) := by simp [Lib.joinTail]
    rw [e, split_cons hx, split_tail r y (fun z hz => h z (List.mem_cons_of_mem _ hz)) (h y (List.mem_cons_self ..))]
theorem split_join {b : UInt8} {xs : List (List UInt8)} (h0 : xs ≠ []) (h : ∀ x ∈ xs, stB b x = false) : split b (Lib.join xs [b]) = xs := by
  cases xs with
  | nil => exact absurd rfl h0
  | cons x r => rw [Lib.join_cons]; exact split_tail r x (fun z hz => h z (List.mem_cons_of_mem _ hz)) (h x (List.mem_cons_self ..))

/-! a valid name's parts -/
structure GoodP (gs : List (List UInt8)) (p f u : List UInt8) : Prop where
  hg : ∀ x ∈ gs, capB x = true
  hn : gs.length ≤ 3
  hp : p = [] ∨ partB p = true
  hf : capB f = true
  hu : u = [] ∨ wordB u = true
theorem good_parts {gs : List (List UInt8)} {p f u : List UInt8} (h : goodB gs p f u = true) : GoodP gs p f u := by
  unfold goodB at h
  simp only [Bool.and_eq_true, Bool.or_eq_true, List.isEmpty_iff, decide_eq_true_eq] at h
  exact ⟨fun x hx => List.all_eq_true.1 h.1.1.1.1 x hx, h.1.1.1.2, h.1.1.2, h.1.2, h.2⟩
/-- the family with its particle -/
def hdL (p f : List UInt8) : List UInt8 := jn [p, f]
theorem hd_none (f : List UInt8) : hdL [] f = f := by simp [hdL, jn, jstep]
theorem hd_some {p f : List UInt8} (hp : p ≠ []) (hf : f ≠ []) : hdL p f = p ++ 32 :: f := by simp [hdL, jn, jstep, hp, hf]
theorem part_44 {p : List UInt8} (h : partB p = true) : stB 44 p = false := by
  unfold partB at h
  simp only [Bool.and_eq_true] at h
  rw [← join_split 32 p]
  exact join_free (by decide) _ (fun x hx => low_44 (List.all_eq_true.1 h.1 x hx))
theorem hd_44 {gs : List (List UInt8)} {p f u : List UInt8} (h : GoodP gs p f u) : stB 44 (hdL p f) = false := by
  have hf := word_44 (cap_word h.hf)
  by_cases hp : p = []
  · rw [hp, hd_none]; exact hf
  · rw [hd_some hp (cap_ne h.hf), st_app, st_cons, hf, part_44 (h.hp.resolve_left hp)]; rfl
theorem gs_join {gs : List (List UInt8)} {p f u : List UInt8} (h : GoodP gs p f u) : jn gs = Lib.join gs [32] := (jn_all (fun x hx => cap_ne (h.hg x hx))).symm
theorem gs_44 {gs : List (List UInt8)} {p f u : List UInt8} (h : GoodP gs p f u) : stB 44 (jn gs) = false := by
  rw [gs_join h]
  exact join_free (by decide) _ (fun x hx => word_44 (cap_word (h.hg x hx)))
theorem gs_nil {gs : List (List UInt8)} {p f u : List UInt8} (h : GoodP gs p f u) : jn gs = [] ↔ gs = [] := by
  constructor
  · intro e
    rw [gs_join h] at e
    by_cases h0 : gs = []
    · exact h0
    · exact absurd e (join_ne _ (fun x hx => cap_ne (h.hg x hx)) h0)
  · rintro rfl; rfl
theorem gs_split {gs : List (List UInt8)} {p f u : List UInt8} (h : GoodP gs p f u) (h0 : gs ≠ []) : split 32 (jn gs) = gs := by
  rw [gs_join h]
  exact split_join h0 (fun x hx => word_32 (cap_word (h.hg x hx)))
/-- the inverse form -/
def ivG (gs : List (List UInt8)) (p f u : List UInt8) : List UInt8 := hdL p f ++ (if 0 < gs.length ∨ u ≠ [] then [44, 32] ++ jn gs else []) ++ (if u ≠ [] then [44, 32] ++ u else [])

/-! the program's reading -/
theorem occ_miss {x y : List UInt8} {c : UInt8} {t : List UInt8} (h : stB c x = false) {j : Nat} (hj : j < x.length) : Lib.occAt (x ++ y) (c :: t) j = false := by
  unfold Lib.occAt
  rw [List.drop_append_of_le_length (Nat.le_of_lt hj), List.drop_eq_getElem_cons hj, List.cons_append, List.isPrefixOf]
  have : (c == x[j]) = false := by
    rw [beq_eq_false_iff_ne]
    intro e
    have hm : x.contains c = true := by rw [List.contains_iff_mem, e]; exact List.getElem_mem hj
    unfold stB at h
    rw [h] at hm; cases hm
  rw [this]; rfl
theorem cut_at {x : List UInt8} (y : List UInt8) (h : stB 44 x = false) : Lib.cut (x ++ 44 :: 32 :: y) [44, 32] = (x, y, true) := by
  have hi : Lib.index (x ++ 44 :: 32 :: y) [44, 32] = (x.length : Int) := by
    refine Lib.index_first (by simp) ?_ (fun j hj => occ_miss h hj)
    unfold Lib.occAt
    rw [List.drop_left]
    simp [List.isPrefixOf]
  unfold Lib.cut
  rw [hi]
  simp
theorem cut_miss {x : List UInt8} (h : stB 44 x = false) : Lib.cut x [44, 32] = (x, [], false) := by
  have hi : Lib.index x [44, 32] = -1 := by
    refine Lib.index_none (fun j hj => ?_)
    rcases Nat.lt_or_ge j x.length with hl | hl
    · have := occ_miss (y := []) (t := [32]) h hl
      rwa [List.append_nil] at this
    · unfold Lib.occAt
      rw [List.drop_eq_nil_of_le hl]; rfl
  unfold Lib.cut
  rw [hi]
  simp
/-- the head, the given names and the suffix that the program cuts out -/
def cutH (s : List UInt8) : List UInt8 := (Lib.cut s [44, 32]).1
def cutG (s : List UInt8) : List UInt8 := (Lib.cut (Lib.cut s [44, 32]).2.1 [44, 32]).1
def cutU (s : List UInt8) : List UInt8 := (Lib.cut (Lib.cut s [44, 32]).2.1 [44, 32]).2.1
theorem cuts {gs : List (List UInt8)} {p f u : List UInt8} (h : GoodP gs p f u) : cutH (ivG gs p f u) = hdL p f ∧ cutG (ivG gs p f u) = jn gs ∧ cutU (ivG gs p f u) = u := by
  have h1 := hd_44 h
  have h2 := gs_44 h
  unfold cutH cutG cutU ivG
  by_cases hu : u = []
  · subst hu
    by_cases hg : gs = []
    · subst hg
      simp only [List.length_nil, Nat.lt_irrefl, ne_eq, not_true_eq_false, or_self, if_false, List.append_nil]
      rw [cut_miss h1]
      exact ⟨rfl, by rw [cut_miss (by rfl)]; rfl, by rw [cut_miss (by rfl)]⟩
    · have hp : 0 < gs.length := List.length_pos_iff.2 hg
      simp only [ne_eq, not_true_eq_false, or_false, if_false, List.append_nil, hp, if_true]
      have e : hdL p f ++ ([44, 32] ++ jn gs) = hdL p f ++ 44 :: 32 :: jn gs := rfl
      rw [e, cut_at _ h1]
      dsimp only
      rw [cut_miss h2]
      exact ⟨rfl, rfl, rfl⟩
  · simp only [ne_eq, hu, not_false_eq_true, or_true, if_true]
    have e : hdL p f ++ ([44, 32] ++ jn gs) ++ ([44, 32] ++ u) = hdL p f ++ 44 :: 32 :: (jn gs ++ 44 :: 32 :: u) := by simp
    rw [e, cut_at _ h1]
    dsimp only
    rw [cut_at _ h2]
    exact ⟨rfl, rfl, rfl⟩
/-- the last space -/
def lastS (x : List UInt8) : Int := Lib.lastIndexByte (ba x) 32
def prtL (x : List UInt8) : List UInt8 := if 0 ≤ lastS x then x.take (lastS x).toNat else []
def famL (x : List UInt8) : List UInt8 := if 0 ≤ lastS x then x.drop ((lastS x).toNat + 1) else x
theorem ba_bang (x : List UInt8) (j : Nat) (h : j < x.length) : (ba x).data[j]! = x[j] := by
  have : j < (ba x).data.size := by simpa [ba] using h
  rw [getElem!_pos (ba x).data j this]
  simp [ba]
theorem last_none {x : List UInt8} (h : stB 32 x = false) : lastS x = -1 := by
  rcases Lib.lastIndexByte_spec (ba x) 32 with ⟨e, _⟩ | ⟨i, hi, _, hc, _⟩
  · exact e
  · exfalso
    rw [ba_size] at hi
    rw [ba_bang x i hi] at hc
    have e : x[i] = 32 := by apply UInt8.toNat_inj.1; have : ((32 : UInt8).toNat : Int) = 32 := rfl; omega
    have hm : x.contains 32 = true := by rw [List.contains_iff_mem, ← e]; exact List.getElem_mem hi
    unfold stB at h
    rw [h] at hm; cases hm
theorem last_app {x y : List UInt8} (h : stB 32 y = false) : lastS (x ++ 32 :: y) = (x.length : Int) := by
  have hlen : (x ++ 32 :: y).length = x.length + 1 + y.length := by simp; omega
  have hx : (x ++ 32 :: y)[x.length]'(by omega) = 32 := by simp
  rcases Lib.lastIndexByte_spec (ba (x ++ 32 :: y)) 32 with ⟨e, hn⟩ | ⟨i, hi, e, hc, hn⟩
  · exfalso
    have := hn x.length (by rw [ba_size]; omega)
    rw [ba_bang _ _ (by omega), hx] at this
    exact this rfl
  · rw [ba_size] at hi
    rw [ba_bang _ i hi] at hc
    have : i = x.length := by
      rcases Nat.lt_trichotomy i x.length with hl | hl | hl
      · exfalso
        have := hn x.length hl (by rw [ba_size]; omega)
        rw [ba_bang _ _ (by omega), hx] at this
        exact this rfl
      · exact hl
      · exfalso
        obtain ⟨k, rfl⟩ : ∃ k, i = x.length + (k + 1) := ⟨i - x.length - 1, by omega⟩
        have hk : k < y.length := by omega
        have e2 : (x ++ 32 :: y)[x.length + (k + 1)]'hi = y[k] := by
          rw [List.getElem_append_right (by omega)]
          simp
        rw [e2] at hc
        have e3 : y[k] = 32 := by apply UInt8.toNat_inj.1; have : ((32 : UInt8).toNat : Int) = 32 := rfl; omega
        have hm : y.contains 32 = true := by rw [List.contains_iff_mem, ← e3]; exact List.getElem_mem hk
        unfold stB at h
        rw [h] at hm; cases hm
    unfold lastS
    rw [e, this]
theorem heads {gs : List (List UInt8)} {p f u : List UInt8} (h : GoodP gs p f u) : prtL (hdL p f) = p ∧ famL (hdL p f) = f := by
  have hf := word_32 (cap_word h.hf)
  by_cases hp : p = []
  · subst hp
    rw [hd_none]
    unfold prtL famL
    rw [last_none hf]
    exact ⟨rfl, rfl⟩
  · rw [hd_some hp (cap_ne h.hf)]
    unfold prtL famL
    rw [last_app hf]
    simp
/-- the given names that the program reads -/
def gvL (g : List UInt8) : List (List UInt8) := if g = [] then [] else split 32 g
theorem givens {gs : List (List UInt8)} {p f u : List UInt8} (h : GoodP gs p f u) : gvL (jn gs) = gs := by
  unfold gvL
  by_cases h0 : gs = []
  · subst h0; rfl
  · rw [if_neg (fun e => h0 ((gs_nil h).1 e)), gs_split h h0]
/-- the program's candidate -/
theorem cand_i {gs : List (List UInt8)} {p f u : List UInt8} (h : GoodP gs p f u) {s : List UInt8} (e : s = ivG gs p f u) : gvL (cutG s) = gs ∧ prtL (cutH s) = p ∧ famL (cutH s) = f ∧ cutU s = u := by
  subst e
  obtain ⟨h1, h2, h3⟩ := cuts h
  rw [h1, h2, h3]
  exact ⟨givens h, (heads h).1, (heads h).2, rfl⟩
/-! the model's reading -/
/-- the parts at commas -/
theorem parts_s {gs : List (List UInt8)} {p f u : List UInt8} (h : GoodP gs p f u) : split 44 (ivG gs p f u) = if u = [] then (if gs = [] then [hdL p f] else [hdL p f, 32 :: jn gs]) else [hdL p f, 32 :: jn gs, 32 :: u] := by
  have h1 := hd_44 h
  have h2 : stB 44 (32 :: jn gs) = false := by rw [st_cons, gs_44 h]; rfl
  unfold ivG
  by_cases hu : u = []
  · subst hu
    by_cases hg : gs = []
    · subst hg
      simp only [List.length_nil, Nat.lt_irrefl, ne_eq, not_true_eq_false, or_self, if_false, List.append_nil, if_true]
      exact split_one h1
    · have hp : 0 < gs.length := List.length_pos_iff.2 hg
      simp only [ne_eq, not_true_eq_false, or_false, if_false, List.append_nil, hp, if_true, hg]
      have e : hdL p f ++ ([44, 32] ++ jn gs) = hdL p f ++ 44 :: (32 :: jn gs) := rfl
      rw [e, split_cons h1, split_one h2]
  · simp only [ne_eq, hu, not_false_eq_true, or_true, if_true, if_false]
    have h3 : stB 44 (32 :: u) = false := by rw [st_cons, word_44 (h.hu.resolve_left hu)]; rfl
    have e : hdL p f ++ ([44, 32] ++ jn gs) ++ ([44, 32] ++ u) = hdL p f ++ 44 :: ((32 :: jn gs) ++ 44 :: (32 :: u)) := by simp
    rw [e, split_cons h1, split_cons h2, split_one h3]
/-- the words of the head -/
theorem words_s {gs : List (List UInt8)} {p f u : List UInt8} (h : GoodP gs p f u) : ∃ l, split 32 (hdL p f) = l ++ [f] ∧ jn l = p := by
  have hf := word_32 (cap_word h.hf)
  by_cases hp : p = []
  · subst hp
    rw [hd_none]
    exact ⟨[], by rw [split_one hf]; rfl, rfl⟩
  · have hpt := h.hp.resolve_left hp
    rw [hd_some hp (cap_ne h.hf)]
    have hl : ∀ x ∈ split 32 p, stB 32 x = false := split_free 32 p
    refine ⟨split 32 p, ?_, ?_⟩
    · have e : p ++ 32 :: f = Lib.join (split 32 p ++ [f]) [32] := by
        rw [join_snoc' _ _ (by unfold split; simp), join_split]
      rw [e]
      refine split_join (by simp) (fun x hx => ?_)
      rcases List.mem_append.1 hx with hx | hx
      · exact hl x hx
      · simp at hx; subst hx; exact hf
    · have hne : ∀ x ∈ split 32 p, x ≠ [] := fun x hx => by
        unfold partB at hpt
        simp only [Bool.and_eq_true] at hpt
        have := List.all_eq_true.1 hpt.1 x hx
        rintro rfl
        revert this; decide
      rw [← jn_all hne, join_split]
end Go.Proofs.YtmdjdgamojndkaaDoor.NmPl
