/-
  Plain mathematics of completing a shortened range: which range a text can come from. Nothing of the program is named here.
-/
import Derived.Test.YtiekplndcpcdkaaDoorPgCo
import Derived.Test.YtiekplndcpcdkaaDoorCut
import Derived.Test.YtiekplndcpcdkaaDoorRead
namespace Go.Proofs.YtiekplndcpcdkaaDoor.PgEx
set_option linter.ambiguousOpen false
open Pl ReadPl PgPl PgTx PgCo NmPl SplitPl Stands Cut Read


def upF : List UInt8 → Bool
  | [] => false
  | c :: _ => isUp c
/-- the letter at the beginning of a page's text -/
def letL (l : List UInt8) : List UInt8 := if upF l then l.take 1 else []
def numL (l : List UInt8) : List UInt8 := l.drop (letL l).length
open Classical in
/-- the number that is written so -/
noncomputable def num (l : List UInt8) : Int × Bool := if h : ∃ n, InR n ∧ ba l = ba (Lib.itoa n) then (h.choose, true) else (0, false)
theorem num_par {l : List UInt8} {v : Value} (h : ParIs (ba l) v) : v = .tuple #[.int .i64 (num l).1, .bool (num l).2] := by
  refine h.uniq ?_
  unfold num
  split
  · rename_i h1
    exact .inl ⟨_, h1.choose_spec.1, h1.choose_spec.2, rfl⟩
  · rename_i h1
    exact .inr ⟨fun n hn e => h1 ⟨n, hn, e⟩, rfl⟩
theorem num_dec {n : Nat} (h : n ≤ 99999) : num (Lib.decDigits n) = ((n : Int), true) := by
  have h1 : ParIs (ba (Lib.decDigits n)) (.tuple #[.int .i64 n, .bool true]) := .inl ⟨n, ⟨by omega, by omega⟩, by rw [itoa_nat], rfl⟩
  have h2 := num_par h1
  simp at h2
  exact Prod.ext h2.1.symm h2.2
theorem num_in {l : List UInt8} : -999999 ≤ (num l).1 ∧ (num l).1 ≤ 999999 := by
  unfold num
  split
  · rename_i h; exact h.choose_spec.1
  · simp
/-- the parts of a text around the first hyphen -/
def fst (s : List UInt8) : List UInt8 := if stB 45 s then hd 45 s else s
def snd (s : List UInt8) : List UInt8 := if stB 45 s then rest 45 s else []
def comp (a b : List UInt8) : List UInt8 := a.take (a.length - b.length) ++ b
noncomputable def cand (s : List UInt8) : Pr := ⟨ba (letL (fst s)), (num (numL (fst s))).1, (num (numL (comp (fst s) (snd s)))).1⟩
/-- is s the text of r in one of the styles -/
def Ex (s : List UInt8) (r : Pr) : Prop := r.ok = true ∧ ∃ st : Int, (1 ≤ st ∧ st ≤ 3) ∧ cT r.l.data.toList r.f.toNat r.t.toNat st = s

theorem dec_dig (n : Nat) : ∃ d r, Lib.decDigits n = d :: r ∧ isD d := by
  cases h : Lib.decDigits n with
  | nil => exact absurd h (dec_ne n)
  | cons d r => exact ⟨d, r, rfl, dec_digs n d (by rw [h]; exact List.mem_cons_self ..)⟩
theorem dig_up {d : UInt8} (h : isD d) : isUp d = false := by
  unfold isD at h; unfold isUp; exact decide_eq_false (by omega)
theorem up_ne45 {d : UInt8} (h : isUp d = true) : d ≠ 45 := by
  rintro rfl; revert h; decide
/-- a valid letter -/
theorem letter_forms {l : ByteArray} (h : lB l = true) : l.data.toList = [] ∨ ∃ c, l.data.toList = [c] ∧ isUp c = true := by
  unfold lB at h
  split at h
  · rename_i e; exact .inl e
  · rename_i c e; exact .inr ⟨c, e, h⟩
  · cases h
def Lt (l : List UInt8) : Prop := l = [] ∨ ∃ c, l = [c] ∧ isUp c = true
theorem let_dec {l : List UInt8} (h : Lt l) (n : Nat) : letL (l ++ Lib.decDigits n) = l ∧ numL (l ++ Lib.decDigits n) = Lib.decDigits n := by
  have h1 : letL (l ++ Lib.decDigits n) = l := by
    rcases h with rfl | ⟨c, rfl, hc⟩
    · obtain ⟨d, r, e, hd⟩ := dec_dig n
      rw [List.nil_append, e]
      unfold letL upF
      simp [dig_up hd]
    · unfold letL upF
      simp [hc]
  exact ⟨h1, by unfold numL; rw [h1]; simp⟩
theorem no45 {l : List UInt8} (h : Lt l) (n : Nat) : stB 45 (l ++ Lib.decDigits n) = false := by
  unfold stB
  rw [Bool.eq_false_iff]
  intro h1
  rw [List.contains_iff_mem] at h1
  rcases List.mem_append.1 h1 with h2 | h2
  · rcases h with rfl | ⟨c, rfl, hc⟩
    · cases h2
    · exact up_ne45 hc (List.mem_singleton.1 h2).symm
  · have := dec_digs n 45 h2
    unfold isD at this
    revert this; decide
theorem st_mid (x y : List UInt8) : stB 45 (x ++ 45 :: y) = true := by
  unfold stB; rw [List.contains_iff_mem]; simp
theorem parts {x y : List UInt8} (h : stB 45 x = false) : fst (x ++ 45 :: y) = x ∧ snd (x ++ 45 :: y) = y := by
  unfold fst snd
  rw [if_pos (st_mid x y), if_pos (st_mid x y), hd_app h]
  refine ⟨rfl, ?_⟩
  unfold rest
  rw [hd_app h]
  simp
theorem parts0 {x : List UInt8} (h : stB 45 x = false) : fst x = x ∧ snd x = [] := by
  unfold fst snd
  rw [if_neg (by rw [h]; exact Bool.false_ne_true), if_neg (by rw [h]; exact Bool.false_ne_true)]
  exact ⟨rfl, rfl⟩
theorem dec_mono : ∀ (f t : Nat), f ≤ t → (Lib.decDigits f).length ≤ (Lib.decDigits t).length := by
  intro f
  induction f using Nat.strongRecOn with
  | _ f ih =>
    intro t h
    by_cases hf : f < 10
    · rw [dec_small hf]
      have := dec_pos t
      simp; omega
    · rw [dec_big hf, dec_big (by omega : ¬ t < 10), List.length_append, List.length_append]
      have := ih (f / 10) (by omega) (t / 10) (by omega)
      simp; omega
theorem take_sh : ∀ (a b : List UInt8) (k : Nat), k ≤ sh a b → a.take k = b.take k
  | _, _, 0, _ => by simp
  | [], b, k + 1, h => by simp [sh] at h
  | x :: a, [], k + 1, h => by simp [sh] at h
  | x :: a, y :: b, k + 1, h => by
    unfold sh at h
    split at h
    · rename_i e
      rw [List.take_succ_cons, List.take_succ_cons, e, take_sh a b k (by omega)]
    · omega
/-- the shapes that the text of a range can have -/
theorem shapes {l : List UInt8} {f t : Nat} {st : Int} (hft : f ≤ t) :
    (f = t ∧ cT l f t st = l ++ Lib.decDigits f) ∨ (f < t ∧ cT l f t st = (l ++ Lib.decDigits f) ++ 45 :: (l ++ Lib.decDigits t)) ∨
    ((Lib.decDigits f).length = (Lib.decDigits t).length ∧ ∃ k, k ≤ sh (Lib.decDigits f) (Lib.decDigits t) ∧ k < (Lib.decDigits t).length ∧ cT l f t st = (l ++ Lib.decDigits f) ++ 45 :: (Lib.decDigits t).drop k) := by
  cases hfu : fullB f t st with
  | true =>
    have e : cT l f t st = rT l f t := by unfold cT; rw [if_pos hfu]
    rcases Nat.lt_or_ge f t with h | h
    · refine .inr (.inl ⟨h, ?_⟩)
      rw [e]; unfold rT; rw [if_pos h]
    · obtain rfl : f = t := by omega
      refine .inl ⟨rfl, ?_⟩
      rw [e]; unfold rT; rw [if_neg (Nat.lt_irrefl _), List.append_nil]
  | false =>
    obtain ⟨h1, h2, h3, h4⟩ := not_full hfu
    refine .inr (.inr ⟨h3, lf st (sh (Lib.decDigits f) (Lib.decDigits t)) (Lib.decDigits t).length, lf_le _ _ _, ?_, ?_⟩)
    · have := lf_le st (sh (Lib.decDigits f) (Lib.decDigits t)) (Lib.decDigits t).length
      omega
    · unfold cT; rw [if_neg (by rw [hfu]; exact Bool.false_ne_true)]
theorem comp_short {l : List UInt8} {f t k : Nat} (h3 : (Lib.decDigits f).length = (Lib.decDigits t).length) (hk : k ≤ sh (Lib.decDigits f) (Lib.decDigits t)) (hkl : k < (Lib.decDigits t).length) : comp (l ++ Lib.decDigits f) ((Lib.decDigits t).drop k) = l ++ Lib.decDigits t := by
  unfold comp
  rw [List.length_append, List.length_drop, show l.length + (Lib.decDigits f).length - ((Lib.decDigits t).length - k) = l.length + k by omega, List.take_append, List.take_of_length_le (by omega), show l.length + k - l.length = k by omega, take_sh _ _ k hk, List.append_assoc, List.take_append_drop]
theorem comp_long {l : List UInt8} {f t : Nat} (h : f ≤ t) : comp (l ++ Lib.decDigits f) (l ++ Lib.decDigits t) = l ++ Lib.decDigits t := by
  have := dec_mono f t h
  unfold comp
  rw [List.length_append, List.length_append, show l.length + (Lib.decDigits f).length - (l.length + (Lib.decDigits t).length) = 0 by omega]
  simp
/-- only one range can have the text -/
theorem cand_of {s : List UInt8} {r : Pr} (h : Ex s r) : cand s = r := by
  obtain ⟨hok, st, _, hs⟩ := h
  obtain ⟨f, t, e1, e2, hf, ht, hft, h1, _⟩ := ok_nat hok
  have hl : Lt r.l.data.toList := letter_forms (okR_yes hok).1
  obtain ⟨rl, rf, rt⟩ := r
  dsimp only at e1 e2 hl hs
  subst e1
  subst e2
  rw [Int.toNat_natCast, Int.toNat_natCast] at hs
  obtain ⟨a1, a2⟩ := let_dec hl f
  obtain ⟨b1, b2⟩ := let_dec hl t
  have n1 := num_dec hf
  have n2 := num_dec ht
  have hfin : fst s = rl.data.toList ++ Lib.decDigits f → comp (fst s) (snd s) = rl.data.toList ++ Lib.decDigits t → cand s = ⟨rl, f, t⟩ := by
    intro g1 g2
    unfold cand
    rw [g2, g1, a1, a2, b2, n1, n2, ba_toList]
  subst hs
  rcases shapes (l := rl.data.toList) (st := st) hft with ⟨rfl, e⟩ | ⟨hlt, e⟩ | ⟨h3, k, hk, hkl, e⟩
  · obtain ⟨p1, p2⟩ := parts0 (no45 hl f)
    rw [← e] at p1 p2
    refine hfin (p1.trans e) ?_
    rw [p1, p2, e]
    unfold comp
    rw [List.length_nil, Nat.sub_zero, List.take_length, List.append_nil]
  · obtain ⟨p1, p2⟩ := parts (y := rl.data.toList ++ Lib.decDigits t) (no45 hl f)
    rw [← e] at p1 p2
    refine hfin p1 ?_
    rw [p1, p2, comp_long hft]
  · obtain ⟨p1, p2⟩ := parts (y := (Lib.decDigits t).drop k) (no45 hl f)
    rw [← e] at p1 p2
    refine hfin p1 ?_
    rw [p1, p2, comp_short h3 hk hkl]
theorem ex_one {s : List UInt8} {r r' : Pr} (h : Ex s r) (h' : Ex s r') : r = r' := (cand_of h).symm.trans (cand_of h')

/-! the model's way -/
noncomputable def okN (l : List UInt8) : Bool := decide ((numL l).length ≤ 5) && ((num (numL l)).2 && decide (0 < (num (numL l)).1))
def dg1 (a b : List UInt8) : List UInt8 := if (letL a).isEmpty = false ∧ b.isEmpty = false ∧ b.head? = (letL a).head? then b.drop 1 else b
def dg2 (full d : List UInt8) : List UInt8 := if d.length < full.length then full.take (full.length - d.length) ++ d else d
noncomputable def full (s : List UInt8) : List UInt8 := Lib.itoa (num (numL (fst s))).1
noncomputable def dgs (s : List UInt8) : List UInt8 := dg2 (full s) (dg1 (fst s) (snd s))
noncomputable def candS (s : List UInt8) : Pr := ⟨ba (letL (fst s)), (num (numL (fst s))).1, if stB 45 s then (num (numL (dgs s))).1 else (num (numL (fst s))).1⟩
theorem candS_of {s : List UInt8} {r : Pr} (h : Ex s r) : okN (fst s) = true ∧ (stB 45 s = true → okN (dgs s) = true) ∧ candS s = r := by
  obtain ⟨hok, st, _, hs⟩ := h
  obtain ⟨f, t, e1, e2, hf, ht, hft, h1, _⟩ := ok_nat hok
  have hl : Lt r.l.data.toList := letter_forms (okR_yes hok).1
  obtain ⟨rl, rf, rt⟩ := r
  dsimp only at e1 e2 hl hs
  subst e1
  subst e2
  rw [Int.toNat_natCast, Int.toNat_natCast] at hs
  obtain ⟨a1, a2⟩ := let_dec hl f
  obtain ⟨z1, z2⟩ := let_dec (.inl rfl : Lt []) t
  rw [List.nil_append] at z1 z2
  have n1 := num_dec hf
  have n2 := num_dec ht
  have okF : okN (rl.data.toList ++ Lib.decDigits f) = true := by
    unfold okN
    rw [a2, n1, decide_eq_true (dec5 hf), decide_eq_true (show (0 : Int) < ((f : Int), true).1 by show (0 : Int) < f; omega)]
    rfl
  have okT : okN (Lib.decDigits t) = true := by
    unfold okN
    rw [z2, n2, decide_eq_true (dec5 ht), decide_eq_true (show (0 : Int) < ((t : Int), true).1 by show (0 : Int) < t; omega)]
    rfl
  have hfu : fst s = rl.data.toList ++ Lib.decDigits f → full s = Lib.decDigits f := fun e => by
    unfold full
    rw [e, a2, n1]
    exact itoa_nat f
  have hmid : stB 45 s = true → fst s = rl.data.toList ++ Lib.decDigits f → dgs s = Lib.decDigits t → okN (fst s) = true ∧ (stB 45 s = true → okN (dgs s) = true) ∧ candS s = ⟨rl, f, t⟩ := by
    intro g0 g1 g2
    refine ⟨by rw [g1]; exact okF, fun _ => by rw [g2]; exact okT, ?_⟩
    unfold candS
    rw [if_pos g0, g2, g1, a1, a2, z2, n1, n2, ba_toList]
  subst hs
  rcases shapes (l := rl.data.toList) (st := st) hft with ⟨rfl, e⟩ | ⟨hlt, e⟩ | ⟨h3, k, hk, hkl, e⟩
  · have hn := no45 hl f
    obtain ⟨p1, p2⟩ := parts0 hn
    rw [← e] at p1 p2 hn
    have p1' := p1.trans e
    refine ⟨by rw [p1']; exact okF, fun h => (by rw [hn] at h; cases h), ?_⟩
    unfold candS
    rw [if_neg (by rw [hn]; exact Bool.false_ne_true), p1', a1, a2, n1, ba_toList]
  · obtain ⟨p1, p2⟩ := parts (y := rl.data.toList ++ Lib.decDigits t) (no45 hl f)
    have hm := st_mid (rl.data.toList ++ Lib.decDigits f) (rl.data.toList ++ Lib.decDigits t)
    rw [← e] at p1 p2 hm
    refine hmid hm p1 ?_
    have hd1 : dg1 (fst (cT rl.data.toList f t st)) (snd (cT rl.data.toList f t st)) = Lib.decDigits t := by
      rw [p1, p2]
      unfold dg1
      rw [a1]
      rcases hl with hl | ⟨c, hl, hc⟩
      · rw [hl]; simp
      · rw [hl]; simp
    unfold dgs
    rw [hd1, hfu p1]
    unfold dg2
    rw [if_neg (by have := dec_mono f t hft; omega)]
  · obtain ⟨p1, p2⟩ := parts (y := (Lib.decDigits t).drop k) (no45 hl f)
    have hm := st_mid (rl.data.toList ++ Lib.decDigits f) ((Lib.decDigits t).drop k)
    rw [← e] at p1 p2 hm
    refine hmid hm p1 ?_
    have hd1 : dg1 (fst (cT rl.data.toList f t st)) (snd (cT rl.data.toList f t st)) = (Lib.decDigits t).drop k := by
      rw [p1, p2]
      unfold dg1
      rw [a1]
      rw [if_neg]
      rintro ⟨g1, g2, g3⟩
      rcases hl with hl | ⟨c, hl, hc⟩
      · rw [hl] at g1; simp at g1
      · rw [hl] at g3
        cases hd : (Lib.decDigits t).drop k with
        | nil => rw [hd] at g2; simp at g2
        | cons d q =>
          rw [hd] at g3
          simp at g3
          have hdd : isD d := dec_digs t d (List.mem_of_mem_drop (i := k) (by rw [hd]; exact List.mem_cons_self ..))
          have := dig_up hdd
          rw [g3, hc] at this
          cases this
    unfold dgs
    rw [hd1, hfu p1]
    unfold dg2
    split
    · rw [List.length_drop, h3, show (Lib.decDigits t).length - ((Lib.decDigits t).length - k) = k by omega, take_sh _ _ k hk, List.take_append_drop]
    · rename_i h9
      rw [List.length_drop] at h9
      obtain rfl : k = 0 := by omega
      rfl
end Go.Proofs.YtiekplndcpcdkaaDoor.PgEx
