/-
  Plain mathematics of the initials of a word.
-/
import Derived.Test.YtdjkgkfgnmcldaaDoorNmPl
import Derived.Test.YtdjkgkfgnmcldaaDoorCut
import Derived.Lib.Case
namespace Go.Proofs.YtdjkgkfgnmcldaaDoor.IniPl
open Pl Stands SplitPl NmPl Cut

def up3 (p : List UInt8) : List UInt8 := [45, Lib.upperB (p.headD 0), 46]
def iniT (ps : List (List UInt8)) : List UInt8 := (ps.map up3).flatten
/-- the initials of a word -/
def ini (l : List UInt8) : List UInt8 := [l.headD 0, 46] ++ iniT (split 45 l).tail
/-- what the model scans -/
def scan : List UInt8 → List UInt8
  | a :: b :: l => (if a = 45 then [45, Lib.upperB b, 46] else []) ++ scan (b :: l)
  | _ => []
theorem scan_free : ∀ (x : List UInt8), stB 45 x = false → scan x = []
  | [], _ => rfl
  | [_], _ => rfl
  | a :: b :: l, h => by
    have h1 : a ≠ 45 := by intro e; subst e; simp [stB] at h
    have h2 : stB 45 (b :: l) = false := by
      unfold stB at h ⊢; rw [List.contains_cons] at h; simp only [Bool.or_eq_false_iff] at h; exact h.2
    rw [scan, if_neg h1, scan_free (b :: l) h2]; rfl
theorem scan_app : ∀ (x : List UInt8) (c : UInt8) (y : List UInt8), stB 45 x = false → scan (x ++ 45 :: c :: y) = [45, Lib.upperB c, 46] ++ scan (c :: y)
  | [], c, y, _ => by simp [scan]
  | [a], c, y, h => by
    have h1 : a ≠ 45 := by intro e; subst e; simp [stB] at h
    show scan (a :: 45 :: c :: y) = _
    rw [scan, if_neg h1]; simp [scan]
  | a :: b :: l, c, y, h => by
    have h1 : a ≠ 45 := by intro e; subst e; simp [stB] at h
    have h2 : stB 45 (b :: l) = false := by
      unfold stB at h ⊢; rw [List.contains_cons] at h; simp only [Bool.or_eq_false_iff] at h; exact h.2
    have := scan_app (b :: l) c y h2
    show scan (a :: b :: (l ++ 45 :: c :: y)) = _
    rw [scan, if_neg h1, List.nil_append]
    exact this
theorem wgo_cut : ∀ (x : List UInt8) (p : Bool) (y : List UInt8), wgo p (x ++ 45 :: y) = true → (x = [] → p = true) ∧ wgo false y = true
  | [], p, y, h => by
    have e : isLt 45 = false := by decide
    simp only [List.nil_append, wgo, e] at h
    split at h
    · cases ‹false = true›
    · split at h
      · exact ⟨fun _ => (‹p = true ∧ _›).1, h⟩
      · cases h
  | a :: x, p, y, h => by
    rw [List.cons_append] at h
    by_cases ha : isLt a = true
    · rw [wgo_lt ha] at h
      exact ⟨(fun e => by cases e), (wgo_cut x true y h).2⟩
    · have ha' : isLt a = false := by simpa using ha
      simp only [wgo, ha'] at h
      split at h
      · cases ‹false = true›
      · split at h
        · exact ⟨(fun e => by cases e), (wgo_cut x false y h).2⟩
        · cases h
theorem wgo_head {l : List UInt8} (h : wgo false l = true) : ∃ c t, l = c :: t ∧ isLt c = true := by
  cases l with
  | nil => cases h
  | cons c t =>
    refine ⟨c, t, rfl, ?_⟩
    cases hc : isLt c with
    | true => rfl
    | false => rw [wgo_no' hc] at h; cases h
theorem lt_small {c : UInt8} (h : isLt c = true) : c.toNat < 128 := by
  unfold isLt isUp isLo at h
  simp at h
  omega
theorem headD_app (x : List UInt8) (b : UInt8) (y : List UInt8) (h : x ≠ []) : (x ++ b :: y).headD 0 = x.headD 0 := by
  cases x with
  | nil => exact absurd rfl h
  | cons a r => rfl
/-- one step of the program's loop -/
theorem iniT_free {r : List UInt8} (h : stB 45 r = false) : iniT (split 45 r) = up3 r := by
  rw [split_one h]; simp [iniT]
theorem iniT_cut {r : List UInt8} (h : stB 45 r = true) : iniT (split 45 r) = up3 (hd 45 r) ++ iniT (split 45 (rest 45 r)) := by
  conv => lhs; rw [hd_rest h]
  rw [split_cons (hd_nofind 45 r)]
  simp [iniT]
theorem ini_free {l : List UInt8} (h : stB 45 l = false) : ini l = [l.headD 0, 46] := by
  unfold ini; rw [split_one h]; simp [iniT]
theorem ini_cut {l : List UInt8} (h : stB 45 l = true) (hw : wgo false l = true) : ini l = [(hd 45 l).headD 0, 46] ++ iniT (split 45 (rest 45 l)) := by
  have e := hd_rest h
  rw [e] at hw
  have hne : hd 45 l ≠ [] := fun h0 => by have := (wgo_cut _ _ _ hw).1 h0; cases this
  unfold ini
  rw [e, split_cons (hd_nofind 45 l), headD_app _ _ _ hne, ← e]
  rfl
theorem rest_wgo {l : List UInt8} (h : stB 45 l = true) (hw : wgo false l = true) : wgo false (rest 45 l) = true := by
  rw [hd_rest h] at hw
  exact (wgo_cut _ _ _ hw).2
theorem hd_head {l : List UInt8} (h : stB 45 l = true) (hw : wgo false l = true) : ∃ c t, hd 45 l = c :: t ∧ isLt c = true ∧ l.headD 0 = c := by
  obtain ⟨c, t, e, hc⟩ := wgo_head hw
  have e2 := hd_rest h
  rw [e2] at hw
  have hne : hd 45 l ≠ [] := fun h0 => by have := (wgo_cut _ _ _ hw).1 h0; cases this
  cases hh : hd 45 l with
  | nil => exact absurd hh hne
  | cons a r =>
    rw [hh, e] at e2
    simp only [List.cons_append, List.cons.injEq] at e2
    exact ⟨a, r, rfl, by rw [← e2.1]; exact hc, by rw [e, List.headD_cons]; exact e2.1⟩
theorem scan_iniT : ∀ (n : Nat) (l : List UInt8), l.length ≤ n → wgo false l = true → scan l = iniT (split 45 l).tail
  | 0, l, hl, hw => by
    have : l = [] := List.eq_nil_of_length_eq_zero (by omega)
    subst this; cases hw
  | n + 1, l, hl, hw => by
    cases h : stB 45 l with
    | false => rw [scan_free l h, split_one h]; rfl
    | true =>
      have e := hd_rest h
      have hr := rest_wgo h hw
      obtain ⟨c, t, er, _⟩ := wgo_head hr
      have hlen : (rest 45 l).length ≤ n := by
        have := congrArg List.length e
        simp at this; omega
      have ih := scan_iniT n (rest 45 l) hlen hr
      have e3 : split 45 l = hd 45 l :: split 45 (rest 45 l) := by
        have := split_cons (hd_nofind 45 l) (rest 45 l)
        rwa [← e] at this
      have e4 : split 45 (rest 45 l) = hd 45 (rest 45 l) :: (split 45 (rest 45 l)).tail := by
        have := split_hd 45 (rest 45 l)
        cases hs : split 45 (rest 45 l) with
        | nil => rw [hs] at this; cases this
        | cons a r => rw [hs] at this; simp at this; rw [this]; rfl
      have hh : (hd 45 (rest 45 l)).headD 0 = c := by
        cases h2 : stB 45 (rest 45 l) with
        | false => rw [hd_free h2, er]; rfl
        | true =>
          obtain ⟨c', t', e', _, e''⟩ := hd_head h2 hr
          rw [e', List.headD_cons, ← e'', er]; rfl
      rw [e3, List.tail_cons, e4]
      conv => lhs; rw [e, er]
      rw [scan_app _ _ _ (hd_nofind 45 l), ← er, ih]
      have hup : up3 (hd 45 (rest 45 l)) = [45, Lib.upperB c, 46] := by unfold up3; rw [hh]
      simp [iniT, hup]
theorem ini_scan {l : List UInt8} (hw : wgo false l = true) : ini l = [l.headD 0, 46] ++ scan l := by
  unfold ini; rw [scan_iniT _ l (Nat.le_refl _) hw]
theorem word_wgo {l : List UInt8} (h : wordB l = true) : wgo false l = true := by
  unfold wordB at h; simp only [Bool.and_eq_true] at h; exact h.2
theorem scan_drop (s : ByteArray) (k : Nat) (h : k + 1 < s.size) : scan (s.data.toList.drop k) = (if s[k] = 45 then [45, Lib.upperB s[k + 1], 46] else []) ++ scan (s.data.toList.drop (k + 1)) := by
  rw [drop_cons s k (by omega), drop_cons s (k + 1) h, scan]
theorem scan_end (s : ByteArray) (k : Nat) (h : s.size ≤ k + 1) : scan (s.data.toList.drop k) = [] := by
  by_cases hk : k < s.size
  · rw [drop_cons s k hk, drop_all s (k + 1) h]; rfl
  · rw [drop_all s k (by omega)]; rfl
theorem lowerB_lo (c : UInt8) : Lib.isLowerB c = isLo c := by
  unfold Lib.isLowerB isLo
  rw [Bool.eq_iff_iff]
  simp [UInt8.le_iff_toNat_le]
theorem up_lo {c : UInt8} (h : isLo c = true) : Lib.upperB c = UInt8.ofNat (((c.toNat : Int) - 32).toNat) := by
  unfold Lib.upperB
  rw [lowerB_lo, h, if_pos rfl]
  have h2 : 97 ≤ c.toNat ∧ c.toNat ≤ 122 := by unfold isLo at h; simpa using h
  apply UInt8.toNat_inj.1
  rw [UInt8.toNat_sub_of_le _ _ (by rw [UInt8.le_iff_toNat_le]; show 32 ≤ c.toNat; omega)]
  have e : ((c.toNat : Int) - 32).toNat = c.toNat - 32 := by omega
  rw [e]
  simp
  omega
theorem up_no {c : UInt8} (h : isLo c = false) : Lib.upperB c = c := by
  unfold Lib.upperB
  rw [lowerB_lo, h]; rfl
end Go.Proofs.YtdjkgkfgnmcldaaDoor.IniPl
