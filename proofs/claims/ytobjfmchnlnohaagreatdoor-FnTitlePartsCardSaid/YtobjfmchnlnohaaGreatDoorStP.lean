/-
  Plain mathematics of chapter 6: the sorting form of a title. Nothing of the program is named here.
-/
import Derived.Test.YtobjfmchnlnohaaGreatDoorTcPl
import Derived.Lib.Fields
namespace Go.Proofs.YtobjfmchnlnohaaGreatDoor.TiPl
open Pl NmPl
set_option linter.unusedSimpArgs false

def isDg (c : UInt8) : Bool := decide (48 ≤ c.toNat ∧ c.toNat ≤ 57)
def keepB (c : UInt8) : Bool := isLt c || (isDg c || decide (c.toNat = 32))
/-- the bytes by which titles are sorted -/
def sbf (l : List UInt8) : List UInt8 := l.filter keepB
theorem sbf_snoc (l : List UInt8) (c : UInt8) : sbf (l ++ [c]) = sbf l ++ (if keepB c = true then [c] else []) := by
  unfold sbf
  rw [List.filter_append]
  by_cases h : keepB c = true
  · rw [if_pos h]; simp [h]
  · rw [if_neg h]; simp [h]
theorem sbf_len (l : List UInt8) : (sbf l).length ≤ l.length := List.length_filter_le _ _
/-- the words with letters and digits alone, in one pass -/
def smGo : List UInt8 → List UInt8 → List (List UInt8)
  | cur, [] => if cur.isEmpty then [] else [cur]
  | cur, c :: r => if c.toNat = 32 then (if cur.isEmpty then smGo [] r else cur :: smGo [] r) else if (isLt c || isDg c) = true then smGo (cur ++ [Lib.lowerB c]) r else smGo cur r
theorem sp_low {c : UInt8} (h : (isLt c || isDg c) = true) : Lib.isSp (Lib.lowerB c) = false := by
  cases hu : Lib.isUpperB c with
  | true =>
    have h1 := up_range hu
    have h2 := lowerB_of hu
    generalize Lib.lowerB c = d at *
    have : 97 ≤ d.toNat ∧ d.toNat ≤ 122 := by omega
    simp only [Lib.isSp]
    have e : ∀ n : Nat, n < 97 → (d == UInt8.ofNat n) = false := fun n hn => by rw [beqN d n (by omega)]; simp; omega
    simp [show (d == 9) = false from e 9 (by omega), show (d == 10) = false from e 10 (by omega), show (d == 11) = false from e 11 (by omega), show (d == 12) = false from e 12 (by omega), show (d == 13) = false from e 13 (by omega), show (d == 32) = false from e 32 (by omega)]
  | false =>
    rw [Lib.lowerB_of_not c hu]
    have hc : 48 ≤ c.toNat := by
      simp [isLt, isUp, isLo, isDg] at h; omega
    simp only [Lib.isSp]
    have e : ∀ n : Nat, n < 48 → (c == UInt8.ofNat n) = false := fun n hn => by rw [beqN c n (by omega)]; simp; omega
    simp [show (c == 9) = false from e 9 (by omega), show (c == 10) = false from e 10 (by omega), show (c == 11) = false from e 11 (by omega), show (c == 12) = false from e 12 (by omega), show (c == 13) = false from e 13 (by omega), show (c == 32) = false from e 32 (by omega)]
theorem sp_32 {c : UInt8} (h : c.toNat = 32) : Lib.lowerB c = 32 ∧ Lib.isSp (Lib.lowerB c) = true := by
  have : c = 32 := UInt8.toNat_inj.1 h
  subst this
  exact ⟨rfl, rfl⟩
theorem fields_sm : ∀ (l cur : List UInt8), Lib.fieldsGo cur ((sbf l).map Lib.lowerB) = smGo cur l
  | [], cur => rfl
  | c :: r, cur => by
    unfold smGo
    by_cases h32 : c.toNat = 32
    · have hk : keepB c = true := by simp [keepB, h32]
      obtain ⟨_, h2⟩ := sp_32 h32
      rw [if_pos h32]
      have e : (sbf (c :: r)).map Lib.lowerB = Lib.lowerB c :: (sbf r).map Lib.lowerB := by simp [sbf, hk]
      rw [e]
      cases cur with
      | nil => rw [Lib.fieldsGo_sp _ _ h2, fields_sm r]; rfl
      | cons a q => rw [Lib.fieldsGo_end _ _ _ h2 (by simp), fields_sm r]; rfl
    · rw [if_neg h32]
      by_cases hld : (isLt c || isDg c) = true
      · have hk : keepB c = true := by
          unfold keepB
          cases h1 : isLt c <;> cases h2 : isDg c <;> simp_all
        rw [if_pos hld]
        have e : (sbf (c :: r)).map Lib.lowerB = Lib.lowerB c :: (sbf r).map Lib.lowerB := by simp [sbf, hk]
        rw [e, Lib.fieldsGo_more _ _ _ (sp_low hld), fields_sm r]
      · have hk : keepB c = false := by
          unfold keepB
          cases h1 : isLt c <;> cases h2 : isDg c <;> simp_all
        rw [if_neg hld]
        have e : (sbf (c :: r)).map Lib.lowerB = (sbf r).map Lib.lowerB := by simp [sbf, hk]
        rw [e, fields_sm r]
/-- the words -/
def simple (l : List UInt8) : List (List UInt8) := smGo [] l
theorem fields_simple (l : List UInt8) : Lib.fields ((sbf l).map Lib.lowerB) = simple l := fields_sm l []
/-- what is left behind place k, n bytes in all -/
def smRest (l : List UInt8) (k : Nat) (cur : List UInt8) : List (List UInt8) := if k ≤ l.length then smGo cur (l.drop k) else []
def flush (cur : List UInt8) : List (List UInt8) := if cur.isEmpty then [] else [cur]
theorem rest_end (l cur : List UInt8) : smRest l l.length cur = flush cur := by
  unfold smRest
  rw [if_pos (Nat.le_refl _), List.drop_length]
  rfl
theorem rest_over (l cur : List UInt8) : smRest l (l.length + 1) cur = [] := by
  unfold smRest
  rw [if_neg (by omega)]
theorem rest_at {l : List UInt8} {k : Nat} {c : UInt8} (h : l[k]? = some c) (cur : List UInt8) : smRest l k cur =
    if c.toNat = 32 then flush cur ++ smRest l (k + 1) [] else if (isLt c || isDg c) = true then smRest l (k + 1) (cur ++ [Lib.lowerB c]) else smRest l (k + 1) cur := by
  obtain ⟨hk, rfl⟩ := List.getElem?_eq_some_iff.1 h
  have hk1 : k ≤ l.length := by omega
  have hk2 : k + 1 ≤ l.length := by omega
  simp only [smRest, if_pos hk1, if_pos hk2]
  rw [List.drop_eq_getElem_cons hk]
  conv => lhs; unfold smGo
  unfold flush
  by_cases h32 : l[k].toNat = 32
  · rw [if_pos h32, if_pos h32]
    cases cur <;> rfl
  · rw [if_neg h32, if_neg h32]
theorem sm_off : ∀ (l cur : List UInt8), off (smGo cur l) ≤ cur.length + l.length + 1
  | [], cur => by unfold smGo; cases cur <;> simp [off]
  | c :: r, cur => by
    unfold smGo
    split
    · split
      · have := sm_off r []; simp at this ⊢; omega
      · rw [off_cons]; have := sm_off r []; simp at this ⊢; omega
    · split
      · have := sm_off r (cur ++ [Lib.lowerB c]); simp at this ⊢; omega
      · have := sm_off r cur; simp at this ⊢; omega
/-- is it an article -/
def artB (x : List UInt8) : Bool := x == [97] || (x == [97, 110] || x == [116, 104, 101])
/-- the first article left out -/
def srt (F : List (List UInt8)) : List (List UInt8) := if 2 ≤ F.length ∧ artB (F.getD 0 []) = true then F.tail else F
theorem off_drop1 (F : List (List UInt8)) : off F.tail ≤ off F := by
  cases F with
  | nil => simp
  | cons x F => rw [off_cons]; simp
theorem srt_off (F : List (List UInt8)) : off (srt F) ≤ off F := by
  unfold srt
  split
  · exact off_drop1 F
  · exact Nat.le_refl _
end Go.Proofs.YtobjfmchnlnohaaGreatDoor.TiPl
