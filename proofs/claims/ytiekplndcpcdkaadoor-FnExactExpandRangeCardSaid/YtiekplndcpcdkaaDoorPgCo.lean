/-
  Plain mathematics of ranges whose last page is shortened. Nothing of the program is named here.
-/
import Derived.Test.YtiekplndcpcdkaaDoorPgTx
import Derived.Test.YtiekplndcpcdkaaDoorNmPl
namespace Go.Proofs.YtiekplndcpcdkaaDoor.PgCo
open Pl ReadPl PgPl PgTx NmPl

/-- how many bytes at the beginning are the same -/
def sh : List UInt8 → List UInt8 → Nat
  | x :: a, y :: b => if x = y then sh a b + 1 else 0
  | _, _ => 0
theorem sh_le : ∀ (a b : List UInt8), sh a b ≤ a.length
  | [], _ => by simp [sh]
  | _ :: _, [] => by simp [sh]
  | x :: a, y :: b => by
    have := sh_le a b
    unfold sh
    split <;> simp <;> omega
theorem sh_lt : ∀ (a b : List UInt8), a.length = b.length → a ≠ b → sh a b < a.length
  | [], [], _, h => absurd rfl h
  | x :: a, y :: b, hl, hne => by
    unfold sh
    split
    · rename_i e
      subst e
      have := sh_lt a b (by simpa using hl) (fun e => hne (by rw [e]))
      simp; omega
    · simp
theorem sh_at {a b : ByteArray} {k : Nat} (h1 : k < a.size) (h2 : k < b.size) : sh (a.data.toList.drop k) (b.data.toList.drop k) = if a[k] = b[k] then sh (a.data.toList.drop (k + 1)) (b.data.toList.drop (k + 1)) + 1 else 0 := by
  rw [drop_cons a k h1, drop_cons b k h2, sh]
theorem sh_end {a b : ByteArray} {k : Nat} (h1 : a.size ≤ k) : sh (a.data.toList.drop k) (b.data.toList.drop k) = 0 := by
  rw [List.drop_eq_nil_of_le (by rw [len_size]; exact h1)]
  simp [sh]
/-- how much is left out -/
def lf (st : Int) (s n : Nat) : Nat := if st = 3 then min s (n - 2) else s
theorem lf_le (st : Int) (s n : Nat) : lf st s n ≤ s := by unfold lf; split <;> omega
/-- is nothing left out -/
def fullB (f t : Nat) (st : Int) : Bool := decide (st = 1 ∨ f = t ∨ (Lib.decDigits f).length ≠ (Lib.decDigits t).length)
/-- the shortened text -/
def cT (l : List UInt8) (f t : Nat) (st : Int) : List UInt8 :=
  if fullB f t st then rT l f t else (l ++ Lib.decDigits f) ++ 45 :: (Lib.decDigits t).drop (lf st (sh (Lib.decDigits f) (Lib.decDigits t)) (Lib.decDigits t).length)
theorem dec_inj {a b : Nat} (h : Lib.decDigits a = Lib.decDigits b) : a = b := by
  have := congrArg dval h
  rw [dec_val, dec_val] at this
  exact this
theorem not_full {f t : Nat} {st : Int} (h : fullB f t st = false) : st ≠ 1 ∧ f ≠ t ∧ (Lib.decDigits f).length = (Lib.decDigits t).length ∧ sh (Lib.decDigits f) (Lib.decDigits t) < (Lib.decDigits f).length := by
  unfold fullB at h
  rw [decide_eq_false_iff_not] at h
  have h1 : st ≠ 1 := fun e => h (.inl e)
  have h2 : f ≠ t := fun e => h (.inr (.inl e))
  have h3 : (Lib.decDigits f).length = (Lib.decDigits t).length := Classical.byContradiction fun e => h (.inr (.inr e))
  exact ⟨h1, h2, h3, sh_lt _ _ h3 (fun e => h2 (dec_inj e))⟩
theorem cT_len {l : List UInt8} {f t : Nat} {st : Int} (hl : l.length ≤ 1) (hf : f ≤ 99999) (ht : t ≤ 99999) : (cT l f t st).length ≤ 13 := by
  unfold cT
  split
  · exact rT_len hl hf ht
  · have h1 := dec5 hf
    have h2 := dec5 ht
    simp
    omega
/-- may the range be shortened in this way -/
def colB (x : Pr) (st : Int) : Bool := x.ok && decide (1 ≤ st ∧ st ≤ 3)
/-- what CollapseRange answers -/
def colS (z : Bool) (x : Pr) (st : Int) : ByteArray := if z then ba (cT x.l.data.toList x.f.toNat x.t.toNat st) else ⟨#[]⟩
end Go.Proofs.YtiekplndcpcdkaaDoor.PgCo
