/-
  Plain mathematics of the texts of ranges. Nothing of the program is named here.
-/
import Derived.Test.YtocgpoafhocbbaaDoorPlain
import Derived.Test.YtocgpoafhocbbaaDoorReadPl
import Derived.Test.YtocgpoafhocbbaaDoorPgPl
import Derived.Lib.Join
namespace Go.Proofs.YtocgpoafhocbbaaDoor.PgTx
open Pl ReadPl PgPl

/-- the text of a range -/
def rT (l : List UInt8) (f t : Nat) : List UInt8 := (l ++ Lib.decDigits f) ++ (if f < t then 45 :: (l ++ Lib.decDigits t) else [])
def T (x : Pr) : List UInt8 := rT x.l.data.toList x.f.toNat x.t.toNat
/-- the text of a list -/
def lT (L : List Pr) : List UInt8 := Lib.join (L.map T) [44, 32]
theorem dec5 {n : Nat} (h : n ≤ 99999) : (Lib.decDigits n).length ≤ 5 := dec_le 4 n (by omega)
theorem rT_len {l : List UInt8} {f t : Nat} (hl : l.length ≤ 1) (hf : f ≤ 99999) (ht : t ≤ 99999) : (rT l f t).length ≤ 13 := by
  have h1 := dec5 hf
  have h2 := dec5 ht
  unfold rT
  split <;> simp <;> omega
theorem ok_nat {x : Pr} (h : x.ok = true) : ∃ (f t : Nat), x.f = f ∧ x.t = t ∧ f ≤ 99999 ∧ t ≤ 99999 ∧ f ≤ t ∧ 1 ≤ f ∧ x.l.size ≤ 1 := by
  obtain ⟨h0, h1, h2, h3⟩ := okR_yes h
  exact ⟨x.f.toNat, x.t.toNat, by omega, by omega, by omega, by omega, by omega, by omega, lB_size h0⟩
theorem T_len {x : Pr} (h : x.ok = true) : (T x).length ≤ 13 := by
  obtain ⟨f, t, e1, e2, hf, ht, _, _, hl⟩ := ok_nat h
  unfold T
  exact rT_len (by rw [len_size]; exact hl) (by omega) (by omega)
theorem tail_snoc (sep : List UInt8) (r : List (List UInt8)) (x : List UInt8) : Lib.joinTail sep (r ++ [x]) = Lib.joinTail sep r ++ sep ++ x := by simp [Lib.joinTail, List.append_assoc]
theorem join_snoc {l : List (List UInt8)} (h : l ≠ []) (x sep : List UInt8) : Lib.join (l ++ [x]) sep = Lib.join l sep ++ sep ++ x := by
  cases l with
  | nil => exact absurd rfl h
  | cons y r => rw [List.cons_append, Lib.join_cons, tail_snoc, Lib.join_cons]; simp
theorem lT_snoc {L : List Pr} (h : L ≠ []) (x : Pr) : lT (L ++ [x]) = lT L ++ [44, 32] ++ T x := by
  unfold lT
  rw [List.map_append, List.map_cons, List.map_nil, join_snoc (by simpa using h)]
theorem lT_one (x : Pr) : lT [x] = T x := Lib.join_one _ _
theorem lT_len {L : List Pr} (h : ∀ x ∈ L, x.ok = true) : (lT L).length ≤ 15 * L.length := by
  cases L with
  | nil => simp [lT, Lib.join_nil]
  | cons y r =>
    unfold lT
    rw [List.map_cons, Lib.join_length]
    have : ∀ M : List Pr, (∀ x ∈ M, x.ok = true) → Lib.lens (M.map T) ≤ 13 * M.length := by
      intro M
      induction M with
      | nil => intro _; simp [Lib.lens]
      | cons z M ih =>
        intro hM
        have h1 := T_len (hM z (List.mem_cons_self ..))
        have h2 := ih (fun x hx => hM x (List.mem_cons_of_mem _ hx))
        simp only [Lib.lens, List.map_cons, List.sum_cons, List.length_cons] at h2 ⊢
        omega
    have := this (y :: r) h
    rw [List.map_cons] at this
    simp only [List.length_cons, List.length_map, List.length_nil] at this ⊢
    omega
/-- what FormatPages answers -/
def fmS (z : Bool) (L : List Pr) : ByteArray := if z then ba (lT L) else ⟨#[]⟩
end Go.Proofs.YtocgpoafhocbbaaDoor.PgTx
