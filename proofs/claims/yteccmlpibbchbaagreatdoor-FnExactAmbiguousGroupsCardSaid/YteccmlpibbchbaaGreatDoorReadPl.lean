/-
  Plain mathematics of reading a number: digits, their value, and that what is written is read back.
-/
import Derived.Test.YteccmlpibbchbaaGreatDoorPlain
import Derived.Lib.ItoaNum
import Derived.Lib.AtoiAll
import Derived.WalkKit
namespace Go.Proofs.YteccmlpibbchbaaGreatDoor.ReadPl
open Pl

def isD (c : UInt8) : Prop := 48 ≤ c.toNat ∧ c.toNat ≤ 57
/-- the value of digits -/
def dval (l : List UInt8) : Nat := l.foldl (fun a c => 10 * a + (c.toNat - 48)) 0
theorem dval_snoc (l : List UInt8) (c : UInt8) : dval (l ++ [c]) = 10 * dval l + (c.toNat - 48) := by simp [dval, List.foldl_append]
theorem dig_nat (k : Nat) (h : k < 10) : (UInt8.ofNat (48 + k)).toNat = 48 + k := by
  rw [UInt8.toNat_ofNat']
  omega
theorem dec_small {u : Nat} (h : u < 10) : Lib.decDigits u = [UInt8.ofNat (48 + u)] := by rw [Lib.decDigits, dif_pos h]
theorem dec_big {u : Nat} (h : ¬ u < 10) : Lib.decDigits u = Lib.decDigits (u / 10) ++ [UInt8.ofNat (48 + u % 10)] := by rw [Lib.decDigits, dif_neg h]
theorem dec_val (u : Nat) : dval (Lib.decDigits u) = u := by
  induction u using Nat.strongRecOn with
  | _ u ih =>
    by_cases h : u < 10
    · rw [dec_small h]
      have := dig_nat u h
      simp only [dval, List.foldl_cons, List.foldl_nil]
      omega
    · rw [dec_big h, dval_snoc, ih (u / 10) (by omega), dig_nat (u % 10) (by omega)]
      omega
theorem dec_digs (u : Nat) : ∀ c ∈ Lib.decDigits u, isD c := by
  induction u using Nat.strongRecOn with
  | _ u ih =>
    intro c hc
    by_cases h : u < 10
    · rw [dec_small h] at hc
      simp only [List.mem_singleton] at hc
      have := dig_nat u h
      subst hc
      exact ⟨by omega, by omega⟩
    · rw [dec_big h] at hc
      rcases List.mem_append.1 hc with hc | hc
      · exact ih (u / 10) (by omega) c hc
      · simp only [List.mem_singleton] at hc
        have := dig_nat (u % 10) (by omega)
        subst hc
        exact ⟨by omega, by omega⟩
theorem dec_pos (u : Nat) : 1 ≤ (Lib.decDigits u).length := by
  by_cases h : u < 10
  · rw [dec_small h]; simp
  · rw [dec_big h]; simp
theorem dec_le (k : Nat) : ∀ u, u < 10 ^ (k + 1) → (Lib.decDigits u).length ≤ k + 1 := by
  induction k with
  | zero => intro u hu; rw [dec_small (by simpa using hu)]; simp
  | succ k ih =>
    intro u hu
    by_cases h : u < 10
    · rw [dec_small h]; simp
    · rw [dec_big h, List.length_append]
      have := ih (u / 10) (by rw [Nat.div_lt_iff_lt_mul (by omega)]; rw [Nat.pow_succ] at hu; exact hu)
      simp; omega
theorem dec_six {u : Nat} (h : u ≤ 999999) : (Lib.decDigits u).length ≤ 6 := dec_le 5 u (by omega)
theorem dval_lt (l : List UInt8) (h : ∀ c ∈ l, isD c) : dval l < 10 ^ l.length := by
  refine snocInd (P := fun l => (∀ c ∈ l, isD c) → dval l < 10 ^ l.length) (fun _ => by simp [dval]) ?_ l h
  intro l c ih hc
  have h1 := ih (fun x hx => hc x (List.mem_append_left _ hx))
  have h2 := hc c (by simp)
  rw [dval_snoc, List.length_append, List.length_singleton, Nat.pow_succ]
  unfold isD at h2
  omega

/-! the writing is one to one -/
theorem itoa_nat (u : Nat) : Lib.itoa (u : Int) = Lib.decDigits u := by
  rw [Lib.itoa, if_neg (by omega)]; simp
theorem itoa_neg {u : Nat} (h : 0 < u) : Lib.itoa (-(u : Int)) = 45 :: Lib.decDigits u := by
  rw [Lib.itoa, if_pos (by omega)]; simp
/-- a written number has a sign or not -/
theorem itoa_cases (m : Int) : (0 ≤ m ∧ Lib.itoa m = Lib.decDigits m.toNat) ∨ (m < 0 ∧ Lib.itoa m = 45 :: Lib.decDigits m.natAbs) := by
  rcases Int.lt_or_le m 0 with h | h
  · right; exact ⟨h, by rw [Lib.itoa, if_pos h]⟩
  · left; exact ⟨h, by rw [Lib.itoa, if_neg (by omega)]⟩
theorem dec_head (u : Nat) : (Lib.decDigits u).head? ≠ some 45 := by
  intro h
  have hm : (45 : UInt8) ∈ Lib.decDigits u := List.mem_of_head? h
  have := dec_digs u 45 hm
  unfold isD at this
  have e : (45 : UInt8).toNat = 45 := rfl
  omega
theorem itoa_inj {a b : Int} (h : Lib.itoa a = Lib.itoa b) : a = b := by
  rcases itoa_cases a with ⟨ha, ea⟩ | ⟨ha, ea⟩ <;> rcases itoa_cases b with ⟨hb, eb⟩ | ⟨hb, eb⟩
  · rw [ea, eb] at h
    have := congrArg dval h
    rw [dec_val, dec_val] at this
    omega
  · rw [ea, eb] at h
    exact absurd (by rw [h]; rfl) (dec_head a.toNat)
  · rw [ea, eb] at h
    exact absurd (by rw [← h]; rfl) (dec_head b.toNat)
  · rw [ea, eb] at h
    injection h with _ h
    have := congrArg dval h
    rw [dec_val, dec_val] at this
    omega

/-! what is written is read back by the library's reader -/
theorem parse_app (a : Nat) (l m : List UInt8) (b : Nat) (h : Lib.parseUint10 a l = .ok b) : Lib.parseUint10 a (l ++ m) = Lib.parseUint10 b m := by
  induction l generalizing a with
  | nil => simp only [Lib.parseUint10] at h; injection h with h; subst h; rfl
  | cons c l ih =>
    simp only [List.cons_append, Lib.parseUint10] at h ⊢
    split at h
    · rename_i hd
      rw [if_pos hd]
      split at h
      · cases h
      · rename_i h1
        rw [if_neg h1]
        split at h
        · cases h
        · rename_i h2
          rw [if_neg h2]
          exact ih _ h
    · cases h
theorem parse_dec (u : Nat) (hu : u ≤ 999999) : Lib.parseUint10 0 (Lib.decDigits u) = .ok u := by
  induction u using Nat.strongRecOn with
  | _ u ih =>
    by_cases h : u < 10
    · rw [dec_small h]
      have hd := dig_nat u h
      simp only [Lib.parseUint10]
      rw [if_pos (by omega), if_neg (by omega), if_neg (by omega), hd]
      congr 1
      omega
    · rw [dec_big h, parse_app 0 _ _ _ (ih (u / 10) (by omega) (by omega))]
      have hd := dig_nat (u % 10) (by omega)
      simp only [Lib.parseUint10]
      rw [if_pos (by omega), if_neg (by omega), if_neg (by omega), hd]
      congr 1
      omega
theorem dec_ne (u : Nat) : Lib.decDigits u ≠ [] := by
  intro h
  have := dec_pos u
  rw [h] at this
  simp at this
theorem atoi_itoa (m : Int) (h : -999999 ≤ m ∧ m ≤ 999999) : Lib.atoiAll (Lib.itoa m) = .ok m := by
  rcases itoa_cases m with ⟨hm, e⟩ | ⟨hm, e⟩
  · rw [e]
    have hp := parse_dec m.toNat (by omega)
    have hne := dec_ne m.toNat
    have hdg := dec_digs m.toNat
    generalize Lib.decDigits m.toNat = l at *
    cases l with
    | nil => exact absurd rfl hne
    | cons c r =>
      have hc := hdg c (List.mem_cons_self ..)
      unfold isD at hc
      have h1 : ¬ (c.toNat = 43 ∨ c.toNat = 45) := by omega
      have h2 : ¬ c.toNat = 45 := by omega
      have hmag : Lib.parseMag (c :: r) = .ok m.toNat := by rw [Lib.parseMag, if_neg (by simp)]; exact hp
      unfold Lib.atoiAll
      simp only []
      rw [if_neg h1, hmag]
      simp only []
      rw [if_neg (by omega), if_neg (by omega), if_neg h2]
      congr 1
      omega
  · rw [e]
    have hp := parse_dec m.natAbs (by omega)
    have hne := dec_ne m.natAbs
    have hmag : Lib.parseMag (Lib.decDigits m.natAbs) = .ok m.natAbs := by rw [Lib.parseMag, if_neg hne]; exact hp
    have e45 : (45 : UInt8).toNat = 45 := rfl
    unfold Lib.atoiAll
    simp only []
    rw [if_pos (Or.inr e45), hmag]
    simp only []
    rw [if_neg (by omega), if_neg (by omega), if_pos e45]
    congr 1
    omega
end Go.Proofs.YteccmlpibbchbaaGreatDoor.ReadPl
