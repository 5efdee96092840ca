/-
  Contract of spec.l1Num.
-/
import Derived.Test.YtbicfmoemgaapaaGreatDoorRows
import Derived.Test.YtbicfmoemgaapaaGreatDoorPlain
import Derived.WalkKit
import Derived.Below
import Derived.Lib.Hide
import Derived.Lib.ItoaNum
import Derived.Deep.QuietTactic
import Derived.BigQuiet
import Derived.IntWalk
namespace Go.Proofs.YtbicfmoemgaapaaGreatDoor.Num
open Go.RowKit Pl

theorem dec_len (u : Nat) : (Lib.decDigits u).length ≤ u + 1 := by
  induction u using Nat.strongRecOn with
  | _ u ih =>
    rw [Lib.decDigits]
    split
    · simp
    · have := ih (u / 10) (by omega)
      simp; omega
def tenD : ByteArray := ⟨#[48, 49, 50, 51, 52, 53, 54, 55, 56, 57]⟩
theorem tenD_cut (n : Nat) (h : n < 10) : (ByteArray.mk #[48, 49, 50, 51, 52, 53, 54, 55, 56, 57]).extract n (n + 1) = ba [UInt8.ofNat (48 + n)] := by
  have : ∀ m : Fin 10, (ByteArray.mk #[48, 49, 50, 51, 52, 53, 54, 55, 56, 57]).extract m.1 (m.1 + 1) = ba [UInt8.ofNat (48 + m.1)] := by decide
  exact this ⟨n, h⟩
/-- one digit, cut out of the ten -/
theorem cut1 (w : World) (i : Int) (n : Nat) (j : Int) (hi : i = n) (hj : j = n + 1) (h : n < 10) :
    (Instr.slice 9 (.string ⟨#[48, 49, 50, 51, 52, 53, 54, 55, 56, 57]⟩) (some (.int .i64 i)) (some (.int .i64 j)) none).run Tryz.prog w = .ok (.string (ba [UInt8.ofNat (48 + n)])) w := by
  have hs : (ByteArray.mk #[48, 49, 50, 51, 52, 53, 54, 55, 56, 57]).size = 10 := rfl
  have := run_slice_string (P := Tryz.prog) w 9 ⟨#[48, 49, 50, 51, 52, 53, 54, 55, 56, 57]⟩ .i64 .i64 i j Tryz.underlying9 (by omega) (by omega) (by rw [hs]; omega)
  rw [this, hi, hj]
  have e1 : ((n : Int)).toNat = n := by omega
  have e2 : ((n : Int) + 1).toNat = n + 1 := by omega
  rw [e1, e2, tenD_cut n h]
theorem ba_cat (a b : List UInt8) : ba a ++ ba b = ba (a ++ b) := by
  apply ByteArray.ext; simp [ba]

set_option maxRecDepth 100000 in
set_option maxHeartbeats 1000000 in
theorem l1Num_nat (u : Nat) : ∀ (_ : u ≤ 999999) (w : World),
    Calls Tryz.prog 36 #[.int .i64 u] w fun e w' => e = .returned (.string (ba (Lib.decDigits u))) ∧ ∃ q, w' = w.drewN q := by
  induction u using Nat.strongRecOn with
  | _ u ih =>
    intro hu w
    by_cases h10 : u < 10
    · have hcut := cut1 w u u (u + 1) rfl rfl h10
      have HD : Hid (ba (Lib.decDigits u) = ba [UInt8.ofNat (48 + u)]) := Lib.hid (by rw [Lib.decDigits, dif_pos h10])
      generalize ba [UInt8.ofNat (48 + u)] = dg at *
      clear ih
      go_enter Tryz.func36, Tryz.ntmps36
      go_wp2_with fail
      go_ret
      exact ⟨by rw [HD.out]; rfl, 0, rfl⟩
    · have ht : (u : Int).tmod 10 = ((u % 10 : Nat) : Int) := by rw [Int.tmod_eq_emod_of_nonneg (by omega)]; omega
      have hcut : ∀ q, (Instr.slice 9 (.string ⟨#[48, 49, 50, 51, 52, 53, 54, 55, 56, 57]⟩) (some (.int .i64 ((u : Int).tmod 10))) (some (.int .i64 (IntKind.i64.wrap ((u : Int).tmod 10 + 1)))) none).run Tryz.prog (w.drewN q) = .ok (.string (ba [UInt8.ofNat (48 + u % 10)])) (w.drewN q) :=
        fun q => cut1 _ _ (u % 10) _ ht (by rw [IntWalk.i64_in _ (by omega), ht]) (by omega)
      clear ht
      have HD : Hid (ba (Lib.decDigits (u / 10)) ++ ba [UInt8.ofNat (48 + u % 10)] = ba (Lib.decDigits u)) := Lib.hid (by rw [ba_cat]; conv => rhs; rw [Lib.decDigits, dif_neg h10])
      have HI := Lib.hid (ih (u / 10) (by omega) (by omega))
      have hlen := dec_len (u / 10)
      rw [← ba_size] at hlen
      clear ih
      generalize Lib.decDigits (u / 10) = D at *
      generalize ba D = o at *
      obtain ⟨v, HV⟩ : ∃ v : Int, Hid (v = ((u / 10 : Nat) : Int)) := ⟨_, Lib.hid rfl⟩
      rw [← HV.out] at HI
      have hq : IntKind.i64.wrap ((u : Int) / 10) = v := by rw [HV.out, IntWalk.i64_in _ (by omega)]; omega
      have hd1 : (ba [UInt8.ofNat (48 + u % 10)]).size ≤ 1 := by rw [ba_size]; simp
      generalize ba [UInt8.ofNat (48 + u % 10)] = dg at *
      have hL : ¬ 9223372036854775807 < o.size + dg.size := by omega
      go_enter Tryz.func36, Tryz.ntmps36
      go_wp2_with fail
      go_quiet ((go_at_call 36; exact Calls.quiet_of (HI.out _)))
      go_wp2_with fail
      go_ret
      exact ⟨by rw [← HD.out]; rfl, _, rfl⟩

theorem itoa_len (n : Int) (h : -999999 ≤ n ∧ n ≤ 999999) : (Lib.itoa n).length ≤ 1000001 := by
  unfold Lib.itoa
  split
  · have := dec_len n.natAbs
    simp; omega
  · have := dec_len n.toNat
    omega

set_option maxHeartbeats 1000000 in
theorem l1Num_any (n : Int) (w : World) (h0 : -999999 ≤ n) (h1 : n ≤ 999999) :
    Calls Tryz.prog 36 #[.int .i64 n] w fun e w' => e = .returned (.string (ba (Lib.itoa n))) ∧ ∃ q, w' = w.drewN q := by
  by_cases hneg : n < 0
  · obtain ⟨m, rfl⟩ : ∃ m : Nat, n = -(m : Int) := ⟨n.natAbs, by omega⟩
    have hm : m ≤ 999999 := by omega
    have HI := Lib.hid (l1Num_nat m hm)
    have HD : Hid (ba [45] ++ ba (Lib.decDigits m) = ba (Lib.itoa (-(m : Int)))) := Lib.hid (by rw [ba_cat, Lib.itoa, if_pos hneg]; simp)
    have hlen := dec_len m
    rw [← ba_size] at hlen
    generalize ba (Lib.decDigits m) = o at *
    have hL : ¬ 9223372036854775807 < (ByteArray.mk #[45]).size + o.size := by rw [show (ByteArray.mk #[45]).size = 1 from rfl]; omega
    go_enter Tryz.func36, Tryz.ntmps36
    go_wp2_with fail
    refine (HI.out _).mono ?_
    rintro e w' ⟨rfl, q, rfl⟩
    go_wp2_with fail
    go_ret
    exact ⟨by rw [← HD.out]; rfl, q, rfl⟩
  · obtain ⟨m, rfl⟩ := Int.eq_ofNat_of_zero_le (show 0 ≤ n by omega)
    have e : Lib.itoa (m : Int) = Lib.decDigits m := by rw [Lib.itoa, if_neg hneg]; simp
    rw [e]
    exact l1Num_nat m (by omega) w

end Go.Proofs.YtbicfmoemgaapaaGreatDoor.Num
