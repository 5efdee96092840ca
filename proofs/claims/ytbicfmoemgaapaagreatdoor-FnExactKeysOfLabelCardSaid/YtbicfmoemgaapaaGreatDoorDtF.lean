/-
  Contracts of chapter 3's texts: l3Pad, padDecimal, l3Text, dateText, FormatDate of both.
-/
import Derived.Test.YtbicfmoemgaapaaGreatDoorDt2
import Derived.Test.YtbicfmoemgaapaaGreatDoorDtTx
import Derived.Test.YtbicfmoemgaapaaGreatDoorNum
import Derived.LoopTactic
namespace Go.Proofs.YtbicfmoemgaapaaGreatDoor.DtF
open Go.RowKit Pl DtPl Dt DtTx Num ReadPl
set_option linter.unusedSimpArgs false
set_option linter.unusedVariables false

def strOf (v : Value) : ByteArray := match v with | .string s => s | _ => ⟨#[]⟩
theorem cons_ba (c : UInt8) (o : ByteArray) : (ByteArray.mk #[c]) ++ o = ba (c :: o.data.toList) := by
  apply ByteArray.ext; simp [ba]
theorem eq_ba {a : ByteArray} {l : List UInt8} (h : a.data.toList = l) : a = ba l := by rw [← h, ba_toList]

theorem one48 : (ByteArray.mk #[48]).size = 1 := rfl
theorem rep_l (c : Nat) : Lib.repeatL [48] c = List.replicate c 48 := by
  induction c with
  | zero => rfl
  | succ c ih => show [48] ++ Lib.repeatL [48] c = _; rw [ih]; rfl
set_option maxRecDepth 100000 in
set_option maxHeartbeats 1000000 in
theorem padDecimal (u k : Nat) (w : World) (hu : u ≤ 9999) (hk : k ≤ 4) (ht : Tab w) :
    Calls Tryz.prog 83 #[.int .i64 u, .int .i64 k] w fun e w' => e = .returned (.string (ba (pad u k))) ∧ Below w.heap.size w w' := by
  have h1 := dec_pos u
  have h2 := dec_le 3 u (by omega)
  have HI := Lib.hid (Tryz.strconv_Itoa u (by omega) (by omega) w ht)
  rw [itoa_nat] at HI
  have HP : Hid (pad u k = List.replicate (k - (Lib.decDigits u).length) 48 ++ Lib.decDigits u) := Lib.hid rfl
  generalize Lib.decDigits u = D at *
  have hs : (ba D).size = D.length := ba_size D
  have HD : Hid ((ba D).data.toList = D) := Lib.hid (toList_ba D)
  clear ht
  generalize hL : D.length = L at *
  change Hid (Calls _ _ _ _ fun e w' => e = .returned (.string (ba D)) ∧ _) at HI
  generalize ba D = o at *
  have HS := Lib.hid hs
  have hs1 : L ≤ o.size := by omega
  have hs2 : o.size ≤ L := by omega
  clear hs hL
  go_enter Tryz.func83, Tryz.ntmps83
  go_wp2_with fail
  refine HI.out.mono ?_
  rintro e w1 ⟨rfl, k', os, hw⟩
  have b1 : Below w.heap.size w w1 := by rw [hw]; exact grow_below w k' os
  clear hw
  go_wp2_with fail
  have hm : max (0 : Int) ((k : Int) - (o.size : Int)) = ((k - L : Nat) : Int) := by omega
  rw [hm]
  have HR := Lib.hid (Tryz.strings_Repeat ⟨#[48]⟩ (k - L) w1 (by omega) (by rw [one48]; omega))
  rw [show (ByteArray.mk #[48]).data.toList = [48] from rfl, rep_l] at HR
  have HE : Hid (ByteArray.mk (List.replicate (k - L) (48 : UInt8)).toArray ++ o = ba (pad u k)) := Lib.hid (by
    rw [HP.out]; apply ByteArray.ext; rw [← HD.out]; simp [ba])
  have hz : (ByteArray.mk (List.replicate (k - L) (48 : UInt8)).toArray).size ≤ 4 := by simp [ByteArray.size]; omega
  generalize ByteArray.mk (List.replicate (k - L) (48 : UInt8)).toArray = z at *
  clear hm
  refine HR.out.mono ?_
  rintro e w2 ⟨rfl, b2⟩
  go_wp2_with fail
  go_ret
  exact ⟨by rw [← HE.out]; rfl, b1.trans (b2.mono b1.size)⟩
end Go.Proofs.YtbicfmoemgaapaaGreatDoor.DtF
