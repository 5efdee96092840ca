/-
  Contract of FormatDate of the program.
-/
import Derived.Test.YtlhkfhgnlopejaaDoorDtG
namespace Go.Proofs.YtlhkfhgnlopejaaDoor.DtF
open Go.RowKit Pl DtPl Dt DtTx Num ReadPl
set_option linter.unusedSimpArgs false
set_option linter.unusedVariables false

set_option maxHeartbeats 1000000 in
theorem iFormat (y m d : Int) (c : Bool) (r : Bool) (s : ByteArray) (w : World) (hr : okB y m d c = r) (hs : (if r = true then ba (text y m d c) else ⟨#[]⟩) = s) (ht : Tab w) :
    Calls Tryd.prog 6 #[dtV y m d c] w fun e w' => e = .returned (.tuple #[.string s, .bool r]) ∧ Below w.heap.size w w' := by
  have HB := Lib.hid (box_below w (.cells #[.int .i64 y, .int .i64 m, .int .i64 d, .bool c] 25))
  have HD := Lib.hid (D4.new w y m d c 25)
  have HV := Lib.hid hr
  have HS := Lib.hid hs
  have HT0 : Hid (Tab (w.alloc (.cells #[.int .i64 y, .int .i64 m, .int .i64 d, .bool c] 25))) := Lib.hid (ht.below HB.out)
  clear hr hs ht
  cases r with
  | false =>
    go_enter Tryd.func6, Tryd.ntmps6
    go_wp2_with fail
    refine (iValid y m d c false _ HV.out).mono ?_
    rintro e w1 ⟨rfl, b1⟩
    go_wp2_with fail
    go_ret2
    exact ⟨by rw [← HS.out]; rfl, HB.out.trans (b1.mono HB.out.size)⟩
  | true =>
    have HS2 : Hid (ba (text y m d c) = s) := Lib.hid (by rw [← HS.out]; rfl)
    clear HS
    have hbd := ok_bd HV.out
    obtain ⟨a, rfl⟩ := Int.eq_ofNat_of_zero_le hbd.1
    obtain ⟨b, rfl⟩ := Int.eq_ofNat_of_zero_le hbd.2.2.1
    obtain ⟨e, rfl⟩ := Int.eq_ofNat_of_zero_le hbd.2.2.2.2.1
    clear hbd
    go_enter Tryd.func6, Tryd.ntmps6
    go_wp2_with fail
    refine (iValid _ _ _ _ true _ HV.out).mono ?_
    rintro e' w1 ⟨rfl, b1⟩
    have k1 := HB.out.trans (b1.mono HB.out.size)
    have D1 := Lib.hid (HD.out.below b1)
    have HT1 := Lib.hid (HT0.out.below b1)
    clear b1
    obtain ⟨hl, c0, c1, c2, c3⟩ := D1.out
    go_wp2_with fail
    refine (iText a b e c _ HV.out HT1.out).mono ?_
    rintro e' w2 ⟨rfl, b2⟩
    rw [HS2.out]
    have k2 := k1.trans (b2.mono k1.size)
    clear b2 k1 hl c0 c1 c2 c3
    go_wp2_with fail
    go_ret2
    exact ⟨rfl, k2⟩

end Go.Proofs.YtlhkfhgnlopejaaDoor.DtF
