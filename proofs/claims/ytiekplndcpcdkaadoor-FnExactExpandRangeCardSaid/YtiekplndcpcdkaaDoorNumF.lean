/-
  Contracts of FormatInt of both.
-/
import Derived.Test.YtiekplndcpcdkaaDoorNum
import Derived.Test.YtiekplndcpcdkaaDoorRows
import Derived.Test.YtiekplndcpcdkaaDoorPlain
import Derived.Test.YtiekplndcpcdkaaDoorShelf
import Derived.WalkKit
import Derived.Lib.Hide
import Derived.Lib.ItoaNum
import Derived.Deep.QuietTactic
import Derived.BigQuiet
import Derived.IntWalk
namespace Go.Proofs.YtiekplndcpcdkaaDoor.Num
open Go.RowKit Pl

/-- what FormatInt answers -/
def fmtV (n : Int) : Value := if -999999 ≤ n ∧ n ≤ 999999 then .tuple #[.string (ba (Lib.itoa n)), .bool true] else .tuple #[.string ⟨#[]⟩, .bool false]

set_option maxHeartbeats 1000000 in
theorem implFormat (n : Int) (w : World) (ht : Tab w) : Calls Tryd.prog 38 #[.int .i64 n] w fun e w' => e = .returned (fmtV n) ∧ Below w.heap.size w w' := by
  have HTb := Lib.hid ht
  clear ht
  by_cases h0 : n < -999999
  · have HE : Hid (fmtV n = .tuple #[.string ⟨#[]⟩, .bool false]) := Lib.hid (if_neg (by omega))
    have hd : decide (n < -999999) = true := by simpa using h0
    go_enter Tryd.func38, Tryd.ntmps38
    go_wp2_with fail
    go_ret2
    exact ⟨by rw [HE.out]; rfl, Below.refl _ _⟩
  · have hd : decide (n < -999999) = false := by simpa using h0
    by_cases h1 : 999999 < n
    · have HE : Hid (fmtV n = .tuple #[.string ⟨#[]⟩, .bool false]) := Lib.hid (if_neg (by omega))
      go_enter Tryd.func38, Tryd.ntmps38
      go_wp2_with fail
      go_ret2
      exact ⟨by rw [HE.out]; rfl, Below.refl _ _⟩
    · have HE : Hid (fmtV n = .tuple #[.string (ba (Lib.itoa n)), .bool true]) := Lib.hid (if_pos (by omega))
      have HI := Lib.hid (Tryd.strconv_Itoa n (by omega) (by omega) w HTb.out)
      go_enter Tryd.func38, Tryd.ntmps38
      go_wp2_with fail
      refine HI.out.mono ?_
      rintro e w' ⟨rfl, k, os, rfl⟩
      go_wp2_with fail
      go_ret2
      exact ⟨by rw [HE.out]; rfl, grow_below w k os⟩
end Go.Proofs.YtiekplndcpcdkaaDoor.Num
