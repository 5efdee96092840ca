/-
  Contract of the drawing cursor: one.
-/
import Derived.Test.YtljbbmefemfjpaaCurP
namespace Go.Proofs.Ytljbbmefemfjpaa.Cur
open Go.RowKit Pl

theorem one_any (m : Nat) (hm0 : 1 ≤ m) (hm : m ≤ 65536) (g : Nat) (A : Option Addr) (n c k : Nat) (s : Int) (w : World) (hk : k ≤ 1048570) (hn : n ≤ 1048576) (hcur : IsCur w g A n c k s) (hr : RdB w A n) (ha : Apart A n g) :
    Calls Try.prog 36 #[.pointer (some ⟨g, 0, none⟩), .int .i64 m] w (SomeBool w g A n c k 2) := by
  have HR := Lib.hid hr
  have HA := Lib.hid ha
  clear hr ha
  go_enter Try.func36, Try.ntmps36
  go_wp2_with fail
  refine (pick_any m hm0 hm g A n c k s _ hk hn hcur HR.out HA.out).mono ?_
  rintro e w1 ⟨r, rfl, _, _, hl⟩
  go_wp2_with fail
  go_ret
  exact ⟨_, rfl, hl⟩

end Go.Proofs.Ytljbbmefemfjpaa.Cur
