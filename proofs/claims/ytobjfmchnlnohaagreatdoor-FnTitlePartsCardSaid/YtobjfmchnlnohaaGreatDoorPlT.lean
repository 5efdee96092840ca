/-
  Contracts of PlainTitle of both.
-/
import Derived.Test.YtobjfmchnlnohaaGreatDoorPl6
namespace Go.Proofs.YtobjfmchnlnohaaGreatDoor.PlT
open Go.RowKit Pl NmPl TiPl Kt Ti
set_option linter.unusedSimpArgs false
set_option linter.unusedVariables false

theorem implPlain (s : ByteArray) (w : World) (hml : ML w) (hs : s.size ≤ 1048576) :
    Calls Tryz.prog 15 #[.string s] w fun e w' => e = .returned (if okT s.data.toList = true then .tuple #[.string (ba (pl s.data.toList)), .bool true] else .tuple #[.string ⟨#[]⟩, .bool false]) ∧ Below w.heap.size w w' := by
  have HV := Lib.hid (fun r h => isValidT s r w hml hs h)
  have HP := Lib.hid (plain_any s w hs)
  cases hr : okT s.data.toList with
  | true =>
    have HV' := Lib.hid (HV.out true hr)
    clear hr HV
    rw [if_pos rfl]
    go_enter Tryz.func15, Tryz.ntmps15
    go_wp2_with fail
    refine HV'.out.mono ?_
    rintro e w' ⟨rfl, rfl⟩
    go_wp2_with fail
    refine HP.out.mono ?_
    rintro e w1 ⟨rfl, b1⟩
    go_wp2_with fail
    go_ret2
    exact ⟨rfl, b1⟩
  | false =>
    have HV' := Lib.hid (HV.out false hr)
    clear hr HV
    rw [if_neg (by decide)]
    go_enter Tryz.func15, Tryz.ntmps15
    go_wp2_with fail
    refine HV'.out.mono ?_
    rintro e w' ⟨rfl, rfl⟩
    go_wp2_with fail
    go_ret2
    exact ⟨rfl, Below.refl _ _⟩
end Go.Proofs.YtobjfmchnlnohaaGreatDoor.PlT
