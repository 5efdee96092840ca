/-
  Contracts of spec.l2Text, cmp.Compare and slices.Compare at strings: -1, 0 or 1.
-/
import Derived.Test.YthacdkbjefpoaaaDoorRows
import Derived.Test.YthacdkbjefpoaaaDoorStrs
import Derived.Test.YthacdkbjefpoaaaDoorPlain
import Derived.WalkKit
import Derived.LoopTactic
import Derived.Lib.Hide
import Derived.Laws.Cover1
namespace Go.Proofs.YthacdkbjefpoaaaDoor.Cmp
open Go.RowKit Pl Strs

/-- how two strings compare -/
def cmpS (a b : ByteArray) : Int := if Op.bytesLess a.toList b.toList = true then -1 else if (a.toList == b.toList) = true then 0 else 1

theorem l2Text_any (a b : ByteArray) (w : World) :
    Calls Tryd.prog 28 #[.string a, .string b] w fun e w' => e = .returned (.int .i64 (cmpS a b)) ∧ w = w' := by
  have HE := Lib.hid (show cmpS a b = if Op.bytesLess a.toList b.toList = true then -1 else if (a.toList == b.toList) = true then 0 else 1 from rfl)
  cases h1 : Op.bytesLess a.toList b.toList with
  | true =>
    rw [h1] at HE
    go_enter Tryd.func28, Tryd.ntmps28
    go_wp2
    go_ret
    exact ⟨by rw [HE.out]; rfl, rfl⟩
  | false =>
    rw [h1] at HE
    cases h2 : (a.toList == b.toList) with
    | true =>
      rw [h2] at HE
      go_enter Tryd.func28, Tryd.ntmps28
      go_wp2
      go_ret
      exact ⟨by rw [HE.out]; rfl, rfl⟩
    | false =>
      rw [h2] at HE
      go_enter Tryd.func28, Tryd.ntmps28
      go_wp2
      go_ret
      exact ⟨by rw [HE.out]; rfl, rfl⟩
/-- how two lists of strings of one length compare -/
def cmpL : List ByteArray → List ByteArray → Int
  | a :: x, b :: y => if cmpS a b = 0 then cmpL x y else cmpS a b
  | _, _ => 0
theorem cmpL_drop {xs ys : List ByteArray} {k : Nat} {x y : ByteArray} (hx : xs[k]? = some x) (hy : ys[k]? = some y) : cmpL (xs.drop k) (ys.drop k) = if cmpS x y = 0 then cmpL (xs.drop (k + 1)) (ys.drop (k + 1)) else cmpS x y := by
  obtain ⟨k1, e1⟩ := List.getElem?_eq_some_iff.1 hx
  obtain ⟨k2, e2⟩ := List.getElem?_eq_some_iff.1 hy
  rw [List.drop_eq_getElem_cons k1, List.drop_eq_getElem_cons k2, e1, e2]
  rfl

end Go.Proofs.YthacdkbjefpoaaaDoor.Cmp
