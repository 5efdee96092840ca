/-
  An argument that is a date, opened to its parts; laws.toDate and laws.eqDate.
-/
import Derived.Test.YteccmlpibbchbaaGreatDoorRows
import Derived.Test.YteccmlpibbchbaaGreatDoorDt1
import Derived.WalkKit
import Derived.ProofKit
import Derived.OpenShut
import Derived.ShutString
import Derived.ChangeOld
import Derived.Below
import Derived.Lib.SmallJoins
namespace Go.Proofs.YteccmlpibbchbaaGreatDoor.OpenD
open Go.ChangeShapes Go.WideShapes Go.ChangeAt Go.RowKit Go.Joins
open DtPl Dt
set_option linter.unusedSimpArgs false

theorem own : ownKnob Tryz.prog.godebug = none := by kernel_rfl
theorem laidOut : laidOutB Tryz.prog = true := by kernel_rfl

set_option maxRecDepth 100000 in
theorem open_date {H : Type} {enc : TypeId × Value → H} {W : World} {base b0 : Nat} {r : Reach} {held : Bool} {v : Value} {d : DataW H} {ps : List MemPlace} (hv : Value.okWide Tryz.prog W r b0 79 v) (h : DataW.Trod enc Tryz.prog W base (fun _ => true) held 79 v d ps) :
    ∃ ya ma da ca, v = dtV ya ma da ca := by
  obtain ⟨v0, v1, v2, v3, y0, y1, y2, y3, n, rfl, _, _, t0, t1, t2, t3⟩ := open_agg4 Tryz.underlying79 (by kernel_rfl) (by kernel_rfl) hv h
  obtain ⟨a, ha, _, _⟩ := DataW.trod_int Tryz.underlying3 t0
  obtain ⟨b, hb, _, _⟩ := DataW.trod_int Tryz.underlying3 t1
  obtain ⟨c, hc, _, _⟩ := DataW.trod_int Tryz.underlying3 t2
  obtain ⟨e, he, _⟩ := DataW.trod_bool Tryz.underlying4 t3
  cases ha; cases hb; cases hc; cases he
  exact ⟨a, b, c, e, rfl⟩

set_option maxHeartbeats 400000 in
theorem toDate (y m d : Int) (c : Bool) (w : World) :
    Calls Tryz.prog 71 #[dtV y m d c] w fun e w' => e = .returned (dtV y m d c) ∧ Below w.heap.size w w' := by
  go_enter Tryz.func71, Tryz.ntmps71
  go_wp2_with fail
  exact bodyPost_ret (v := dtV y m d c) (by simp [results, Tryz.results71, go_sem]) rfl ⟨rfl, (((Below.refl _ _).alloc (Nat.le_refl _) _).alloc (by simp) _).alloc (by simp; omega) _⟩

set_option maxHeartbeats 400000 in
theorem eqDate (y m d : Int) (c : Bool) (w : World) :
    Calls Tryz.prog 80 #[dtV y m d c, dtV y m d c] w fun e w' => e = .returned (.bool true) ∧ Below w.heap.size w w' := by
  go_enter Tryz.func80, Tryz.ntmps80
  go_wp2_with fail
  go_ret
  exact ⟨rfl, ((Below.refl _ _).alloc (Nat.le_refl _) _).alloc (by simp) _⟩
end Go.Proofs.YteccmlpibbchbaaGreatDoor.OpenD
