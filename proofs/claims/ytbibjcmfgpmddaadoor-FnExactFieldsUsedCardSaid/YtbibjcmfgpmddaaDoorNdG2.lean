/-
  Contracts of l9Depth, l9Good, IsValidStyle and CountNodes of the model.
-/
import Derived.Test.YtbibjcmfgpmddaaDoorNdG
import Derived.Deep.RegionHeld3
import Derived.OwnWalk
namespace Go.Proofs.YtbibjcmfgpmddaaDoor.Nd
open Go.RowKit NdPl Ns
open Dt (l1In_any)
set_option linter.unusedSimpArgs false
set_option linter.unusedVariables false

set_option maxHeartbeats 2000000 in
theorem good_s (nm : Int) (x : Tr) (B : Option Addr) (c d : Nat) (w : World) (hr : RdL d w B x.ps) (hz : szT x ≤ 1048576) (r : Bool) (hg : gdB nm x = r) :
    Calls Tryd.prog 14 #[stV nm x.op x.wd x.tx x.af B x.ps.length c] w fun e w' => e = .returned (.bool r) ∧ Below w.heap.size w w' := by
  have HI := Lib.hid (fun w => l1In_any nm 1 4 (decide (1 ≤ nm ∧ nm ≤ 4)) w rfl)
  have HN := Lib.hid (fun w1 (h : Below w.heap.size w w1) => node_all 5 (by decide) x B c d w1 (hr.below h) hz)
  have HC := Lib.hid (fun w1 (h : Below w.heap.size w w1) => cnt_all d x B c w1 (hr.below h) hz)
  have HR : Hid (r = (decide (1 ≤ nm ∧ nm ≤ 4) && okT 5 x && decide ((cntT x : Int) ≤ 30))) := Lib.hid (by
    rw [← hg]; unfold gdB; congr 1; rw [Bool.eq_iff_iff]; simp; omega)
  have e5 : ((5 : Nat) : Int) = 5 := rfl
  rw [e5] at HN
  clear e5 hr hz hg
  generalize decide (1 ≤ nm ∧ nm ≤ 4) = q at *
  generalize okT 5 x = ok at *
  generalize cntT x = ct at *
  obtain ⟨op, wd, tx, af, ps⟩ := x
  simp only [Tr.op, Tr.wd, Tr.tx, Tr.af, Tr.ps] at *
  generalize ps.length = n at *
  have HX := Lib.hid (Bx.new w #[.int .i64 nm, .int .i64 op, .string wd, .string tx, .string af, .slice B n c] 35)
  have HB := Lib.hid (box_below w (.cells #[.int .i64 nm, .int .i64 op, .string wd, .string tx, .string af, .slice B n c] 35))
  go_enter Tryd.func14, Tryd.ntmps14
  go_wp2_with fail
  generalize w.alloc _ = w0 at HB HX ⊢
  refine (HI.out _).mono ?_
  rintro e w1 ⟨rfl, rfl⟩
  obtain ⟨_, hx⟩ := HX.out
  have c1 := hx 1 _ rfl
  have c2 := hx 2 _ rfl
  have c3 := hx 3 _ rfl
  have c4 := hx 4 _ rfl
  have c5 := hx 5 _ rfl
  clear hx
  cases q with
  | false =>
    go_wp2_with fail
    go_ret
    exact ⟨by rw [HR.out]; rfl, HB.out⟩
  | true =>
    go_wp2_with fail
    refine (HN.out _ HB.out).mono ?_
    rintro e w1 ⟨rfl, b1⟩
    have B1 := HB.out.trans (b1.mono HB.out.size)
    obtain ⟨_, hx⟩ := HX.out.below b1
    clear c1 c2 c3 c4 c5
    have c1 := hx 1 _ rfl
    have c2 := hx 2 _ rfl
    have c3 := hx 3 _ rfl
    have c4 := hx 4 _ rfl
    have c5 := hx 5 _ rfl
    clear hx b1
    cases ok with
    | false =>
      go_wp2_with fail
      go_ret
      exact ⟨by rw [HR.out]; rfl, B1⟩
    | true =>
      go_wp2_with fail
      refine (HC.out _ B1).mono ?_
      rintro e w2 ⟨rfl, b2⟩
      have B2 := B1.trans (b2.mono B1.size)
      go_wp2_with fail
      go_ret
      exact ⟨by rw [HR.out]; rfl, B2⟩
/-- what CountNodes answers -/
def cnV (nm : Int) (x : Tr) : Value := if gdB nm x = true then .tuple #[.int .i64 (cntT x), .int .i64 (dpT x), .bool true] else .tuple #[.int .i64 0, .int .i64 0, .bool false]
end Go.Proofs.YtbibjcmfgpmddaaDoor.Nd
