/-
  Contracts of spec.l1In, spec.l1Num, spec.FormatInt and impl.FormatInt.
-/
import Derived.Test.YtbicfmoemgaapaaGreatDoorRows
import Derived.Test.YtbicfmoemgaapaaGreatDoorPlain
import Derived.Test.YtbicfmoemgaapaaGreatDoorShelf
import Derived.Test.YtbicfmoemgaapaaGreatDoorNumS
import Derived.WalkKit
import Derived.Lib.Hide
import Derived.Lib.ItoaNum
import Derived.Deep.QuietTactic
import Derived.BigQuiet
import Derived.IntWalk
namespace Go.Proofs.YtbicfmoemgaapaaGreatDoor.Num
open Go.RowKit Pl

theorem grow_below (w : World) (k : Nat) (os : Array Obj) : Below w.heap.size w (Sort.grow (w.drewN k) os) :=
  ⟨rfl, rfl, rfl, by simp [Sort.grow, World.drewN], fun i hi => by
    show (w.heap ++ os)[i]? = w.heap[i]?
    rw [Array.getElem?_append_left hi]⟩
theorem l1In_any (x a b : Int) (r : Bool) (w : World) (hr : decide (a ≤ x ∧ x ≤ b) = r) :
    Calls Tryz.prog 49 #[.int .i64 x, .int .i64 a, .int .i64 b] w fun e w' => e = .returned (.bool r) ∧ w = w' := by
  subst hr
  by_cases h1 : a ≤ x
  · have HE : Hid (decide (a ≤ x ∧ x ≤ b) = decide (x ≤ b)) := Lib.hid (by simp [h1])
    have hd : decide (a ≤ x) = true := by simpa using h1
    go_enter Tryz.func49, Tryz.ntmps49
    go_wp2_with fail
    go_ret
    exact ⟨by rw [HE.out]; rfl, rfl⟩
  · have HE : Hid (decide (a ≤ x ∧ x ≤ b) = false) := Lib.hid (by simp [h1])
    have hd : decide (a ≤ x) = false := by simpa using h1
    rw [HE.out]
    clear HE
    go_enter Tryz.func49, Tryz.ntmps49
    go_wp2_with fail
    go_ret
    exact ⟨rfl, rfl⟩

theorem below_drewN {w w1 : World} {B : Nat} (h : Below B w w1) (q : Nat) : Below B w (w1.drewN q) := ⟨h.os, h.tape, h.output, h.size, h.block⟩

/-- the library's table of powers of ten lies as its text lays it -/
def Tab (w : World) : Prop := Lib.TabIs Tryz.prog w "internal/strconv.uint64pow10" .u64 Lib.pow10Tab
theorem gTab : Tryz.prog.globalNamed "internal/strconv.uint64pow10" = some 1 := by kernel_rfl
theorem Tab.below {w w' : World} (h : Tab w) (hb : Below w.heap.size w w') : Tab w' := by
  unfold Tab Lib.TabIs World.var? at *
  simp only [gTab, Option.bind_some] at h ⊢
  have hlt : 1 < w.heap.size := by
    rcases Nat.lt_or_ge 1 w.heap.size with h' | h'
    · exact h'
    · rw [Array.getElem?_eq_none h'] at h; cases h
  rw [hb.block _ hlt]
  exact h

end Go.Proofs.YtbicfmoemgaapaaGreatDoor.Num
