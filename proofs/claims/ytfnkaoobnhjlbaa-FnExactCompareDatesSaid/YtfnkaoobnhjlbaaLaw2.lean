/-
  Two boxes that hold dates, through worlds in which nothing old has changed.
-/
import Derived.Test.YtfnkaoobnhjlbaaDt2
import Derived.Test.YtfnkaoobnhjlbaaOpenD
namespace Go.Proofs.Ytfnkaoobnhjlbaa.Law2
open Go.RowKit DtPl Dt OpenD

/-- nothing of W has changed -/
def Kept (W w' : World) : Prop := Below W.heap.size W w'
theorem Kept.drew (W : World) : Kept W W.drew := ⟨rfl, rfl, rfl, Nat.le_refl _, fun _ _ => rfl⟩
theorem Kept.next {W w1 w2 : World} (h : Kept W w1) (hb : Below w1.heap.size w1 w2) : Kept W w2 := Below.trans h (hb.mono (Below.size h))
theorem Kept.alloc {W w1 : World} (h : Kept W w1) (o : Obj) : Kept W (w1.alloc o) := Below.alloc h (Below.size h) o
/-- the cells of two boxes -/
def Two (w : World) (a b : Nat) (y m d : Int) (c : Bool) (y' m' d' : Int) (c' : Bool) : Prop := D4 w a y m d c ∧ D4 w b y' m' d' c'
theorem Two.below {W w' : World} {a b : Nat} {y m d : Int} {c : Bool} {y' m' d' : Int} {c' : Bool} (h : Two W a b y m d c y' m' d' c') (hb : Below W.heap.size W w') : Two w' a b y m d c y' m' d' c' := ⟨h.1.below hb, h.2.below hb⟩
theorem Two.new (w : World) (y m d : Int) (c : Bool) (y' m' d' : Int) (c' : Bool) (t t' : TypeId) : Two ((w.alloc (.cells #[.int .i64 y, .int .i64 m, .int .i64 d, .bool c] t)).alloc (.cells #[.int .i64 y', .int .i64 m', .int .i64 d', .bool c'] t')) w.heap.size (w.heap.size + 1) y m d c y' m' d' c' := by
  refine ⟨(D4.new w y m d c t).below (box_below _ _), ?_⟩
  have h := D4.new (w.alloc (.cells #[.int .i64 y, .int .i64 m, .int .i64 d, .bool c] t)) y' m' d' c' t'
  rwa [show (w.alloc (.cells #[.int .i64 y, .int .i64 m, .int .i64 d, .bool c] t)).heap.size = w.heap.size + 1 by simp] at h
end Go.Proofs.Ytfnkaoobnhjlbaa.Law2
