/-
  Two boxes that hold dates, through worlds in which nothing old has changed.
-/
import Derived.Test.YtlhkfhgnlopejaaDoorDtBx
import Derived.Test.YtlhkfhgnlopejaaDoorDt2
import Derived.Test.YtlhkfhgnlopejaaDoorOpenD
import Derived.Test.YtlhkfhgnlopejaaDoorDt7
namespace Go.Proofs.YtlhkfhgnlopejaaDoor.Law2
open Go.RowKit DtPl Dt OpenD

/-- nothing of W has changed -/
def Kept (W w' : World) : Prop := Below W.heap.size W w'
theorem Kept.drew (W : World) : Kept W W.drew := ⟨rfl, rfl, rfl, Nat.le_refl _, fun _ _ => rfl⟩
theorem Kept.next {W w1 w2 : World} (h : Kept W w1) (hb : Below w1.heap.size w1 w2) : Kept W w2 := Below.trans h (hb.mono (Below.size h))
theorem Kept.alloc {W w1 : World} (h : Kept W w1) (o : Obj) : Kept W (w1.alloc o) := Below.alloc h (Below.size h) o
/-- the cells of two boxes -/
def Two (w : World) (a b : Nat) (y m d : Int) (c : Bool) (y' m' d' : Int) (c' : Bool) : Prop := D4 w a y m d c ∧ D4 w b y' m' d' c'
theorem Two.below {W w' : World} {a b : Nat} {y m d : Int} {c : Bool} {y' m' d' : Int} {c' : Bool} (h : Two W a b y m d c y' m' d' c') (hb : Below W.heap.size W w') : Two w' a b y m d c y' m' d' c' := ⟨h.1.below hb, h.2.below hb⟩
theorem Two.new (w : World) (y m d : Int) (c : Bool) (y' m' d' : Int) (c' : Bool) (t t' : TypeId) : Two ((w.alloc (.cells #[.int .i64 y, .int .i64 m, .int .i64 d, .bool c] t)).alloc (.cells #[.int .i64 y', .int .i64 m', .int .i64 d', .bool c'] t')) w.heap.size (w.heap.size + 1) y m d c y' m' d' c' := by
  refine ⟨(D4.new w y m d c t).below (box_below _ _), ?_⟩
  have h := D4.new (w.alloc (.cells #[.int .i64 y, .int .i64 m, .int .i64 d, .bool c] t)) y' m' d' c' t'
  rwa [show (w.alloc (.cells #[.int .i64 y, .int .i64 m, .int .i64 d, .bool c] t)).heap.size = w.heap.size + 1 by simp] at h
/-! a box that a region makes at a moment of its own choice -/
theorem Kept.size {W w' : World} (h : Kept W w') : W.heap.size ≤ w'.heap.size := Below.size h
theorem Kept.new1 (W : World) (o : Obj) : Kept W (W.alloc o).drew := by
  have h := box_below W o
  exact ⟨h.os, h.tape, h.output, h.size, h.block⟩
theorem Kept.set4 {W w1 : World} {b : Nat} {v0 v1 v2 v3 : Value} (h : Kept W w1) (hb : W.heap.size ≤ b) : Kept W ((((w1.setCell ⟨b, 0, none⟩ v0).setCell ⟨b, 1, none⟩ v1).setCell ⟨b, 2, none⟩ v2).setCell ⟨b, 3, none⟩ v3) := Dt.set4 h hb
/-- behind the model's call: its answer lies in a box of its own -/
structure Mid1 (w W1 : World) (B : Nat) (y m d : Int) (c : Bool) (y' m' d' : Int) (c' : Bool) (a b e : Int) (f : Bool) : Prop where
  k : Below w.heap.size w W1
  t : Two W1 w.heap.size (w.heap.size + 1) y m d c y' m' d' c'
  d : D4 W1 B a b e f
theorem Mid1.mk' {w W0 W1 : World} {B : Nat} {y m d : Int} {c : Bool} {y' m' d' : Int} {c' : Bool} {a b e : Int} {f : Bool} (hb : Below w.heap.size w W0) (ht : Two W0 w.heap.size (w.heap.size + 1) y m d c y' m' d' c') (hk : Kept W0 W1) (hd : D4 W1 B a b e f) : Mid1 w W1 B y m d c y' m' d' c' a b e f :=
  ⟨hb.trans (Below.mono hk hb.size), ht.below hk, hd⟩
/-- behind the program's call too -/
structure Mid2 (w W1 : World) (B C : Nat) (a b e : Int) (f : Bool) : Prop where
  k : Below w.heap.size w W1
  d : D4 W1 B a b e f
  d' : D4 W1 C a b e f
theorem Mid2.mk' {w W0 W1 : World} {B C : Nat} {a b e : Int} {f : Bool} (hb : Below w.heap.size w W0) (h1 : D4 W0 B a b e f) (hk : Kept W0 W1) (hd : D4 W1 C a b e f) : Mid2 w W1 B C a b e f :=
  ⟨hb.trans (Below.mono hk hb.size), h1.below hk, hd⟩
end Go.Proofs.YtlhkfhgnlopejaaDoor.Law2
