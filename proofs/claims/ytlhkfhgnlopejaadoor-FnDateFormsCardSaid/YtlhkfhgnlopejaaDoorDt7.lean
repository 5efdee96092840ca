/-
  Contracts of chapter 3: MergeDates of both.
-/
import Derived.Test.YtlhkfhgnlopejaaDoorDt4
import Derived.Test.YtlhkfhgnlopejaaDoorDtBx
namespace Go.Proofs.YtlhkfhgnlopejaaDoor.Dt
open Go.RowKit DtPl
set_option linter.unusedSimpArgs false
set_option linter.unusedVariables false

def zeroV : Value := .tuple #[dtV 0 0 0 false, .bool false]
/-- what MergeDates answers -/
def mgV (y m d : Int) (c : Bool) (y' m' d' : Int) (c' : Bool) : Value :=
  if okB y m d c = true ∧ okB y' m' d' c' = true then
    (if rfB y m d c y' m' d' c' = true then .tuple #[dtV y m d c, .bool true] else if rfB y' m' d' c' y m d c = true then .tuple #[dtV y' m' d' c', .bool true] else zeroV) else zeroV
theorem mg_no {y m d : Int} {c : Bool} {y' m' d' : Int} {c' : Bool} (h : okB y m d c = false ∨ okB y' m' d' c' = false) : mgV y m d c y' m' d' c' = zeroV := by
  unfold mgV
  rw [if_neg]
  rintro ⟨h1, h2⟩
  rcases h with h | h <;> simp_all
theorem mg_form (y m d : Int) (c : Bool) (y' m' d' : Int) (c' : Bool) : ∃ a b e f r, mgV y m d c y' m' d' c' = .tuple #[dtV a b e f, .bool r] := by
  unfold mgV
  split
  · split
    · exact ⟨_, _, _, _, _, rfl⟩
    · split
      · exact ⟨_, _, _, _, _, rfl⟩
      · exact ⟨_, _, _, _, _, rfl⟩
  · exact ⟨_, _, _, _, _, rfl⟩
theorem box3 (w : World) (o o' o2 : Obj) : Below w.heap.size w (((w.alloc o).alloc o').alloc o2) := (box2 w o o').alloc (by simp; omega) o2
/-- the boxes of the two arguments and of the result -/
structure Three (W : World) (n : Nat) (y m d : Int) (c : Bool) (y' m' d' : Int) (c' : Bool) : Prop where
  a : D4 W n y m d c
  b : D4 W (n + 1) y' m' d' c'
  z : D4 W (n + 1 + 1) 0 0 0 false ∧ F4 W (n + 1 + 1)
theorem Three.below {W w' : World} {n : Nat} {y m d : Int} {c : Bool} {y' m' d' : Int} {c' : Bool} (h : Three W n y m d c y' m' d' c') (hb : Below W.heap.size W w') : Three w' n y m d c y' m' d' c' :=
  ⟨h.a.below hb, h.b.below hb, h.z.1.below hb, F4.below h.z.1.1 h.z.2 hb⟩
theorem three (w : World) (y m d : Int) (c : Bool) (y' m' d' : Int) (c' : Bool) : Three (((w.alloc (.cells #[.int .i64 y, .int .i64 m, .int .i64 d, .bool c] 25)).alloc (.cells #[.int .i64 y', .int .i64 m', .int .i64 d', .bool c'] 25)).alloc (.cells #[.int .i64 0, .int .i64 0, .int .i64 0, .bool false] 25)) w.heap.size y m d c y' m' d' c' := by
  have h1 : (w.alloc (.cells #[.int .i64 y, .int .i64 m, .int .i64 d, .bool c] 25)).heap.size = w.heap.size + 1 := by simp
  have h2 : ((w.alloc (.cells #[.int .i64 y, .int .i64 m, .int .i64 d, .bool c] 25)).alloc (.cells #[.int .i64 y', .int .i64 m', .int .i64 d', .bool c'] 25)).heap.size = w.heap.size + 1 + 1 := by simp
  have a := (D4.new w y m d c 25).below (box_below _ (.cells #[.int .i64 y', .int .i64 m', .int .i64 d', .bool c'] 25))
  have b := D4.new (w.alloc (.cells #[.int .i64 y, .int .i64 m, .int .i64 d, .bool c] 25)) y' m' d' c' 25
  rw [h1] at b
  have z := D4.new ((w.alloc (.cells #[.int .i64 y, .int .i64 m, .int .i64 d, .bool c] 25)).alloc (.cells #[.int .i64 y', .int .i64 m', .int .i64 d', .bool c'] 25)) 0 0 0 false 25
  rw [h2] at z
  refine ⟨a.below (box_below _ _), b.below (box_below _ _), z, ?_⟩
  have e : ((w.alloc (.cells #[.int .i64 y, .int .i64 m, .int .i64 d, .bool c] 25)).alloc (.cells #[.int .i64 y', .int .i64 m', .int .i64 d', .bool c'] 25)).heap.size = w.heap.size + 1 + 1 := h2
  generalize (w.alloc (.cells #[.int .i64 y, .int .i64 m, .int .i64 d, .bool c] 25)).alloc (.cells #[.int .i64 y', .int .i64 m', .int .i64 d', .bool c'] 25) = W at *
  rw [← e]
  exact ⟨by simp, by simp, by simp, by simp⟩
end Go.Proofs.YtlhkfhgnlopejaaDoor.Dt
