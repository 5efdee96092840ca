/-
  Small facts for the drawing functions: a new cursor, and texts of zero bytes.
-/
import Derived.Test.YtljbbmefemfjpaaRows
import Derived.Test.YtljbbmefemfjpaaPlain
import Derived.Test.YtljbbmefemfjpaaCurP
import Derived.WalkKit
import Derived.Lib.Hide
import Derived.Laws.BytesArg
import Derived.Maps.AppendAt
import Derived.RangeFuncBox
namespace Go.Proofs.Ytljbbmefemfjpaa.Draw0
open Go.RowKit Pl Cur

/-- a new cursor -/
theorem cur_new (w : World) (A : Option Addr) (n c : Nat) : IsCur (w.alloc (.cells #[.slice A n c, .int .i64 0, .int .u64 0] 62)) w.heap.size A n c 0 0 := World.alloc_heap_new w _
theorem rdb_new {w : World} {A : Option Addr} {n : Nat} (h : RdB w A n) (ha : Apart A n w.heap.size) (o : Obj) : RdB (w.alloc o) A n := by
  intro j hj
  obtain ⟨b, of, z, rfl, hc, hz⟩ := h j hj
  refine ⟨b, of, z, rfl, ?_, hz⟩
  have := ha (by omega) _ rfl
  simp at this
  rw [World.cell?_alloc_lt w o ⟨b, of + j, none⟩ (by simp; omega)]
  exact hc
theorem below_new {w w' : World} {o : Obj} (h : (w.alloc o).grownBy w' (some w.heap.size)) : Below w.heap.size w w' :=
  ((Below.refl _ w).alloc (Nat.le_refl _) o).grown h (by simp) (fun k e => by cases e; exact Nat.le_refl _)

theorem rdb_below {w w' : World} {A : Option Addr} {n : Nat} (h : RdB w A n) (ha : Apart A n w.heap.size) (hb : Below w.heap.size w w') : RdB w' A n := by
  intro j hj
  obtain ⟨b, of, z, rfl, hc, hz⟩ := h j hj
  have := ha (by omega) _ rfl
  simp at this
  exact ⟨b, of, z, rfl, (hb.cell (p := ⟨b, of + j, none⟩) this).trans hc, hz⟩
theorem below_cur {w w1 w' : World} (hb : Below w.heap.size w w1) (h : w1.grownBy w' (some w.heap.size)) : Below w.heap.size w w' :=
  hb.grown h hb.size (fun k e => by cases e; exact Nat.le_refl _)

theorem info5 : (Try.prog.info? 5).map (fun i => (i.zero, i.size, i.bytes)) = some (some (.int .u8 0), 1, 1) := by kernel_rfl

/-- a text of t zero bytes -/
def zeros (t : Nat) : ByteArray := strOfNums (List.replicate t 0)
theorem zeros_size (t : Nat) : (zeros t).size = t := by rw [zeros, strOfNums_size, List.length_replicate]
theorem strz (u : World) (t : Nat) :
    (convert 22 9 (.slice (some ⟨u.heap.size, 0, none⟩) t t)).run Try.prog (u.alloc (.cells (madeCells #[.int .u8 0] t) 5)) = .ok (.string (zeros t)) (u.alloc (.cells (madeCells #[.int .u8 0] t) 5)) := by
  refine (run_convert_bytes_arg _ 22 5 Try.underlying22 Try.underlying5 u.heap.size 0 t t (List.replicate t 0) (by simp) (fun i hi => ?_) 9 Try.underlying9)
  rw [Nat.zero_add, World.cell?_alloc_mark, ← Array.getElem?_toList, toList_madeCells_one]
  simp [hi]
theorem mkz (u : World) (t : Nat) (ht : t ≤ 65536) :
    (Instr.makeSlice 22 (.int .i64 t) (.int .i64 t)).run Try.prog u = .ok (.slice (some ⟨u.heap.size, 0, none⟩) t t) (u.alloc (.cells (madeCells #[.int .u8 0] t) 5)) := by
  obtain ⟨i0, hi, hz0, hz1, hz2⟩ := info_parts info5
  have h := run_make (P := Try.prog) u 22 5 i0 (.int .u8 0) Try.underlying22 hi hz0 .i64 .i64 (t : Int) (t : Int) (by omega) (Int.le_refl _) (by rw [hz2]; omega) (by omega)
  rw [Int.toNat_natCast] at h
  simpa [hz1, Value.cells] using h

end Go.Proofs.Ytljbbmefemfjpaa.Draw0
