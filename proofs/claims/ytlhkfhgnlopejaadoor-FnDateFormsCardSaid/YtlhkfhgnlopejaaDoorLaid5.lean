/-
  The five listed variables: the three tables and the two errors of strconv.
-/
import Derived.Test.YtlhkfhgnlopejaaDoorLaid
import Derived.Test.YtlhkfhgnlopejaaDoorAtoi
namespace Go.Proofs.YtlhkfhgnlopejaaDoor.Laid
open Go.ChangeShapes Go.WideShapes Go.ChangeAt Go.RowKit

theorem gSType : (Tryd.prog.globals[1]?).map (·.type) = some 62 := by kernel_rfl
theorem gRType : (Tryd.prog.globals[2]?).map (·.type) = some 62 := by kernel_rfl
theorem cellsStruct : Tryd.prog.cellsOf 116 = 1 := by kernel_rfl
theorem cellsStr : Tryd.prog.cellsOf 9 = 1 := by kernel_rfl
theorem star : "*" ++ "errors.errorString" = "*errors.errorString" := by decide
theorem rowPtr (u : TypeId) (h : Tryd.prog.typeName? 3 u = some "*errors.errorString") : u = 114 :=
  typeName_ptr_named (nm := "errors.errorString") (by rw [star]; kernel_rfl) (by kernel_rfl) (by decide) u (by rw [star]; exact h)
/-- the list of the rows -/
def five : List (String × DataW Unit) := three [("strconv.ErrRange", Rows.laid_strconv_ErrRange), ("strconv.ErrSyntax", Rows.laid_strconv_ErrSyntax)]
theorem tab5 {W : World} (h : laidMet Tryd.prog five W) : Num.Tab W := tab_of h
theorem errs_of {W : World} (h : laidMet Tryd.prog five W) : Read.Errs W := by
  have h1 := h.tail.tail.tail
  obtain ⟨a, _, hv, _⟩ := laid_sentinel h1 Read.gR gRType Tryd.underlying62 rowPtr Tryd.underlying114 Tryd.underlying116 rfl rfl Tryd.underlying9 cellsStruct cellsStr
  obtain ⟨b, _, hv2, _⟩ := laid_sentinel h1.tail Read.gS gSType Tryd.underlying62 rowPtr Tryd.underlying114 Tryd.underlying116 rfl rfl Tryd.underlying9 cellsStruct cellsStr
  exact ⟨⟨_, _, hv2⟩, _, _, hv⟩

noncomputable def low : Nat := (World.holding Tryd.prog default ⟨#[], #[], []⟩).heap.size
noncomputable def world5 (os : Os) : World :=
  let w0 := tablesIn (World.holding Tryd.prog os ⟨#[.cells #[.string ⟨#[105, 110, 118, 97, 108, 105, 100, 32, 115, 121, 110, 116, 97, 120]⟩] 116, .cells #[.string ⟨#[118, 97, 108, 117, 101, 32, 111, 117, 116, 32, 111, 102, 32, 114, 97, 110, 103, 101]⟩] 116], #[], []⟩)
  { w0 with heap := (w0.heap.modify 1 fun
      | .cells _ t frozen => .cells #[.iface 114 (.pointer (some ⟨low, 0, none⟩))] t frozen
      | o => o).modify 2 fun
      | .cells _ t frozen => .cells #[.iface 114 (.pointer (some ⟨low + 1, 0, none⟩))] t frozen
      | o => o }
end Go.Proofs.YtlhkfhgnlopejaaDoor.Laid
