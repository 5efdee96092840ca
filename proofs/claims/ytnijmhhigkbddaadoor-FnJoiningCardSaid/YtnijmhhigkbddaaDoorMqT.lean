/-
  The listed table of the marks lies as laid; a byte that comes in.
-/
import Derived.Test.YtnijmhhigkbddaaDoorMq
import Derived.Test.YtnijmhhigkbddaaDoorCards
import Derived.Test.YtnijmhhigkbddaaDoorTie
import Derived.ProofKit
import Derived.OpenShut
import Derived.ShutString
import Derived.ChangeOld
import Derived.Deep.DeepHandedRow
import Derived.Lib.LaidTab
import Derived.Stop.LaidErr
import Derived.DataShut
namespace Go.Proofs.YtnijmhhigkbddaaDoor.Mq
open Go.ChangeShapes Go.WideShapes Go.ChangeAt Go.RowKit
open MqPl
set_option linter.unusedSimpArgs false
set_option linter.unusedVariables false

theorem byte_of {z : Int} (h : (Lit.int .u8 z).wf = true) : ∃ c : UInt8, z = (c.toNat : Int) := by
  have h1 : 0 ≤ z ∧ z < 256 := by
    have h2 := (Lit.wf_int_iff .u8 z).1 h
    have e1 : IntKind.u8.min = 0 := by decide
    have e2 : IntKind.u8.max = 255 := by decide
    omega
  refine ⟨UInt8.ofNat z.toNat, ?_⟩
  rw [UInt8.toNat_ofNat']
  omega
theorem gM : Tryd.prog.globalNamed "loop.example/g00896/impl.replacingMarks" = some 0 := by kernel_rfl
theorem gMT : (Tryd.prog.globals[0]?).map (·.type) = some 68 := by kernel_rfl
theorem c6 : Tryd.prog.cellsOf 67 = 6 := by kernel_rfl
theorem c1 : Tryd.prog.cellsOf 5 = 1 := by kernel_rfl
/-- the table's rows -/
def tabR : List (List Int) := [[46, 0, 0, 0, 33, 63], [46, 44, 59, 58, 33, 63], [46, 59, 59, 58, 33, 63], [58, 58, 59, 58, 33, 63], [33, 33, 0, 0, 33, 0], [63, 63, 0, 0, 0, 63]]
theorem tabR_tb : ∀ i, i < 6 → ∀ j, j < 6 → (tabR.getD i [])[j]? = some ((tb i j).toNat : Int) := by decide +kernel
theorem tab_data {H : Type} : (Rows.laid_loop_example_g00896_impl_replacingMarks : DataW H) = .agg (tabR.map fun r => .agg (r.map fun z => .lit (.int .u8 z))) := rfl
theorem markTab_of_head {W : World} {rest : List (String × DataW Unit)} (h : laidMet Tryd.prog (("loop.example/g00896/impl.replacingMarks", Rows.laid_loop_example_g00896_impl_replacingMarks) :: rest) W) : MarkTab W := by
  rw [tab_data] at h
  obtain ⟨_, ⟨g', t', cs, fuel, p, q, hg', ht', hvar, hd, _, _⟩, _⟩ := h
  cases gM.symm.trans hg'
  cases gMT.symm.trans ht'
  have hcell := World.var?_cell gM hvar
  obtain ⟨xs, m, _, hx, _, hl, hel⟩ := DataW.trod_array Tryd.underlying68 hd
  have hxs : xs.map (·.1) = tabR.map fun r => (DataW.agg (r.map fun z => .lit (.int .u8 z)) : DataW Unit) := (DataW.agg.inj (congrArg Prod.fst hx)).symm
  have key : ∀ i j, i < 6 → j < 6 → W.cell? ⟨0, i * 6 + j, none⟩ = some (.int .u8 (tb i j).toNat) := by
    intro i j hi hj
    have h1 := hel i hi
    rw [c6, List.getElem?_eq_getElem (by omega)] at h1
    have h2 := congrArg (fun l => l[i]?) hxs
    have hri : tabR[i]? = some (tabR.getD i []) := by
      have : i < tabR.length := hi
      rw [List.getD_eq_getElem?_getD, List.getElem?_eq_getElem this]; rfl
    rw [List.getElem?_map, List.getElem?_map, hri, List.getElem?_eq_getElem (show i < xs.length by omega), Option.map_some, Option.map_some] at h2
    have h3 := Option.some.inj h2
    have h4 : DataW.trod (fun _ => ()) Tryd.prog W 0 (fun _ => true) false m 67 ((cs.toList.drop (i * 6)).take 6) = some (.agg ((tabR.getD i []).map fun z => .lit (.int .u8 z)), xs[i].2) := by rw [← h3]; exact h1
    obtain ⟨ys, n, _, hy, _, hyl, hey⟩ := DataW.trod_array Tryd.underlying67 h4
    have hys : ys.map (·.1) = (tabR.getD i []).map fun z => (DataW.lit (.int .u8 z) : DataW Unit) := (DataW.agg.inj (congrArg Prod.fst hy)).symm
    have h5 := hey j hj
    rw [c1, List.getElem?_eq_getElem (show j < ys.length by omega)] at h5
    have h6 := congrArg (fun l => l[j]?) hys
    rw [List.getElem?_map, List.getElem?_map, tabR_tb i hi j hj, List.getElem?_eq_getElem (show j < ys.length by omega), Option.map_some, Option.map_some] at h6
    have h7 := Option.some.inj h6
    obtain ⟨z, e1, e2, _⟩ := DataW.trod_int Tryd.underlying5 h5
    have e3 : (DataW.lit (.int .u8 z) : DataW Unit) = .lit (.int .u8 (tb i j).toNat) := by rw [← h7, e2]
    have e4 := Lit.int.inj (DataW.lit.inj e3)
    rw [e4.2, Nat.mul_one] at e1
    have h8 : ((((cs.toList.drop (i * 6)).take 6).drop j).take 1)[0]? = some (.int .u8 (tb i j).toNat) := by rw [e1]; rfl
    rw [List.getElem?_take, if_pos (by decide), List.getElem?_drop, List.getElem?_take, if_pos (by omega), List.getElem?_drop, Nat.add_zero] at h8
    rw [hcell, ← Array.getElem?_toList]
    exact h8
  refine ⟨?_, key⟩
  have h0 := key 0 0 (by decide) (by decide)
  rcases Nat.lt_or_ge 0 W.heap.size with h | h
  · exact h
  · exfalso
    have : W.heap[0]? = none := Array.getElem?_eq_none h
    simp [World.cell?, this] at h0
end Go.Proofs.YtnijmhhigkbddaaDoor.Mq
