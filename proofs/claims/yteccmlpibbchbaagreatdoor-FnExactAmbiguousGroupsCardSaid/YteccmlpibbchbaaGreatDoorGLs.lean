/-
  Several texts of one claim in one file: LaidS, Laid.
-/
import Derived.Test.YteccmlpibbchbaaGreatDoorCards
import Derived.Test.YteccmlpibbchbaaGreatDoorTie
import Derived.Test.YteccmlpibbchbaaGreatDoorPlain
import Derived.WalkKit
import Derived.ProofKit
import Derived.OpenShut
import Derived.ShutString
import Derived.ChangeOld
import Derived.Below
import Derived.Deep.DeepHandedRow
import Derived.Lib.LaidTab
import Derived.Stop.LaidErr
import Derived.Test.YteccmlpibbchbaaGreatDoorGNu
/-
  A listed variable that is an array of strings: what its cells hold.
-/
namespace Go.Proofs.YteccmlpibbchbaaGreatDoor.LaidS
open Go.ChangeShapes Go.WideShapes Go.ChangeAt Go.RowKit Pl

/-- the variable at g holds these strings -/
def StrTab (g : Nat) (zs : List (List UInt8)) (w : World) : Prop := g < w.heap.size ∧ ∀ i z, zs[i]? = some z → w.cell? ⟨g, i, none⟩ = some (.string (ba z))
theorem StrTab.below {g : Nat} {zs : List (List UInt8)} {w w' : World} (h : StrTab g zs w) (hb : Below w.heap.size w w') : StrTab g zs w' :=
  ⟨Nat.lt_of_lt_of_le h.1 hb.size, fun i z hz => (hb.cell (p := ⟨g, i, none⟩) h.1).trans (h.2 i z hz)⟩
theorem strTab_of_head {W : World} {name : String} {zs : List (List UInt8)} {rest : List (String × DataW Unit)} {g : Nat} {t e : TypeId} {n : Nat} (hg : Tryz.prog.globalNamed name = some g) (hty : (Tryz.prog.globals[g]?).map (·.type) = some t)
    (ht : Tryz.prog.underlying t = some (.array n e)) (he : Tryz.prog.underlying e = some .string) (hce : Tryz.prog.cellsOf e = 1) (hpos : 0 < zs.length)
    (h : laidMet Tryz.prog ((name, .agg (zs.map fun z => .lit (.string z))) :: rest) W) : StrTab g zs W := by
  obtain ⟨_, ⟨g', t', cs, fuel, p, q, hg', ht', hvar, hd, _, _⟩, _⟩ := h
  cases hg.symm.trans hg'
  cases hty.symm.trans ht'
  have hcell := World.var?_cell hg hvar
  obtain ⟨xs, m, _, hx, _, hl, hel⟩ := DataW.trod_array ht hd
  have hxs : xs.map (·.1) = zs.map fun z => (DataW.lit (.string z) : DataW Unit) := (DataW.agg.inj (congrArg Prod.fst hx)).symm
  have hlen : zs.length = n := by have := congrArg List.length hxs; simp at this; omega
  have key : ∀ i z, zs[i]? = some z → W.cell? ⟨g, i, none⟩ = some (.string (ba z)) := by
    intro i z hz
    have hi : i < n := by rw [← hlen]; exact (List.getElem?_eq_some_iff.1 hz).1
    have h1 := hel i hi
    rw [hce, Nat.mul_one, List.getElem?_eq_getElem (by omega)] at h1
    obtain ⟨s, e1, e2, _⟩ := DataW.trod_string he h1
    have h2 := congrArg (fun l => l[i]?) hxs
    rw [List.getElem?_map, List.getElem?_map, hz, List.getElem?_eq_getElem (show i < xs.length by omega), Option.map_some, Option.map_some] at h2
    have h5 := Option.some.inj h2
    rw [e2] at h5
    have h6 : s.data.toList = z := Lit.string.inj (DataW.lit.inj h5)
    have h3 : ((cs.toList.drop i).take 1)[0]? = some (.string s) := by rw [e1]; rfl
    rw [List.getElem?_take, if_pos (by decide), List.getElem?_drop, Nat.add_zero] at h3
    rw [hcell, ← Array.getElem?_toList, h3, ← h6, ba_toList]
  refine ⟨?_, key⟩
  obtain ⟨z, r, rfl⟩ : ∃ z r, zs = z :: r := by cases zs with
    | nil => simp at hpos
    | cons z r => exact ⟨z, r, rfl⟩
  have h0 := key 0 z rfl
  rcases Nat.lt_or_ge g W.heap.size with h | h
  · exact h
  · exfalso
    have : W.heap[g]? = none := Array.getElem?_eq_none h
    simp [World.cell?, this] at h0
end Go.Proofs.YteccmlpibbchbaaGreatDoor.LaidS
/-
  The listed variables of this seat's rows: a world in which they lie as the text lays them, and what the walks read off the list.
-/
namespace Go.Proofs.YteccmlpibbchbaaGreatDoor.Laid
open Go.ChangeShapes Go.WideShapes Go.ChangeAt Go.RowKit

theorem own : ownKnob Tryz.prog.godebug = none := by kernel_rfl
theorem laidOut : laidOutB Tryz.prog = true := by kernel_rfl

theorem gType : (Tryz.prog.globals[3]?).map (·.type) = some 188 := by kernel_rfl
theorem cellsT : Tryz.prog.cellsOf 188 = 20 := by kernel_rfl
theorem cellsE : Tryz.prog.cellsOf 173 = 1 := by kernel_rfl
/-- the three tables, and whatever follows -/
def three (r : List (String × DataW Unit)) : List (String × DataW Unit) := ("math/bits.deBruijn32tab", Rows.laid_math_bits_deBruijn32tab) :: ("math/bits.deBruijn64tab", Rows.laid_math_bits_deBruijn64tab) :: ("internal/strconv.uint64pow10", Rows.laid_internal_strconv_uint64pow10) :: r
theorem tab_of {W : World} {r : List (String × DataW Unit)} (h : laidMet Tryz.prog (three r) W) : Num.Tab W :=
  Lib.tabIs_of_head (rest := r) Num.gTab gType Tryz.underlying188 Tryz.underlying173 cellsE cellsT h.tail.tail

/-- the settled world, the tables holding what their initialisers lay -/
def ints (k : IntKind) (l : List Int) : Array Value := (l.map (Value.int k)).toArray
noncomputable def tablesIn (w0 : World) : World :=
  { w0 with heap := ((w0.heap.modify 3 fun
      | .cells _ t frozen => .cells (ints .u64 [1, 10, 100, 1000, 10000, 100000, 1000000, 10000000, 100000000, 1000000000, 10000000000, 100000000000, 1000000000000, 10000000000000, 100000000000000, 1000000000000000, 10000000000000000, 100000000000000000, 1000000000000000000, 10000000000000000000]) t frozen
      | o => o).modify 6 fun
      | .cells _ t frozen => .cells (ints .u8 [0, 1, 28, 2, 29, 14, 24, 3, 30, 22, 20, 15, 25, 17, 4, 8, 31, 27, 13, 23, 21, 19, 16, 7, 26, 12, 18, 6, 11, 5, 10, 9]) t frozen
      | o => o).modify 7 fun
      | .cells _ t frozen => .cells (ints .u8 [0, 1, 56, 2, 57, 49, 28, 3, 61, 58, 42, 50, 38, 29, 17, 4, 62, 47, 59, 36, 45, 43, 51, 22, 53, 39, 33, 30, 24, 18, 12, 5, 63, 55, 48, 27, 60, 41, 37, 16, 46, 35, 44, 21, 52, 32, 23, 11, 54, 26, 40, 15, 34, 20, 31, 10, 25, 14, 19, 9, 13, 8, 7, 6]) t frozen
      | o => o }
noncomputable def world3 (os : Os) : World := tablesIn (World.holding Tryz.prog os ⟨#[], #[], []⟩)
end Go.Proofs.YteccmlpibbchbaaGreatDoor.Laid
