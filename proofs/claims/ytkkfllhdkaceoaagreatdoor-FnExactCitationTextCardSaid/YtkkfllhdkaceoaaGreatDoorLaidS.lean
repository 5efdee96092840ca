/-
  A listed variable that is an array of strings: what its cells hold.
-/
import Derived.Test.YtkkfllhdkaceoaaGreatDoorCards
import Derived.Test.YtkkfllhdkaceoaaGreatDoorTie
import Derived.Test.YtkkfllhdkaceoaaGreatDoorPlain
import Derived.WalkKit
import Derived.ProofKit
import Derived.OpenShut
import Derived.ShutString
import Derived.ChangeOld
import Derived.Below
import Derived.Deep.DeepHandedRow
import Derived.Lib.LaidTab
import Derived.Stop.LaidErr
namespace Go.Proofs.YtkkfllhdkaceoaaGreatDoor.LaidS
open Go.ChangeShapes Go.WideShapes Go.ChangeAt Go.RowKit Pl

/-- the variable at g holds these strings -/
def StrTab (g : Nat) (zs : List (List UInt8)) (w : World) : Prop := g < w.heap.size ∧ ∀ i z, zs[i]? = some z → w.cell? ⟨g, i, none⟩ = some (.string (ba z))
theorem StrTab.below {g : Nat} {zs : List (List UInt8)} {w w' : World} (h : StrTab g zs w) (hb : Below w.heap.size w w') : StrTab g zs w' :=
  ⟨Nat.lt_of_lt_of_le h.1 hb.size, fun i z hz => (hb.cell (p := ⟨g, i, none⟩) h.1).trans (h.2 i z hz)⟩
theorem strTab_of_head {W : World} {name : String} {zs : List (List UInt8)} {rest : List (String × DataW Unit)} {g : Nat} {t e : TypeId} {n : Nat} (hg : Tryz.prog.globalNamed name = some g) (hty : (Tryz.prog.globals[g]?).map (·.type) = some t)
    (ht : Tryz.prog.underlying t = some (.array n e)) (he : Tryz.prog.underlying e = some .string) (hce : Tryz.prog.cellsOf e = 1) (hpos : 0 < zs.length)
    (h : laidMet Tryz.prog ((name, .agg (zs.map fun z => .lit (.string z))) :: rest) W) : StrTab g zs W := by
  obtain ⟨_, ⟨g', t', cs, fuel, p, q, hg', ht', hvar, hd, _, _⟩, _⟩ := h
  cases hg.symm.trans hg'
  cases hty.symm.trans ht'
  have hcell := World.var?_cell hg hvar
  obtain ⟨xs, m, _, hx, _, hl, hel⟩ := DataW.trod_array ht hd
  have hxs : xs.map (·.1) = zs.map fun z => (DataW.lit (.string z) : DataW Unit) := (DataW.agg.inj (congrArg Prod.fst hx)).symm
  have hlen : zs.length = n := by have := congrArg List.length hxs; simp at this; omega
  have key : ∀ i z, zs[i]? = some z → W.cell? ⟨g, i, none⟩ = some (.string (ba z)) := by
    intro i z hz
    have hi : i < n := by rw [← hlen]; exact (List.getElem?_eq_some_iff.1 hz).1
    have h1 := hel i hi
    rw [hce, Nat.mul_one, List.getElem?_eq_getElem (by omega)] at h1
    obtain ⟨s, e1, e2, _⟩ := DataW.trod_string he h1
    have h2 := congrArg (fun l => l[i]?) hxs
    rw [List.getElem?_map, List.getElem?_map, hz, List.getElem?_eq_getElem (show i < xs.length by omega), Option.map_some, Option.map_some] at h2
    have h5 := Option.some.inj h2
    rw [e2] at h5
    have h6 : s.data.toList = z := Lit.string.inj (DataW.lit.inj h5)
    have h3 : ((cs.toList.drop i).take 1)[0]? = some (.string s) := by rw [e1]; rfl
    rw [List.getElem?_take, if_pos (by decide), List.getElem?_drop, Nat.add_zero] at h3
    rw [hcell, ← Array.getElem?_toList, h3, ← h6, ba_toList]
  refine ⟨?_, key⟩
  obtain ⟨z, r, rfl⟩ : ∃ z r, zs = z :: r := by cases zs with
    | nil => simp at hpos
    | cons z r => exact ⟨z, r, rfl⟩
  have h0 := key 0 z rfl
  rcases Nat.lt_or_ge g W.heap.size with h | h
  · exact h
  · exfalso
    have : W.heap[g]? = none := Array.getElem?_eq_none h
    simp [World.cell?, this] at h0
end Go.Proofs.YtkkfllhdkaceoaaGreatDoor.LaidS
