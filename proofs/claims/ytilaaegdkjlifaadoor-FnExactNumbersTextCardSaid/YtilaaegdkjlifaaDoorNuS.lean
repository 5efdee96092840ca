/-
  Rows of numbers that are sorted in place: what they own before and behind the sort.
-/
import Derived.Test.YtilaaegdkjlifaaDoorNuA
import Derived.Sort.OwnSorted
namespace Go.Proofs.YtilaaegdkjlifaaDoor.Nu
open Go.Sort Go.Proofs Go.RowKit
set_option linter.unusedSimpArgs false
set_option linter.unusedVariables false

theorem holds_int {w : World} {g : Nat} {cur : Array Value} {e : TypeId} {W : List Int} (hb : w.heap[g]? = some (.cells cur e (0, 0))) (ht : cur.toList.take W.length = W.map encI) : Sort.Holds encI w g 0 W.toArray := by
  intro j hj
  have hjl : j < W.length := by simpa using hj
  have hcj : cur.toList[j]? = some (encI W[j]) := by
    have : (cur.toList.take W.length)[j]? = (W.map encI)[j]? := by rw [ht]
    rw [List.getElem?_take_of_lt hjl] at this
    rw [this]; simp [hjl]
  rw [Array.getElem?_toList] at hcj
  constructor
  · simp [World.cell?, hb, hcj, hjl]
  · simp [World.frozen?, hb]
theorem heap_int {w : World} {g n : Nat} {os : Array Obj} {cur : Array Value} {e : TypeId} {fr : Nat × Nat} (d : Array Int) (hb : w.heap[g]? = some (.cells cur e fr)) :
    (Sort.grow (Sort.putRow encI (Sort.ahead w n) g 0 d) os).heap[g]? = some (.cells (putCells encI 0 d cur) e fr) := by
  have hg : g < w.heap.size := (Array.getElem?_eq_some_iff.1 hb).1
  rw [heap_grow_old _ _ (by simpa using hg)]
  simp [putRow, mapBlock, Sort.ahead, Array.getElem?_modify, hb, onCells]
theorem grown_int {w : World} {g n : Nat} {os : Array Obj} (d : Array Int) : w.grownBy (Sort.grow (Sort.putRow encI (Sort.ahead w n) g 0 d) os) (some g) := by
  constructor
  · rfl
  · rfl
  · rfl
  · simp
  · intro k hk hne
    have hgk : g ≠ k := fun e => hne (congrArg some e.symm)
    rw [heap_grow_old _ _ (by simpa using hk)]
    simp [putRow, mapBlock, Sort.ahead, Array.getElem?_modify, hgk]
theorem take_int (cur : Array Value) (W : List Int) (h : W.length ≤ cur.size) : (putCells encI 0 W.toArray cur).toList.take W.length = W.map encI := by
  refine List.ext_getElem? fun j => ?_
  rcases Nat.lt_or_ge j W.length with hj | hj
  · have hjc : j < cur.size := Nat.lt_of_lt_of_le hj h
    rw [List.getElem?_take_of_lt hj, Array.getElem?_toList]
    simp [putCells, hj, hjc]
  · rw [List.getElem?_take_eq_none hj, List.getElem?_eq_none (by simpa using hj)]
theorem owns_int {w : World} {base g cap n : Nat} {e : TypeId} {os : Array Obj} {cur : Array Value} {W Z : List Int} (hl : Z.length = W.length) (hbase : base ≤ g) (hb : w.heap[g]? = some (.cells cur e (0, 0)))
    (h1 : W.length ≤ cap) (h2 : cap ≤ maxLen) (h3 : cur.size = cap * 1) :
    (Sort.grow (Sort.putRow encI (Sort.ahead w n) g 0 Z.toArray) os).ownsRow base e 1 (.slice (some ⟨g, 0, none⟩) W.length cap) W.length (Z.map encI) := by
  refine ⟨by simp [hl], .inr ⟨g, cap, _, rfl, hbase, heap_int _ hb, h1, h2, by simp [putCells, h3], ?_⟩⟩
  rw [Nat.mul_one, ← hl]
  exact take_int cur Z (by omega)
end Go.Proofs.YtilaaegdkjlifaaDoor.Nu
