/-
  A row of bytes that the call makes of a string, written and read back.
-/
import Derived.Test.YtljbbmefemfjpaaRows
import Derived.Test.YtljbbmefemfjpaaPlain
import Derived.WalkKit
import Derived.Below
import Derived.Laws.BytesArg
import Derived.Lib.ConvBytes
namespace Go.Proofs.Ytljbbmefemfjpaa.RowB
open Go.RowKit Pl Go.Lib

/-- block b holds the bytes l, and they may be written -/
def RowB (W : World) (b : Nat) (l : List UInt8) : Prop := ∀ j c, l[j]? = some c → W.cell? ⟨b, j, none⟩ = some (.int .u8 c.toNat) ∧ W.frozen? ⟨b, j, none⟩ = false
theorem RowB.set {W : World} {b k : Nat} {l : List UInt8} (h : RowB W b l) (hk : k < l.length) (c : UInt8) : RowB (W.setCell ⟨b, k, none⟩ (.int .u8 c.toNat)) b (l.set k c) := by
  intro j d hd
  rw [List.getElem?_set] at hd
  by_cases hjk : k = j
  · subst hjk
    rw [if_pos rfl, if_pos hk] at hd
    cases hd
    obtain ⟨h1, h2⟩ := h k l[k] (List.getElem?_eq_getElem hk)
    exact ⟨World.cell?_setCell_same W _ _ h1, by rw [World.frozen?_setCell]; exact h2⟩
  · rw [if_neg hjk] at hd
    obtain ⟨h1, h2⟩ := h j d hd
    refine ⟨?_, by rw [World.frozen?_setCell]; exact h2⟩
    have hne : (⟨b, k, none⟩ : Addr) ≠ ⟨b, j, none⟩ := fun e => hjk (by cases e; rfl)
    exact (World.cell?_setCell_other W _ _ _ hne).trans h1
theorem row_new (w : World) (s : ByteArray) : RowB (bytesWorld w 5 s) w.heap.size s.data.toList := by
  intro j c hc
  have hj : j < s.size := by rw [← len_size]; exact (List.getElem?_eq_some_iff.1 hc).1
  refine ⟨?_, ?_⟩
  · rw [bytesWorld_cell w 5 s j hj, List.getD_eq_getElem?_getD, hc]; rfl
  · have := bytesWorld_at_new w 5 s
    have hsz : s.size ≤ (bytesCells w 5 s).size := by
      unfold bytesCells
      rw [Array.size_append, Array.size_map]
      exact Nat.le_add_right _ _
    simp [World.frozen?, this]
    omega
theorem below_bytes (w : World) (s : ByteArray) : Below w.heap.size w (bytesWorld w 5 s) :=
  ⟨rfl, rfl, rfl, by rw [bytesWorld_size]; omega, fun k hk => bytesWorld_at_old w 5 s k hk⟩
/-- the row read as a string -/
theorem row_str {W : World} {b n cap : Nat} {l : List UInt8} (h : RowB W b l) (hn : l.length = n) :
    (convert 22 9 (.slice (some ⟨b, 0, none⟩) n cap)).run Try.prog W = .ok (.string (strOfNums (l.map fun c => (c.toNat : Int)))) W := by
  refine (run_convert_bytes_arg _ 22 5 Try.underlying22 Try.underlying5 b 0 n cap (l.map fun c => (c.toNat : Int)) (by simpa using hn) (fun i hi => ?_) 9 Try.underlying9)
  have hi' : i < l.length := by omega
  rw [Nat.zero_add, (h i l[i] (List.getElem?_eq_getElem hi')).1]
  simp [List.getD, List.getElem?_eq_getElem hi']
theorem nums_str (l : List UInt8) : strOfNums (l.map fun c => (c.toNat : Int)) = ⟨l.toArray⟩ := by
  unfold strOfNums
  rw [List.map_map]
  have : l.map ((fun n : Int => UInt8.ofNat n.toNat) ∘ fun c : UInt8 => (c.toNat : Int)) = l := by
    conv => rhs; rw [← List.map_id l]
    apply List.map_congr_left
    intro x _
    simp
  rw [this]
end Go.Proofs.Ytljbbmefemfjpaa.RowB
