/-
  Blocks of cells of which none is frozen; worlds that keep what was there.
-/
import Derived.Test.YteccmlpibbchbaaGreatDoorRows
import Derived.WalkKit
import Derived.Below
import Derived.Lib.Hide
import Derived.Deep.QuietTactic
import Derived.BigQuiet
namespace Go.Proofs.YteccmlpibbchbaaGreatDoor.Nms
open Go.RowKit
set_option linter.unusedVariables false
set_option linter.unusedSimpArgs false

/-- block g holds cells, none of them frozen -/
def NF (w : World) (g : Nat) : Prop := ∃ cs t, w.heap[g]? = some (.cells cs t (0, 0))
theorem NF.lt {w : World} {g : Nat} (h : NF w g) : g < w.heap.size := by obtain ⟨_, _, h⟩ := h; exact (Array.getElem?_eq_some_iff.1 h).1
theorem NF.below {w w' : World} {g : Nat} (h : NF w g) (hb : Below w.heap.size w w') : NF w' g := by
  obtain ⟨cs, t, e⟩ := h
  exact ⟨cs, t, (hb.block g (Array.getElem?_eq_some_iff.1 e).1).trans e⟩
theorem NF.set {w : World} {g : Nat} (h : NF w g) (a : Addr) (v : Value) : NF (w.setCell a v) g := by
  obtain ⟨cs, t, e⟩ := h
  unfold NF
  simp only [World.setCell, Array.getElem?_modify]
  by_cases hb : a.block = g
  · rw [if_pos hb, e]; exact ⟨_, _, rfl⟩
  · rw [if_neg hb]; exact ⟨_, _, e⟩
theorem NF.frozen {w : World} {g : Nat} (h : NF w g) (o : Nat) (s : _) : w.frozen? ⟨g, o, s⟩ = false := by
  obtain ⟨cs, t, e⟩ := h
  simp [World.frozen?, e]
theorem NF.own {w : World} {base : Nat} {e : TypeId} {size : Nat} {a : Addr} {n c : Nat} {xs : List Value} (h : w.ownsRow base e size (.slice (some a) n c) n xs) : NF w a.block := by
  rcases h.2 with ⟨h, _⟩ | ⟨g, cap, cur, h, _, hg, _⟩
  · cases h
  · cases h; exact ⟨_, _, hg⟩
end Go.Proofs.YteccmlpibbchbaaGreatDoor.Nms
namespace Go.Proofs.YteccmlpibbchbaaGreatDoor.Kpz
open Go.RowKit
set_option linter.unusedVariables false
set_option linter.unusedSimpArgs false

def Kp (W w' : World) : Prop := Below W.heap.size W w'
theorem kre (W : World) : Kp W W := Below.refl _ _
theorem kdr {W w : World} (h : Kp W w) : Kp W w.drew := Below.drew h
theorem kal {W w : World} (h : Kp W w) (o : Obj) : Kp W (w.alloc o) := Below.alloc h (Below.size h) o
theorem kdn {W w : World} (h : Kp W w) (q : Nat) : Kp W (w.drewN q) := ⟨h.os, h.tape, h.output, h.size, h.block⟩
theorem ksz {W w : World} (h : Kp W w) : W.heap.size ≤ w.heap.size := Below.size h
theorem ktr {W w1 w2 : World} (h : Kp W w1) (h2 : Kp w1 w2) : Kp W w2 := Below.trans h (Below.mono h2 (Below.size h))
theorem own_kp {w w' : World} {base : Nat} {e : TypeId} {size n : Nat} {v : Value} {xs : List Value} (h : w.ownsRow base e size v n xs) (hb : Kp w w') : w'.ownsRow base e size v n xs :=
  h.kept (row := none) ⟨hb.os, hb.tape, hb.output, hb.size, fun k hk _ => hb.block k hk⟩ (by
    cases hv : v.ownBlock with
    | none => exact .inl rfl
    | some g => exact .inr (fun e => by cases e))
theorem below_grown {B : Nat} {w0 w w' : World} {row : Option Nat} (h : Below B w0 w) (hg : w.grownBy w' row) (hB : B ≤ w.heap.size) (hrow : ∀ k, row = some k → B ≤ k) : Below B w0 w' :=
  h.trans ⟨hg.os, hg.tape, hg.output, hg.size, fun k hk => hg.block k (Nat.lt_of_lt_of_le hk hB) (fun e => by have := hrow k e.symm; omega)⟩
theorem kgr {W w w' : World} {row : Option Nat} (h : Kp W w) (hg : w.grownBy w' row) (hrow : ∀ k, row = some k → W.heap.size ≤ k) : Kp W w' := below_grown h hg (Below.size h) hrow
theorem own_far {w w' : World} {base : Nat} {e : TypeId} {size n : Nat} {v : Value} {xs : List Value} {row : Option Nat} (h : w.ownsRow base e size v n xs) (hg : w.grownBy w' row) (hne : v.ownBlock ≠ row) : w'.ownsRow base e size v n xs :=
  h.kept hg (.inr hne)
theorem lt_cell {w : World} {b o : Nat} {v : Value} (h : w.cell? ⟨b, o, none⟩ = some v) : b < w.heap.size := by
  unfold World.cell? at h
  rcases Nat.lt_or_ge b w.heap.size with hl | hl
  · exact hl
  · rw [Array.getElem?_eq_none hl] at h; cases h
end Go.Proofs.YteccmlpibbchbaaGreatDoor.Kpz
