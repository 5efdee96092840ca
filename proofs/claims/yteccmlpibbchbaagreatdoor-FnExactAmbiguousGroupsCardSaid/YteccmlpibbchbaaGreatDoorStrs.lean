/-
  Contracts of the laws' helpers over slices of strings: eqStringS, markText, heldStringS, markStringS.
-/
import Derived.Test.YteccmlpibbchbaaGreatDoorRows
import Derived.WalkKit
import Derived.LoopTactic
import Derived.Lib.Hide
import Derived.Deep.QuietTactic
import Derived.BigQuiet
import Derived.Below
import Derived.Deep.RegionHeld3
import Derived.Laws.BytesArg
namespace Go.Proofs.YteccmlpibbchbaaGreatDoor.Strs
open Go.RowKit

/-- the slice at address A holds the strings xs -/
def RdS (w : World) (A : Option Addr) (xs : List ByteArray) : Prop :=
  ∀ j x, xs[j]? = some x → ∃ g o, A = some ⟨g, o, none⟩ ∧ w.cell? ⟨g, o + j, none⟩ = some (.string x)

set_option maxHeartbeats 400000 in
theorem eqStringS_same (A1 A2 : Option Addr) (c1 c2 : Nat) (xs : List ByteArray) (w : World) (h1 : RdS w A1 xs) (h2 : RdS w A2 xs) (hl : xs.length ≤ 2097152) :
    Calls Tryz.prog 34 #[.slice A1 xs.length c1, .slice A2 xs.length c2] w fun e w' => e = .returned (.bool true) ∧ ∃ n, w' = w.drewN n := by
  have H1 := Lib.hid h1
  have H2 := Lib.hid h2
  clear h1 h2
  obtain ⟨n, HN⟩ : ∃ n, Hid (n = xs.length) := ⟨_, Lib.hid rfl⟩
  rw [← HN.out] at hl ⊢
  go_enter Tryz.func34, Tryz.ntmps34
  go_wp2
  go_loopw [5] (fun i wr => ∃ k : Nat, k ≤ n ∧ i = .int .i64 k ∧ ∃ q, wr = w.drewN q) (fun i _ => n - (intOf i).toNat)
  case atStart => exact ⟨0, Nat.zero_le _, rfl, 0, rfl⟩
  case round =>
    obtain ⟨k, hk, rfl, q, rfl⟩ := hrel
    by_cases hlt : k < n
    · have hx : k < xs.length := by have := HN.out; omega
      obtain ⟨g1, o1, rfl, hc1⟩ := H1.out k xs[k] (List.getElem?_eq_getElem hx)
      obtain ⟨g2, o2, rfl, hc2⟩ := H2.out k xs[k] (List.getElem?_eq_getElem hx)
      generalize xs[k] = x at hc1 hc2
      go_wp2
      go_quiet (fail)
      go_wp2
      go_roundw
      case rel => exact ⟨k + 1, by omega, by go_num, _, rfl⟩
      case measure => simp [intOf]; omega
    · go_wp2
      go_ret
      exact ⟨rfl, _, rfl⟩

theorem grown_below {w w1 w2 : World} {row : Option Nat} (h : w.grownBy w1 row) (hb : Below w1.heap.size w1 w2) : w.grownBy w2 row :=
  ⟨hb.os.trans h.os, hb.tape.trans h.tape, hb.output.trans h.output, Nat.le_trans h.size hb.size, fun k hk hr => (hb.block k (Nat.lt_of_lt_of_le hk h.size)).trans (h.block k hk hr)⟩
theorem grown_trans {w w1 w2 : World} {row : Option Nat} (h : w.grownBy w1 row) (hb : w1.grownBy w2 row) : w.grownBy w2 row :=
  ⟨hb.os.trans h.os, hb.tape.trans h.tape, hb.output.trans h.output, Nat.le_trans h.size hb.size, fun k hk hr => (hb.block k (Nat.lt_of_lt_of_le hk h.size) hr).trans (h.block k hk hr)⟩
theorem own_below {w w1 : World} {base : Nat} {e : TypeId} {size : Nat} {v : Value} {n : Nat} {xs : List Value} (h : w.ownsRow base e size v n xs) (hb : Below w.heap.size w w1) : w1.ownsRow base e size v n xs := by
  refine ⟨h.1, ?_⟩
  rcases h.2 with h' | ⟨g, cap, cur, e1, e2, e3, e4⟩
  · exact .inl h'
  · refine .inr ⟨g, cap, cur, e1, e2, ?_, e4⟩
    have hg : g < w.heap.size := by
      rcases Nat.lt_or_ge g w.heap.size with hlt | hge
      · exact hlt
      · rw [Array.getElem?_eq_none hge] at e3; cases e3
    exact (hb.block g hg).trans e3

/-- a slice of the call's own reads as its strings -/
theorem own_rds {w : World} {base : Nat} {e : TypeId} {v : Value} {n : Nat} {xs : List ByteArray} (h : w.ownsRow base e 1 v n (xs.map Value.string)) :
    ∃ A c, v = .slice A n c ∧ xs.length = n ∧ RdS w A xs ∧ (∀ a, A = some a → a.block < w.heap.size) := by
  have hl : xs.length = n := by have := h.1; simpa using this
  rcases h.2 with ⟨rfl, rfl⟩ | ⟨g, cap, cur, rfl, _, hg, _⟩
  · refine ⟨none, 0, rfl, hl, fun j x hx => ?_, fun a ha => by cases ha⟩
    rw [List.eq_nil_of_length_eq_zero hl] at hx
    simp at hx
  · refine ⟨some ⟨g, 0, none⟩, cap, rfl, hl, fun j x hx => ⟨g, 0, rfl, ?_⟩, fun a ha => by cases ha; exact (Array.getElem?_eq_some_iff.1 hg).1⟩
    have hj : j < xs.length := (List.getElem?_eq_some_iff.1 hx).1
    rw [Nat.zero_add, World.ownsRow.cellAt h j (by omega), List.getElem?_map, hx]
    rfl
theorem own_cap {w : World} {base : Nat} {e : TypeId} {A : Option Addr} {n c : Nat} {xs : List Value} (h : w.ownsRow base e 1 (.slice A n c) n xs) : n ≤ c := by
  rcases h.2 with ⟨h', rfl⟩ | ⟨g, cap, cur, h', _, _, hc, _⟩
  · omega
  · simp at h'; omega
theorem RdS.of {w w' : World} {A : Option Addr} {xs : List ByteArray} (h : RdS w A xs) (hA : 0 < xs.length → ∀ a, A = some a → w'.heap[a.block]? = w.heap[a.block]?) : RdS w' A xs := by
  intro j x hx
  replace hA := hA (by have := (List.getElem?_eq_some_iff.1 hx).1; omega)
  obtain ⟨g, o, rfl, hc⟩ := h j x hx
  exact ⟨g, o, rfl, (World.cell?_of_block (a := ⟨g, o + j, none⟩) (hA ⟨g, o, none⟩ rfl)).trans hc⟩
theorem own_of_drewN {w : World} {base : Nat} {e : TypeId} {size : Nat} {v : Value} {n : Nat} {xs : List Value} (h : w.ownsRow base e size v n xs) (k : Nat) : (w.drewN k).ownsRow base e size v n xs := h

/-- a row that was there before another was made is not that other one -/
theorem own_apart {w1 w2 : World} {b0 : Nat} {e0 e1 : TypeId} {s0 s1 : Nat} {v0 v1 : Value} {n0 n1 : Nat} {xs ys : List Value} (h0 : w1.ownsRow b0 e0 s0 v0 n0 xs) (h1 : w2.ownsRow w1.heap.size e1 s1 v1 n1 ys) : v0.ownBlock = none ∨ v0.ownBlock ≠ v1.ownBlock := by
  rcases h : v0.ownBlock with _ | k
  · exact .inl rfl
  · refine .inr fun e => ?_
    have a := (h0.lt k h).2
    have b := (h1.lt k e.symm).1
    omega
theorem eqStringS_own (v1 v2 : Value) (b1 b2 n : Nat) (xs : List ByteArray) (w : World) (h1 : w.ownsRow b1 9 1 v1 n (xs.map Value.string)) (h2 : w.ownsRow b2 9 1 v2 n (xs.map Value.string)) (hl : n ≤ 2097152) :
    Calls Tryz.prog 34 #[v1, v2] w fun e w' => e = .returned (.bool true) ∧ ∃ n, w' = w.drewN n := by
  obtain ⟨A, c, rfl, hn, hr, _⟩ := own_rds h1
  obtain ⟨A2, c2, rfl, _, hr2, _⟩ := own_rds h2
  subst hn
  exact eqStringS_same A A2 c c2 xs w hr hr2 hl
end Go.Proofs.YteccmlpibbchbaaGreatDoor.Strs
