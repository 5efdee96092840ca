/-
  Contracts of the laws' helpers over spans and lists of spans: toSpan, toSpanS, szSpan, szSpanS, eqSpan, eqSpanS; arguments opened.
-/
import Derived.Test.YtljbbmefemfjpaaSpPl
import Derived.Test.YtljbbmefemfjpaaRows
import Derived.WalkKit
import Derived.LoopTactic
import Derived.Lib.Hide
import Derived.Deep.QuietTactic
import Derived.BigQuiet
import Derived.Below
import Derived.Deep.RegionHeld3
import Derived.Deep.Slices
import Derived.Deep.Fields
import Derived.ProofKit
import Derived.OpenShut
import Derived.ShutString
import Derived.ChangeOld
import Derived.Lib.SmallJoins
import Derived.Maps.AppendAt
import Derived.Laws.AppendOwn
namespace Go.Proofs.Ytljbbmefemfjpaa.Sp
open Go.ChangeShapes Go.WideShapes Go.ChangeAt Go.RowKit Go.Joins Go.Deep
open SpPl
set_option linter.unusedSimpArgs false
set_option linter.unusedVariables false

/-- a span as a value -/
@[reducible] def spV (l : ByteArray) (f t : Bool) : Value := .agg #[.string l, .bool f, .bool t]
theorem box_below (w : World) (o : Obj) : Below w.heap.size w (w.alloc o) := (Below.refl _ w).alloc (Nat.le_refl _) o

/-- the slice at A holds the spans L -/
def RdSp (w : World) (A : Option Addr) (L : List Sp1) : Prop :=
  ∀ j x, L[j]? = some x → ∃ g o, A = some ⟨g, o, none⟩ ∧ g < w.heap.size ∧ w.cell? ⟨g, o + j * 3, none⟩ = some (.string x.l) ∧ w.cell? ⟨g, o + j * 3 + 1, none⟩ = some (.bool x.f) ∧ w.cell? ⟨g, o + j * 3 + 2, none⟩ = some (.bool x.t)
theorem RdSp.below {w w' : World} {A : Option Addr} {L : List Sp1} (h : RdSp w A L) (hb : Below w.heap.size w w') : RdSp w' A L := by
  intro j x hx
  obtain ⟨g, o, e, hg, h0, h1, h2⟩ := h j x hx
  exact ⟨g, o, e, Nat.lt_of_lt_of_le hg hb.size, (hb.cell (p := ⟨g, o + j * 3, none⟩) hg).trans h0, (hb.cell (p := ⟨g, o + j * 3 + 1, none⟩) hg).trans h1, (hb.cell (p := ⟨g, o + j * 3 + 2, none⟩) hg).trans h2⟩

theorem own : ownKnob Try.prog.godebug = none := by kernel_rfl
theorem laidOut : laidOutB Try.prog = true := by kernel_rfl

section
variable {H : Type} {enc : TypeId × Value → H} {P : Program} {w : World} {base : Nat} {spare : Nat → Bool} {held : Bool}
theorem trod_one3 {t : TypeId} {f0 f1 f2 : Field} {fuel : Nat} {c0 c1 c2 : Value} {x : DataW H × List MemPlace} (hs : P.underlying t = some (.struct #[f0, f1, f2])) (hone : oneCellFields P #[f0, f1, f2] = true)
    (hf : DataW.trod enc P w base spare held fuel t [c0, c1, c2] = some x) :
    ∃ (y0 y1 y2 : DataW H × List MemPlace) (n : Nat), DataW.trod enc P w base spare held n f0.type [c0] = some y0 ∧ DataW.trod enc P w base spare held n f1.type [c1] = some y1 ∧ DataW.trod enc P w base spare held n f2.type [c2] = some y2 := by
  obtain ⟨y0, y1, y2, n, hx, _, h0, h1, h2⟩ := trod_struct3 hs hf
  obtain ⟨o0, k0⟩ := hone_of hone 0 f0 rfl
  obtain ⟨o1, k1⟩ := hone_of hone 1 f1 rfl
  obtain ⟨o2, k2⟩ := hone_of hone 2 f2 rfl
  exact ⟨y0, y1, y2, n, by simpa [o0, k0] using h0, by simpa [o1, k1] using h1, by simpa [o2, k2] using h2⟩
end
theorem lt_of_cell {w : World} {b o : Nat} {v : Value} (h : w.cell? ⟨b, o, none⟩ = some v) : b < w.heap.size := by
  rcases Nat.lt_or_ge b w.heap.size with h' | h'
  · exact h'
  · exfalso
    have : w.heap[b]? = none := Array.getElem?_eq_none h'
    simp [World.cell?, this] at h
/-- the three cells of each range -/
def pcells (L : List Sp1) : List Value := L.flatMap fun x => [.string x.l, .bool x.f, .bool x.t]
theorem pcells_len (L : List Sp1) : (pcells L).length = L.length * 3 := by
  induction L with
  | nil => rfl
  | cons x r ih =>
    have e : pcells (x :: r) = [.string x.l, .bool x.f, .bool x.t] ++ pcells r := rfl
    rw [e, List.length_append, ih, List.length_cons]
    simp
    omega
theorem pcells_at {L : List Sp1} {j : Nat} {x : Sp1} (h : L[j]? = some x) : (pcells L)[j * 3]? = some (.string x.l) ∧ (pcells L)[j * 3 + 1]? = some (.bool x.f) ∧ (pcells L)[j * 3 + 2]? = some (.bool x.t) := by
  induction L generalizing j with
  | nil => simp at h
  | cons y r ih =>
    have e : pcells (y :: r) = [.string y.l, .bool y.f, .bool y.t] ++ pcells r := rfl
    rw [e]
    cases j with
    | zero =>
      simp at h
      subst h
      exact ⟨rfl, rfl, rfl⟩
    | succ j =>
      obtain ⟨h0, h1, h2⟩ := ih (j := j) (by simpa using h)
      have e0 : (j + 1) * 3 = j * 3 + 3 := by omega
      refine ⟨?_, ?_, ?_⟩
      · rw [e0, List.getElem?_append_right (by simp)]; simpa using h0
      · rw [e0, List.getElem?_append_right (by simp)]; simpa using h1
      · rw [e0, List.getElem?_append_right (by simp)]; simpa using h2
theorem pcells_snoc (M : List Sp1) (y : Sp1) : pcells (M ++ [y]) = pcells M ++ [.string y.l, .bool y.f, .bool y.t] := by
  unfold pcells
  rw [List.flatMap_append]
  simp
theorem pcells_app (M K : List Sp1) : pcells (M ++ K) = pcells M ++ pcells K := by
  unfold pcells
  rw [List.flatMap_append]
/-- the range at place k set -/
theorem pcells_set {L : List Sp1} {k : Nat} (y : Sp1) (h : k < L.length) : (((pcells L).set (k * 3) (.string y.l)).set (k * 3 + 1) (.bool y.f)).set (k * 3 + 2) (.bool y.t) = pcells (L.set k y) := by
  induction L generalizing k with
  | nil => simp at h
  | cons x r ih =>
    cases k with
    | zero => rfl
    | succ k =>
      have e : pcells (x :: r) = .string x.l :: .bool x.f :: .bool x.t :: pcells r := rfl
      have e2 : pcells ((x :: r).set (k + 1) y) = .string x.l :: .bool x.f :: .bool x.t :: pcells (r.set k y) := rfl
      rw [e, e2, ← ih (by simpa using h), show (k + 1) * 3 = k * 3 + 1 + 1 + 1 by omega]
      simp only [List.set_cons_succ]
theorem set3_row {M : List Sp1} {k : Nat} {Z : List Value} (y : Sp1) (hM : M.length = k) (hz : (k + 1) * 3 ≤ Z.length) :
    (((pcells M ++ Z.drop (k * 3)).set (k * 3) (.string y.l)).set (k * 3 + 1) (.bool y.f)).set (k * 3 + 2) (.bool y.t) = pcells (M ++ [y]) ++ Z.drop ((k + 1) * 3) := by
  have hl : (pcells M).length = k * 3 := by rw [pcells_len, hM]
  have hd : Z.drop (k * 3) = Z[k * 3] :: Z[k * 3 + 1] :: Z[k * 3 + 2] :: Z.drop ((k + 1) * 3) := by
    rw [List.drop_eq_getElem_cons (by omega), List.drop_eq_getElem_cons (by omega), List.drop_eq_getElem_cons (by omega), show (k + 1) * 3 = k * 3 + 1 + 1 + 1 by omega]
  rw [hd, pcells_snoc]
  rw [List.set_append_right _ _ (by omega), List.set_append_right _ _ (by omega), List.set_append_right _ _ (by omega), hl]
  rw [show k * 3 - k * 3 = 0 by omega, show k * 3 + 1 - k * 3 = 1 by omega, show k * 3 + 2 - k * 3 = 2 by omega]
  simp
/-- three stores into the row -/
theorem own_set3 {w : World} {base : Nat} {e : TypeId} {g n cap : Nat} {M : List Sp1} {k : Nat} {Z : List Value} (h : w.ownsRow base e 3 (.slice (some ⟨g, 0, none⟩) n cap) n (pcells M ++ Z.drop (k * 3))) (y : Sp1) (hM : M.length = k) (hz : (k + 1) * 3 ≤ Z.length) :
    (((w.setCell ⟨g, k * 3, none⟩ (.string y.l)).setCell ⟨g, k * 3 + 1, none⟩ (.bool y.f)).setCell ⟨g, k * 3 + 2, none⟩ (.bool y.t)).ownsRow base e 3 (.slice (some ⟨g, 0, none⟩) n cap) n (pcells (M ++ [y]) ++ Z.drop ((k + 1) * 3)) := by
  have h1 := (((h.stored (k * 3) (.string y.l)).1.stored (k * 3 + 1) (.bool y.f)).1.stored (k * 3 + 2) (.bool y.t)).1
  rw [set3_row y hM hz] at h1
  exact h1
theorem own_kept {w w' : World} {base : Nat} {e : TypeId} {size n : Nat} {v : Value} {xs : List Value} (h : w.ownsRow base e size v n xs) (hb : Below w.heap.size w w') : w'.ownsRow base e size v n xs :=
  h.kept (row := none) ⟨hb.os, hb.tape, hb.output, hb.size, fun k hk _ => hb.block k hk⟩ (by
    cases hv : v.ownBlock with
    | none => exact .inl rfl
    | some g => exact .inr (fun e => by cases e))
/-- a row of the call's own reads as its spans -/
theorem own_rdp {w : World} {base : Nat} {e : TypeId} {v : Value} {n : Nat} {L : List Sp1} (h : w.ownsRow base e 3 v n (pcells L)) :
    ∃ A c, v = .slice A n c ∧ L.length = n ∧ RdSp w A L ∧ n ≤ c := by
  have hl : L.length = n := by have := h.1; rw [pcells_len] at this; omega
  rcases h.2 with ⟨rfl, rfl⟩ | ⟨g, cap, cur, rfl, _, hg, hc, _⟩
  · refine ⟨none, 0, rfl, hl, fun j x hx => ?_, Nat.le_refl _⟩
    rw [List.eq_nil_of_length_eq_zero hl] at hx
    simp at hx
  · refine ⟨some ⟨g, 0, none⟩, cap, rfl, hl, fun j x hx => ?_, hc⟩
    have hj : j < L.length := (List.getElem?_eq_some_iff.1 hx).1
    obtain ⟨e0, e1, e2⟩ := pcells_at hx
    have hcell : ∀ i, i < 3 → w.cell? ⟨g, j * 3 + i, none⟩ = (pcells L)[j * 3 + i]? := fun i hi => World.ownsRow.cellAt h (j * 3 + i) (by omega)
    refine ⟨g, 0, rfl, (Array.getElem?_eq_some_iff.1 hg).1, ?_, ?_, ?_⟩
    · rw [Nat.zero_add]; exact (hcell 0 (by decide)).trans e0
    · rw [Nat.zero_add]; exact (hcell 1 (by decide)).trans e1
    · rw [Nat.zero_add]; exact (hcell 2 (by decide)).trans e2

theorem own_rd {w : World} {base : Nat} {e : TypeId} {A : Option Addr} {c n : Nat} {L : List Sp1} (h : w.ownsRow base e 3 (.slice A n c) n (pcells L)) : RdSp w A L := by
  obtain ⟨A', c', he, _, hr, _⟩ := own_rdp h
  cases he
  exact hr

theorem infoSp : (Try.prog.info? 70).map (fun i => (i.zero, i.size, i.bytes)) = some (some (.agg #[.string ByteArray.empty, .bool false, .bool false]), 3, 24) := by kernel_rfl
theorem info_parts {P : Program} {t : TypeId} {z : Option Value} {a b : Nat} (h : (P.info? t).map (fun i => (i.zero, i.size, i.bytes)) = some (z, a, b)) : ∃ i, P.info? t = some i ∧ i.zero = z ∧ i.size = a ∧ i.bytes = b := by
  cases e : P.info? t with
  | none => rw [e] at h; cases h
  | some i => rw [e] at h; cases h; exact ⟨i, rfl, rfl, rfl, rfl⟩

/-- nothing of W has changed in w' -/
def Kp (W w' : World) : Prop := Below W.heap.size W w'
theorem Kp.drew (W : World) : Kp W W.drew := (Below.refl _ _).drew
theorem Kp.next {W w1 w2 : World} (h : Kp W w1) (h2 : Below w1.heap.size w1 w2) : Kp W w2 := Below.trans h (h2.mono (Below.size h))
end Go.Proofs.Ytljbbmefemfjpaa.Sp
