/-
  Rows of ranges: their cells, what a row reads as; nothing of the laws' helpers is named here.
-/
import Derived.Test.YtocgpoafhocbbaaDoorPg1
import Derived.Deep.RegionHeld3
import Derived.Deep.Slices
import Derived.Deep.Fields
import Derived.ProofKit
import Derived.OpenShut
import Derived.ShutString
import Derived.ChangeOld
import Derived.Lib.SmallJoins
import Derived.Maps.AppendAt
import Derived.Laws.AppendOwn
namespace Go.Proofs.YtocgpoafhocbbaaDoor.Pg
open Go.ChangeShapes Go.WideShapes Go.ChangeAt Go.RowKit Go.Joins Go.Deep
open PgPl NmPl
set_option linter.unusedSimpArgs false
set_option linter.unusedVariables false

theorem own : ownKnob Tryd.prog.godebug = none := by kernel_rfl
theorem laidOut : laidOutB Tryd.prog = true := by kernel_rfl

/-- the three cells of each range -/
def pcells (L : List Pr) : List Value := L.flatMap fun x => [.string x.l, .int .i64 x.f, .int .i64 x.t]
theorem pcells_len (L : List Pr) : (pcells L).length = L.length * 3 := by
  induction L with
  | nil => rfl
  | cons x r ih =>
    have e : pcells (x :: r) = [.string x.l, .int .i64 x.f, .int .i64 x.t] ++ pcells r := rfl
    rw [e, List.length_append, ih, List.length_cons]
    simp
    omega
theorem pcells_at {L : List Pr} {j : Nat} {x : Pr} (h : L[j]? = some x) : (pcells L)[j * 3]? = some (.string x.l) ∧ (pcells L)[j * 3 + 1]? = some (.int .i64 x.f) ∧ (pcells L)[j * 3 + 2]? = some (.int .i64 x.t) := by
  induction L generalizing j with
  | nil => simp at h
  | cons y r ih =>
    have e : pcells (y :: r) = [.string y.l, .int .i64 y.f, .int .i64 y.t] ++ pcells r := rfl
    rw [e]
    cases j with
    | zero =>
      simp at h
      subst h
      exact ⟨rfl, rfl, rfl⟩
    | succ j =>
      obtain ⟨h0, h1, h2⟩ := ih (j := j) (by simpa using h)
      have e0 : (j + 1) * 3 = j * 3 + 3 := by omega
      refine ⟨?_, ?_, ?_⟩
      · rw [e0, List.getElem?_append_right (by simp)]; simpa using h0
      · rw [e0, List.getElem?_append_right (by simp)]; simpa using h1
      · rw [e0, List.getElem?_append_right (by simp)]; simpa using h2
theorem pcells_snoc (M : List Pr) (y : Pr) : pcells (M ++ [y]) = pcells M ++ [.string y.l, .int .i64 y.f, .int .i64 y.t] := by
  unfold pcells
  rw [List.flatMap_append]
  simp
theorem pcells_app (M K : List Pr) : pcells (M ++ K) = pcells M ++ pcells K := by
  unfold pcells
  rw [List.flatMap_append]
/-- the range at place k set -/
theorem pcells_set {L : List Pr} {k : Nat} (y : Pr) (h : k < L.length) : (((pcells L).set (k * 3) (.string y.l)).set (k * 3 + 1) (.int .i64 y.f)).set (k * 3 + 2) (.int .i64 y.t) = pcells (L.set k y) := by
  induction L generalizing k with
  | nil => simp at h
  | cons x r ih =>
    cases k with
    | zero => rfl
    | succ k =>
      have e : pcells (x :: r) = .string x.l :: .int .i64 x.f :: .int .i64 x.t :: pcells r := rfl
      have e2 : pcells ((x :: r).set (k + 1) y) = .string x.l :: .int .i64 x.f :: .int .i64 x.t :: pcells (r.set k y) := rfl
      rw [e, e2, ← ih (by simpa using h), show (k + 1) * 3 = k * 3 + 1 + 1 + 1 by omega]
      simp only [List.set_cons_succ]
theorem set3_row {M : List Pr} {k : Nat} {Z : List Value} (y : Pr) (hM : M.length = k) (hz : (k + 1) * 3 ≤ Z.length) :
    (((pcells M ++ Z.drop (k * 3)).set (k * 3) (.string y.l)).set (k * 3 + 1) (.int .i64 y.f)).set (k * 3 + 2) (.int .i64 y.t) = pcells (M ++ [y]) ++ Z.drop ((k + 1) * 3) := by
  have hl : (pcells M).length = k * 3 := by rw [pcells_len, hM]
  have hd : Z.drop (k * 3) = Z[k * 3] :: Z[k * 3 + 1] :: Z[k * 3 + 2] :: Z.drop ((k + 1) * 3) := by
    rw [List.drop_eq_getElem_cons (by omega), List.drop_eq_getElem_cons (by omega), List.drop_eq_getElem_cons (by omega), show (k + 1) * 3 = k * 3 + 1 + 1 + 1 by omega]
  rw [hd, pcells_snoc]
  rw [List.set_append_right _ _ (by omega), List.set_append_right _ _ (by omega), List.set_append_right _ _ (by omega), hl]
  rw [show k * 3 - k * 3 = 0 by omega, show k * 3 + 1 - k * 3 = 1 by omega, show k * 3 + 2 - k * 3 = 2 by omega]
  simp
/-- three stores into the row -/
theorem own_set3 {w : World} {base : Nat} {e : TypeId} {g n cap : Nat} {M : List Pr} {k : Nat} {Z : List Value} (h : w.ownsRow base e 3 (.slice (some ⟨g, 0, none⟩) n cap) n (pcells M ++ Z.drop (k * 3))) (y : Pr) (hM : M.length = k) (hz : (k + 1) * 3 ≤ Z.length) :
    (((w.setCell ⟨g, k * 3, none⟩ (.string y.l)).setCell ⟨g, k * 3 + 1, none⟩ (.int .i64 y.f)).setCell ⟨g, k * 3 + 2, none⟩ (.int .i64 y.t)).ownsRow base e 3 (.slice (some ⟨g, 0, none⟩) n cap) n (pcells (M ++ [y]) ++ Z.drop ((k + 1) * 3)) := by
  have h1 := (((h.stored (k * 3) (.string y.l)).1.stored (k * 3 + 1) (.int .i64 y.f)).1.stored (k * 3 + 2) (.int .i64 y.t)).1
  rw [set3_row y hM hz] at h1
  exact h1
theorem own_kept {w w' : World} {base : Nat} {e : TypeId} {size n : Nat} {v : Value} {xs : List Value} (h : w.ownsRow base e size v n xs) (hb : Below w.heap.size w w') : w'.ownsRow base e size v n xs :=
  h.kept (row := none) ⟨hb.os, hb.tape, hb.output, hb.size, fun k hk _ => hb.block k hk⟩ (by
    cases hv : v.ownBlock with
    | none => exact .inl rfl
    | some g => exact .inr (fun e => by cases e))
/-- a row of the call's own reads as its ranges -/
theorem own_rdp {w : World} {base : Nat} {e : TypeId} {v : Value} {n : Nat} {L : List Pr} (h : w.ownsRow base e 3 v n (pcells L)) :
    ∃ A c, v = .slice A n c ∧ L.length = n ∧ RdP w A L ∧ n ≤ c := by
  have hl : L.length = n := by have := h.1; rw [pcells_len] at this; omega
  rcases h.2 with ⟨rfl, rfl⟩ | ⟨g, cap, cur, rfl, _, hg, hc, _⟩
  · refine ⟨none, 0, rfl, hl, fun j x hx => ?_, Nat.le_refl _⟩
    rw [List.eq_nil_of_length_eq_zero hl] at hx
    simp at hx
  · refine ⟨some ⟨g, 0, none⟩, cap, rfl, hl, fun j x hx => ?_, hc⟩
    have hj : j < L.length := (List.getElem?_eq_some_iff.1 hx).1
    obtain ⟨e0, e1, e2⟩ := pcells_at hx
    have hcell : ∀ i, i < 3 → w.cell? ⟨g, j * 3 + i, none⟩ = (pcells L)[j * 3 + i]? := fun i hi => World.ownsRow.cellAt h (j * 3 + i) (by omega)
    refine ⟨g, 0, rfl, (Array.getElem?_eq_some_iff.1 hg).1, ?_, ?_, ?_⟩
    · rw [Nat.zero_add]; exact (hcell 0 (by decide)).trans e0
    · rw [Nat.zero_add]; exact (hcell 1 (by decide)).trans e1
    · rw [Nat.zero_add]; exact (hcell 2 (by decide)).trans e2

theorem own_rd {w : World} {base : Nat} {e : TypeId} {A : Option Addr} {c n : Nat} {L : List Pr} (h : w.ownsRow base e 3 (.slice A n c) n (pcells L)) : RdP w A L := by
  obtain ⟨A', c', he, _, hr, _⟩ := own_rdp h
  cases he
  exact hr

theorem infoPr : (Tryd.prog.info? 34).map (fun i => (i.zero, i.size, i.bytes)) = some (some (.agg #[.string ByteArray.empty, .int .i64 0, .int .i64 0]), 3, 32) := by kernel_rfl
theorem info_parts {P : Program} {t : TypeId} {z : Option Value} {a b : Nat} (h : (P.info? t).map (fun i => (i.zero, i.size, i.bytes)) = some (z, a, b)) : ∃ i, P.info? t = some i ∧ i.zero = z ∧ i.size = a ∧ i.bytes = b := by
  cases e : P.info? t with
  | none => rw [e] at h; cases h
  | some i => rw [e] at h; cases h; exact ⟨i, rfl, rfl, rfl, rfl⟩

/-- nothing of W has changed in w' -/
def Kp (W w' : World) : Prop := Below W.heap.size W w'
theorem Kp.drew (W : World) : Kp W W.drew := (Below.refl _ _).drew
theorem Kp.next {W w1 w2 : World} (h : Kp W w1) (h2 : Below w1.heap.size w1 w2) : Kp W w2 := Below.trans h (h2.mono (Below.size h))
end Go.Proofs.YtocgpoafhocbbaaDoor.Pg
