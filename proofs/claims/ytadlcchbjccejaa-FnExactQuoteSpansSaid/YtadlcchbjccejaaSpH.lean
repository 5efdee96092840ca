/-
  Contracts of the laws' helpers over spans and lists of spans: toSpan, toSpanS, szSpan, szSpanS, eqSpan, eqSpanS; arguments opened.
-/
import Derived.Test.YtadlcchbjccejaaSpPl
import Derived.Test.YtadlcchbjccejaaRows
import Derived.WalkKit
import Derived.LoopTactic
import Derived.Lib.Hide
import Derived.Deep.QuietTactic
import Derived.BigQuiet
import Derived.Below
import Derived.Deep.RegionHeld3
import Derived.Deep.Slices
import Derived.Deep.Fields
import Derived.ProofKit
import Derived.OpenShut
import Derived.ShutString
import Derived.ChangeOld
import Derived.Lib.SmallJoins
import Derived.Maps.AppendAt
import Derived.Laws.AppendOwn
namespace Go.Proofs.Ytadlcchbjccejaa.Sp
open Go.ChangeShapes Go.WideShapes Go.ChangeAt Go.RowKit Go.Joins Go.Deep
open SpPl
set_option linter.unusedSimpArgs false
set_option linter.unusedVariables false

/-- a span as a value -/
@[reducible] def spV (l : ByteArray) (f t : Bool) : Value := .agg #[.string l, .bool f, .bool t]
theorem box_below (w : World) (o : Obj) : Below w.heap.size w (w.alloc o) := (Below.refl _ w).alloc (Nat.le_refl _) o

/-- the slice at A holds the spans L -/
def RdSp (w : World) (A : Option Addr) (L : List Sp1) : Prop :=
  ∀ j x, L[j]? = some x → ∃ g o, A = some ⟨g, o, none⟩ ∧ g < w.heap.size ∧ w.cell? ⟨g, o + j * 3, none⟩ = some (.string x.l) ∧ w.cell? ⟨g, o + j * 3 + 1, none⟩ = some (.bool x.f) ∧ w.cell? ⟨g, o + j * 3 + 2, none⟩ = some (.bool x.t)
theorem RdSp.below {w w' : World} {A : Option Addr} {L : List Sp1} (h : RdSp w A L) (hb : Below w.heap.size w w') : RdSp w' A L := by
  intro j x hx
  obtain ⟨g, o, e, hg, h0, h1, h2⟩ := h j x hx
  exact ⟨g, o, e, Nat.lt_of_lt_of_le hg hb.size, (hb.cell (p := ⟨g, o + j * 3, none⟩) hg).trans h0, (hb.cell (p := ⟨g, o + j * 3 + 1, none⟩) hg).trans h1, (hb.cell (p := ⟨g, o + j * 3 + 2, none⟩) hg).trans h2⟩

theorem own : ownKnob Try.prog.godebug = none := by kernel_rfl
theorem laidOut : laidOutB Try.prog = true := by kernel_rfl

set_option maxRecDepth 100000 in
theorem open_span1 {H : Type} {enc : TypeId × Value → H} {W : World} {base b0 : Nat} {r : Reach} {held : Bool} {v : Value} {d : DataW H} {ps : List MemPlace} (hv : Value.okWide Try.prog W r b0 33 v) (h : DataW.Trod enc Try.prog W base (fun _ => true) held 33 v d ps) :
    ∃ l f t, v = spV l f t ∧ l.size ≤ maxLen := by
  obtain ⟨v0, v1, v2, y0, y1, y2, n, rfl, _, _, t0, t1, t2⟩ := open_agg3 Try.underlying33 (by kernel_rfl) (by kernel_rfl) hv h
  obtain ⟨a, ha, _, hl⟩ := DataW.trod_string Try.underlying9 t0
  obtain ⟨b, hb, _⟩ := DataW.trod_bool Try.underlying4 t1
  obtain ⟨c, hc, _⟩ := DataW.trod_bool Try.underlying4 t2
  cases ha; cases hb; cases hc
  exact ⟨a, b, c, rfl, hl⟩

section
variable {H : Type} {enc : TypeId × Value → H} {P : Program} {w : World} {base : Nat} {spare : Nat → Bool} {held : Bool}
theorem trod_one3 {t : TypeId} {f0 f1 f2 : Field} {fuel : Nat} {c0 c1 c2 : Value} {x : DataW H × List MemPlace} (hs : P.underlying t = some (.struct #[f0, f1, f2])) (hone : oneCellFields P #[f0, f1, f2] = true)
    (hf : DataW.trod enc P w base spare held fuel t [c0, c1, c2] = some x) :
    ∃ (y0 y1 y2 : DataW H × List MemPlace) (n : Nat), DataW.trod enc P w base spare held n f0.type [c0] = some y0 ∧ DataW.trod enc P w base spare held n f1.type [c1] = some y1 ∧ DataW.trod enc P w base spare held n f2.type [c2] = some y2 := by
  obtain ⟨y0, y1, y2, n, hx, _, h0, h1, h2⟩ := trod_struct3 hs hf
  obtain ⟨o0, k0⟩ := hone_of hone 0 f0 rfl
  obtain ⟨o1, k1⟩ := hone_of hone 1 f1 rfl
  obtain ⟨o2, k2⟩ := hone_of hone 2 f2 rfl
  exact ⟨y0, y1, y2, n, by simpa [o0, k0] using h0, by simpa [o1, k1] using h1, by simpa [o2, k2] using h2⟩
end
theorem lt_of_cell {w : World} {b o : Nat} {v : Value} (h : w.cell? ⟨b, o, none⟩ = some v) : b < w.heap.size := by
  rcases Nat.lt_or_ge b w.heap.size with h' | h'
  · exact h'
  · exfalso
    have : w.heap[b]? = none := Array.getElem?_eq_none h'
    simp [World.cell?, this] at h
theorem cn3 : Try.prog.cellsOf 33 = 3 := by kernel_rfl
theorem cells_range {H : Type} {enc : TypeId × Value → H} {W : World} {base fuel : Nat} {held : Bool} {c0 c1 c2 : Value} {y : DataW H × List MemPlace} (hf : DataW.trod enc Try.prog W base (fun _ => true) held fuel 33 [c0, c1, c2] = some y) :
    ∃ x : Sp1, c0 = .string x.l ∧ c1 = .bool x.f ∧ c2 = .bool x.t ∧ x.l.size ≤ maxLen := by
  obtain ⟨y0, y1, y2, n, t0, t1, t2⟩ := trod_one3 Try.underlying33 (by kernel_rfl) hf
  obtain ⟨a, e0, _, hl⟩ := DataW.trod_string Try.underlying9 t0
  obtain ⟨b, e1, _⟩ := DataW.trod_bool Try.underlying4 t1
  obtain ⟨c, e2, _⟩ := DataW.trod_bool Try.underlying4 t2
  cases e0; cases e1; cases e2
  exact ⟨⟨a, b, c⟩, rfl, rfl, rfl, hl⟩
/-- a slice of spans -/
theorem open_spans0 {H : Type} {enc : TypeId × Value → H} {W : World} {base fuel : Nat} {held : Bool} {v : Value} {y : DataW H × List MemPlace} (hf : DataW.trod enc Try.prog W base (fun _ => true) held fuel 22 [v] = some y) :
    ∃ A N c L, v = .slice A N c ∧ RdSp W A L ∧ L.length = N ∧ N ≤ maxLen ∧ (∀ x ∈ L, x.l.size ≤ maxLen) ∧ N ≤ c := by
  rcases open_slice Try.underlying22 hf with ⟨hcs, _⟩ | ⟨a, len, cap, m, n, D, Pl, hcs, _, hl, hm, hmm, _, hall⟩
  · cases hcs
    exact ⟨none, 0, 0, [], rfl, fun j x hx => (by simp at hx), rfl, Nat.zero_le _, fun x hx => (by cases hx), Nat.le_refl _⟩
  · cases hcs
    simp only [if_true] at hmm
    subst hmm
    rw [cn3] at hall
    obtain ⟨b, o, spot⟩ := a
    obtain ⟨X, hX⟩ := choose_lt (n := len) (p := fun i (x : Sp1) => (∃ g o', (some ⟨b, o, spot⟩ : Option Addr) = some ⟨g, o', none⟩ ∧ g < W.heap.size ∧ W.cell? ⟨g, o' + i * 3, none⟩ = some (.string x.l) ∧ W.cell? ⟨g, o' + i * 3 + 1, none⟩ = some (.bool x.f) ∧ W.cell? ⟨g, o' + i * 3 + 2, none⟩ = some (.bool x.t)) ∧ x.l.size ≤ maxLen) (fun i hi => by
      obtain ⟨cs', h1, h2⟩ := hall i (by omega)
      obtain ⟨_, hlen, hcell⟩ := World.cells?_some h1
      match cs', hlen with
      | [c0, c1, c2], _ =>
        obtain ⟨x, rfl, rfl, rfl, hlim⟩ := cells_range h2
        have e0 := hcell 0 (by omega)
        have e1 := hcell 1 (by omega)
        have e2 := hcell 2 (by omega)
        have hspot : spot = none := by
          obtain ⟨cs0, g1, _⟩ := hall 0 (by omega)
          obtain ⟨_, hlen0, hcell0⟩ := World.cells?_some g1
          have g0 := hcell0 0 (by omega)
          rw [List.getElem?_eq_getElem (by omega)] at g0
          simpa [Addr.add] using World.cell?_spot g0
        subst hspot
        simp only [Go.WideShapes.add_plain] at e0 e1 e2
        exact ⟨x, ⟨b, o, rfl, lt_of_cell e0, e0, e1, e2⟩, hlim⟩)
    refine ⟨some ⟨b, o, spot⟩, len, _, (List.range len).map X, rfl, ?_, by simp, by omega, ?_, hl⟩
    · intro j x hx
      rw [List.getElem?_map] at hx
      rcases Nat.lt_or_ge j len with hj | hj
      · rw [List.getElem?_range hj] at hx
        cases hx
        exact (hX j hj).1
      · rw [List.getElem?_eq_none (by simpa using hj)] at hx
        cases hx
    · intro x hx
      obtain ⟨j, hj, rfl⟩ := List.mem_map.1 hx
      exact (hX j (List.mem_range.1 hj)).2
set_option maxRecDepth 100000 in
theorem open_spans {H : Type} {enc : TypeId × Value → H} {W : World} {base b0 : Nat} {r : Reach} {held : Bool} {v : Value} {d : DataW H} {ps : List MemPlace} (hv : Value.okWide Try.prog W r b0 22 v) (h : DataW.Trod enc Try.prog W base (fun _ => true) held 22 v d ps) :
    ∃ A N c L, v = .slice A N c ∧ RdSp W A L ∧ L.length = N ∧ N ≤ maxLen ∧ (∀ x ∈ L, x.l.size ≤ maxLen) ∧ N ≤ c := by
  obtain ⟨a0, n0, c0, rfl⟩ := okWide_slice Try.underlying22 hv
  obtain ⟨fuel, hf⟩ := h
  have e : (Value.slice a0 n0 c0).cells.toList = [.slice a0 n0 c0] := rfl
  rw [e] at hf
  exact open_spans0 (y := (d, ps)) hf

set_option maxHeartbeats 400000 in
theorem toSpan1 (l : ByteArray) (f t : Bool) (w : World) :
    Calls Try.prog 16 #[spV l f t] w fun e w' => e = .returned (spV l f t) ∧ Below w.heap.size w w' := by
  go_enter Try.func16, Try.ntmps16
  go_wp2_with fail
  exact bodyPost_ret (v := spV l f t) (by simp [results, Try.results16, go_sem]) rfl ⟨rfl, (((Below.refl _ _).alloc (Nat.le_refl _) _).alloc (by simp) _).alloc (by simp; omega) _⟩

theorem szSpan1 (l : ByteArray) (f t : Bool) (left : Nat) (w : World) (hl : l.size ≤ maxLen) (hleft : left ≤ 1048576) :
    Calls Try.prog 11 #[spV l f t, .int .i64 left] w fun e w' => e = .returned (.int .i64 (if l.size ≤ left then (left : Int) - l.size else -1)) ∧ Below w.heap.size w w' := by
  unfold maxLen at hl
  by_cases h : l.size ≤ left
  · rw [if_pos h]
    go_enter Try.func11, Try.ntmps11
    go_wp2_with fail
    go_ret
    exact ⟨rfl, box_below _ _⟩
  · rw [if_neg h]
    go_enter Try.func11, Try.ntmps11
    go_wp2_with fail
    go_ret
    exact ⟨rfl, box_below _ _⟩

theorem eqSpan1 (l : ByteArray) (f t : Bool) (w : World) :
    Calls Try.prog 23 #[spV l f t, spV l f t] w fun e w' => e = .returned (.bool true) ∧ Below w.heap.size w w' := by
  go_enter Try.func23, Try.ntmps23
  go_wp2_with fail
  go_ret
  exact ⟨rfl, ((Below.refl _ _).alloc (Nat.le_refl _) _).alloc (by simp) _⟩

set_option maxHeartbeats 1000000 in
theorem szSpans (A : Option Addr) (c N : Nat) (L : List Sp1) (left : Nat) (w : World) (h : RdSp w A L) (hn : L.length = N) (hm : N ≤ maxLen) (hx : ∀ x ∈ L, x.l.size ≤ maxLen) (hl : left ≤ 1048576) :
    Calls Try.prog 4 #[.slice A N c, .int .i64 left] w fun e w' => e = .returned (.int .i64 (szPs left L)) ∧ Below w.heap.size w w' := by
  have H := Lib.hid h
  have HN := Lib.hid hn
  have HX := Lib.hid hx
  have HZ := Lib.hid (show szPs left L = if L.length + szL L ≤ left then (left : Int) - L.length - szL L else -1 from rfl)
  rw [hn] at HZ
  unfold maxLen at hm
  clear h hn hx
  by_cases h0 : N ≤ left
  · go_enter Try.func4, Try.ntmps4
    go_wp2_with fail
    go_loopw [1, 5] (fun l i wr => ∃ k : Nat, k ≤ N ∧ i = .int .i64 k ∧ (∃ t : Nat, t + N + szL (L.take k) = left ∧ l = .int .i64 t) ∧ Below w.heap.size w wr) (fun _ i _ => N - (intOf i).toNat)
    case atStart => exact ⟨0, Nat.zero_le _, rfl, ⟨left - N, by simp [szL]; omega, by congr 1; omega⟩, Below.refl _ _⟩
    case round =>
      obtain ⟨k, hk, rfl, ⟨t, ht, rfl⟩, hb⟩ := hrel
      by_cases hlt : k < N
      · have hkx : k < L.length := by rw [HN.out]; exact hlt
        have hx? := List.getElem?_eq_getElem hkx
        obtain ⟨g, o, rfl, hg, c0, c1, c2⟩ := (H.out.below hb) k L[k] hx?
        have l1 := HX.out _ (List.getElem_mem hkx)
        have HT := Lib.hid (szL_take hx?)
        have HLe := Lib.hid (szL_le L (k + 1))
        clear hx?
        generalize L[k] = x at *
        obtain ⟨l, f, u⟩ := x
        dsimp only at c0 c1 c2 l1 HT
        have HS := Lib.hid (szSpan1 l f u t wr l1 (by omega))
        clear l1
        by_cases h1 : l.size ≤ t
        · rw [if_pos h1] at HS
          obtain ⟨t', ht'⟩ : ∃ t' : Nat, t' + l.size = t := ⟨t - l.size, by omega⟩
          have e2 : (t : Int) - l.size = (t' : Int) := by omega
          rw [e2] at HS
          clear e2 h1
          have HT' := Lib.hid ht'
          have htl : t' ≤ 1048576 := by omega
          clear ht'
          have HTt := Lib.hid ht
          clear ht
          go_wp2_with fail
          refine HS.out.mono ?_
          rintro e w1 ⟨rfl, b1⟩
          have hb1 := hb.trans (b1.mono hb.size)
          clear b1
          go_wp2_with fail
          go_roundw
          case rel =>
            have := HT.out
            have := HTt.out
            have := HT'.out
            exact ⟨k + 1, by omega, by go_num, ⟨t', by omega, rfl⟩, hb1⟩
          case measure => simp [intOf]; omega
        · rw [if_neg h1] at HS
          have HF : Hid (szPs left L = -1) := Lib.hid (by rw [HZ.out, if_neg]; have := HT.out; have := HLe.out; omega)
          clear h1 ht
          go_wp2_with fail
          refine HS.out.mono ?_
          rintro e w1 ⟨rfl, b1⟩
          have hb1 := hb.trans (b1.mono hb.size)
          clear b1
          go_wp2_with fail
          go_ret
          exact ⟨by rw [HF.out]; rfl, hb1⟩
      · have hkN : k = N := by omega
        have HF : Hid (szPs left L = (t : Int)) := Lib.hid (by
          have e : L.take k = L := List.take_of_length_le (by rw [HN.out]; omega)
          rw [e] at ht
          rw [HZ.out, if_pos (by omega)]
          omega)
        clear ht
        go_wp2_with fail
        go_ret
        exact ⟨by rw [HF.out]; rfl, hb⟩
  · have HF : Hid (szPs left L = -1) := Lib.hid (by rw [HZ.out, if_neg (by omega)])
    go_enter Try.func4, Try.ntmps4
    go_wp2_with fail
    go_ret
    exact ⟨by rw [HF.out]; rfl, Below.refl _ _⟩

/-- the three cells of each range -/
def pcells (L : List Sp1) : List Value := L.flatMap fun x => [.string x.l, .bool x.f, .bool x.t]
theorem pcells_len (L : List Sp1) : (pcells L).length = L.length * 3 := by
  induction L with
  | nil => rfl
  | cons x r ih =>
    have e : pcells (x :: r) = [.string x.l, .bool x.f, .bool x.t] ++ pcells r := rfl
    rw [e, List.length_append, ih, List.length_cons]
    simp
    omega
theorem pcells_at {L : List Sp1} {j : Nat} {x : Sp1} (h : L[j]? = some x) : (pcells L)[j * 3]? = some (.string x.l) ∧ (pcells L)[j * 3 + 1]? = some (.bool x.f) ∧ (pcells L)[j * 3 + 2]? = some (.bool x.t) := by
  induction L generalizing j with
  | nil => simp at h
  | cons y r ih =>
    have e : pcells (y :: r) = [.string y.l, .bool y.f, .bool y.t] ++ pcells r := rfl
    rw [e]
    cases j with
    | zero =>
      simp at h
      subst h
      exact ⟨rfl, rfl, rfl⟩
    | succ j =>
      obtain ⟨h0, h1, h2⟩ := ih (j := j) (by simpa using h)
      have e0 : (j + 1) * 3 = j * 3 + 3 := by omega
      refine ⟨?_, ?_, ?_⟩
      · rw [e0, List.getElem?_append_right (by simp)]; simpa using h0
      · rw [e0, List.getElem?_append_right (by simp)]; simpa using h1
      · rw [e0, List.getElem?_append_right (by simp)]; simpa using h2
theorem pcells_snoc (M : List Sp1) (y : Sp1) : pcells (M ++ [y]) = pcells M ++ [.string y.l, .bool y.f, .bool y.t] := by
  unfold pcells
  rw [List.flatMap_append]
  simp
theorem pcells_app (M K : List Sp1) : pcells (M ++ K) = pcells M ++ pcells K := by
  unfold pcells
  rw [List.flatMap_append]
/-- the range at place k set -/
theorem pcells_set {L : List Sp1} {k : Nat} (y : Sp1) (h : k < L.length) : (((pcells L).set (k * 3) (.string y.l)).set (k * 3 + 1) (.bool y.f)).set (k * 3 + 2) (.bool y.t) = pcells (L.set k y) := by
  induction L generalizing k with
  | nil => simp at h
  | cons x r ih =>
    cases k with
    | zero => rfl
    | succ k =>
      have e : pcells (x :: r) = .string x.l :: .bool x.f :: .bool x.t :: pcells r := rfl
      have e2 : pcells ((x :: r).set (k + 1) y) = .string x.l :: .bool x.f :: .bool x.t :: pcells (r.set k y) := rfl
      rw [e, e2, ← ih (by simpa using h), show (k + 1) * 3 = k * 3 + 1 + 1 + 1 by omega]
      simp only [List.set_cons_succ]
theorem set3_row {M : List Sp1} {k : Nat} {Z : List Value} (y : Sp1) (hM : M.length = k) (hz : (k + 1) * 3 ≤ Z.length) :
    (((pcells M ++ Z.drop (k * 3)).set (k * 3) (.string y.l)).set (k * 3 + 1) (.bool y.f)).set (k * 3 + 2) (.bool y.t) = pcells (M ++ [y]) ++ Z.drop ((k + 1) * 3) := by
  have hl : (pcells M).length = k * 3 := by rw [pcells_len, hM]
  have hd : Z.drop (k * 3) = Z[k * 3] :: Z[k * 3 + 1] :: Z[k * 3 + 2] :: Z.drop ((k + 1) * 3) := by
    rw [List.drop_eq_getElem_cons (by omega), List.drop_eq_getElem_cons (by omega), List.drop_eq_getElem_cons (by omega), show (k + 1) * 3 = k * 3 + 1 + 1 + 1 by omega]
  rw [hd, pcells_snoc]
  rw [List.set_append_right _ _ (by omega), List.set_append_right _ _ (by omega), List.set_append_right _ _ (by omega), hl]
  rw [show k * 3 - k * 3 = 0 by omega, show k * 3 + 1 - k * 3 = 1 by omega, show k * 3 + 2 - k * 3 = 2 by omega]
  simp
/-- three stores into the row -/
theorem own_set3 {w : World} {base : Nat} {e : TypeId} {g n cap : Nat} {M : List Sp1} {k : Nat} {Z : List Value} (h : w.ownsRow base e 3 (.slice (some ⟨g, 0, none⟩) n cap) n (pcells M ++ Z.drop (k * 3))) (y : Sp1) (hM : M.length = k) (hz : (k + 1) * 3 ≤ Z.length) :
    (((w.setCell ⟨g, k * 3, none⟩ (.string y.l)).setCell ⟨g, k * 3 + 1, none⟩ (.bool y.f)).setCell ⟨g, k * 3 + 2, none⟩ (.bool y.t)).ownsRow base e 3 (.slice (some ⟨g, 0, none⟩) n cap) n (pcells (M ++ [y]) ++ Z.drop ((k + 1) * 3)) := by
  have h1 := (((h.stored (k * 3) (.string y.l)).1.stored (k * 3 + 1) (.bool y.f)).1.stored (k * 3 + 2) (.bool y.t)).1
  rw [set3_row y hM hz] at h1
  exact h1
theorem own_kept {w w' : World} {base : Nat} {e : TypeId} {size n : Nat} {v : Value} {xs : List Value} (h : w.ownsRow base e size v n xs) (hb : Below w.heap.size w w') : w'.ownsRow base e size v n xs :=
  h.kept (row := none) ⟨hb.os, hb.tape, hb.output, hb.size, fun k hk _ => hb.block k hk⟩ (by
    cases hv : v.ownBlock with
    | none => exact .inl rfl
    | some g => exact .inr (fun e => by cases e))
/-- a row of the call's own reads as its spans -/
theorem own_rdp {w : World} {base : Nat} {e : TypeId} {v : Value} {n : Nat} {L : List Sp1} (h : w.ownsRow base e 3 v n (pcells L)) :
    ∃ A c, v = .slice A n c ∧ L.length = n ∧ RdSp w A L ∧ n ≤ c := by
  have hl : L.length = n := by have := h.1; rw [pcells_len] at this; omega
  rcases h.2 with ⟨rfl, rfl⟩ | ⟨g, cap, cur, rfl, _, hg, hc, _⟩
  · refine ⟨none, 0, rfl, hl, fun j x hx => ?_, Nat.le_refl _⟩
    rw [List.eq_nil_of_length_eq_zero hl] at hx
    simp at hx
  · refine ⟨some ⟨g, 0, none⟩, cap, rfl, hl, fun j x hx => ?_, hc⟩
    have hj : j < L.length := (List.getElem?_eq_some_iff.1 hx).1
    obtain ⟨e0, e1, e2⟩ := pcells_at hx
    have hcell : ∀ i, i < 3 → w.cell? ⟨g, j * 3 + i, none⟩ = (pcells L)[j * 3 + i]? := fun i hi => World.ownsRow.cellAt h (j * 3 + i) (by omega)
    refine ⟨g, 0, rfl, (Array.getElem?_eq_some_iff.1 hg).1, ?_, ?_, ?_⟩
    · rw [Nat.zero_add]; exact (hcell 0 (by decide)).trans e0
    · rw [Nat.zero_add]; exact (hcell 1 (by decide)).trans e1
    · rw [Nat.zero_add]; exact (hcell 2 (by decide)).trans e2

theorem own_rd {w : World} {base : Nat} {e : TypeId} {A : Option Addr} {c n : Nat} {L : List Sp1} (h : w.ownsRow base e 3 (.slice A n c) n (pcells L)) : RdSp w A L := by
  obtain ⟨A', c', he, _, hr, _⟩ := own_rdp h
  cases he
  exact hr

theorem infoSp : (Try.prog.info? 38).map (fun i => (i.zero, i.size, i.bytes)) = some (some (.agg #[.string ByteArray.empty, .bool false, .bool false]), 3, 24) := by kernel_rfl
theorem info_parts {P : Program} {t : TypeId} {z : Option Value} {a b : Nat} (h : (P.info? t).map (fun i => (i.zero, i.size, i.bytes)) = some (z, a, b)) : ∃ i, P.info? t = some i ∧ i.zero = z ∧ i.size = a ∧ i.bytes = b := by
  cases e : P.info? t with
  | none => rw [e] at h; cases h
  | some i => rw [e] at h; cases h; exact ⟨i, rfl, rfl, rfl, rfl⟩

set_option maxHeartbeats 2000000 in
theorem toSpans (A : Option Addr) (c N : Nat) (L : List Sp1) (w : World) (h : RdSp w A L) (hn : L.length = N) (hm : N ≤ 1048576) :
    Calls Try.prog 6 #[.slice A N c] w fun e w' => e = .returned (.slice (some ⟨w.heap.size, 0, none⟩) N N) ∧ w'.ownsRow w.heap.size 38 3 (.slice (some ⟨w.heap.size, 0, none⟩) N N) N (pcells L) ∧ Below w.heap.size w w' := by
  obtain ⟨i0, hi, hz0, hz1, hz2⟩ := info_parts infoSp
  have H := Lib.hid h
  have HN := Lib.hid hn
  clear h hn
  have hmk : (Instr.makeSlice 24 (.int .i64 N) (.int .i64 N)).run Try.prog w = .ok (.slice (some ⟨w.heap.size, 0, none⟩) N N) (w.alloc (.cells (madeCells #[.string ByteArray.empty, .bool false, .bool false] (N * 3)) 38)) := by
    have h := run_make (P := Try.prog) w 24 38 i0 (.agg #[.string ByteArray.empty, .bool false, .bool false]) Try.underlying24 hi hz0 .i64 .i64 (N : Int) (N : Int) (by omega) (Int.le_refl _) (by rw [hz2]; omega) (by omega)
    rw [Int.toNat_natCast] at h
    simpa [hz1, Value.cells] using h
  have hown0 := World.ownsRow_lit (base := w.heap.size) (e := 38) (size := 3) w (madeCells #[.string ByteArray.empty, .bool false, .bool false] (N * 3)) N (Nat.le_refl _) (by unfold maxLen; omega) (size_madeCells _ _)
  have hb0 : Below w.heap.size w (w.alloc (.cells (madeCells #[.string ByteArray.empty, .bool false, .bool false] (N * 3)) 38)) := (Below.refl _ w).alloc (Nat.le_refl _) _
  generalize w.alloc (.cells (madeCells #[.string ByteArray.empty, .bool false, .bool false] (N * 3)) 38) = w1 at *
  generalize hZ : (madeCells #[.string ByteArray.empty, .bool false, .bool false] (N * 3)).toList = Z at *
  have HZl : Hid (Z.length = N * 3) := Lib.hid (by rw [← hZ, Array.length_toList, size_madeCells])
  clear hZ
  have HO := Lib.hid hown0
  clear hown0
  go_enter Try.func6, Try.ntmps6
  go_wp2_with fail
  clear hmk
  go_loopw [4] (fun i wr => ∃ (k : Nat), k ≤ N ∧ i = .int .i64 k ∧ Hid (wr.ownsRow w.heap.size 38 3 (.slice (some ⟨w.heap.size, 0, none⟩) N N) N (pcells (L.take k) ++ Z.drop (k * 3))) ∧ Below w.heap.size w wr) (fun i _ => N - (intOf i).toNat)
  case atStart => exact ⟨0, Nat.zero_le _, rfl, Lib.hid (by simpa [pcells] using HO.out), hb0⟩
  case round =>
    obtain ⟨k, hk, rfl, ho, hb⟩ := hrel
    by_cases hlt : k < N
    · have hkx : k < L.length := by rw [HN.out]; exact hlt
      have hx? := List.getElem?_eq_getElem hkx
      obtain ⟨g, o, rfl, hg, c0, c1, c2⟩ := (H.out.below hb) k L[k] hx?
      have HX : Hid (L.take (k + 1) = L.take k ++ [L[k]]) := Lib.hid (by rw [List.take_add_one, hx?]; rfl)
      have HMl : Hid ((L.take k).length = k) := Lib.hid (by rw [List.length_take]; omega)
      clear hx?
      generalize L[k] = x at *
      obtain ⟨l, f, t⟩ := x
      dsimp only at c0 c1 c2
      go_wp2_with fail
      refine (toSpan1 l f t wr).mono ?_
      rintro e w2 ⟨rfl, b2⟩
      have ho2 := own_kept ho.out b2
      have hzl := HZl.out
      have hall : (pcells (L.take k) ++ Z.drop (k * 3)).length = N * 3 := by rw [List.length_append, pcells_len, List.length_drop, HMl.out]; omega
      have f0 := World.ownsRow.frozenAt ho2 (k * 3)
      have f1 := World.ownsRow.frozenAt ho2 (k * 3 + 1)
      have f2 := World.ownsRow.frozenAt ho2 (k * 3 + 2)
      obtain ⟨u0, v0⟩ : ∃ u, w2.cell? ⟨w.heap.size, k * 3, none⟩ = some u := by rw [World.ownsRow.cellAt ho2 (k * 3) (by omega)]; exact ⟨_, List.getElem?_eq_getElem (by omega)⟩
      obtain ⟨u1, v1⟩ : ∃ u, w2.cell? ⟨w.heap.size, k * 3 + 1, none⟩ = some u := by rw [World.ownsRow.cellAt ho2 (k * 3 + 1) (by omega)]; exact ⟨_, List.getElem?_eq_getElem (by omega)⟩
      obtain ⟨u2, v2⟩ : ∃ u, w2.cell? ⟨w.heap.size, k * 3 + 2, none⟩ = some u := by rw [World.ownsRow.cellAt ho2 (k * 3 + 2) (by omega)]; exact ⟨_, List.getElem?_eq_getElem (by omega)⟩
      have HO2 := Lib.hid (own_set3 ho2 ⟨l, f, t⟩ HMl.out (by omega))
      have hb2 := hb.trans (b2.mono hb.size)
      clear ho ho2 b2 hall hzl hb
      go_wp2_with fail
      go_roundw
      case rel =>
        refine ⟨k + 1, by omega, by go_num, Lib.hid (by rw [HX.out]; exact HO2.out), ?_⟩
        exact ((hb2.setCell (p := ⟨w.heap.size, k * 3, none⟩) (Nat.le_refl _) _).setCell (p := ⟨w.heap.size, k * 3 + 1, none⟩) (Nat.le_refl _) _).setCell (p := ⟨w.heap.size, k * 3 + 2, none⟩) (Nat.le_refl _) _
      case measure => simp [intOf]; omega
    · obtain rfl : k = N := by omega
      have HE : Hid (pcells (L.take k) ++ Z.drop (k * 3) = pcells L) := Lib.hid (by rw [List.take_of_length_le (by rw [HN.out]; omega), List.drop_eq_nil_of_le (by have := HZl.out; omega), List.append_nil])
      go_wp2_with fail
      go_ret
      exact ⟨rfl, by rw [← HE.out]; exact ho.out, hb⟩

/-- nothing of W has changed in w' -/
def Kp (W w' : World) : Prop := Below W.heap.size W w'
theorem Kp.drew (W : World) : Kp W W.drew := (Below.refl _ _).drew
theorem Kp.next {W w1 w2 : World} (h : Kp W w1) (h2 : Below w1.heap.size w1 w2) : Kp W w2 := Below.trans h (h2.mono (Below.size h))
set_option maxHeartbeats 1000000 in
/-- two lists of spans that say the same -/
theorem eqSpans (A B : Option Addr) (c d N : Nat) (L : List Sp1) (w : World) (h : RdSp w A L) (h' : RdSp w B L) (hn : L.length = N) (hm : N ≤ 1048576) :
    Calls Try.prog 8 #[.slice A N c, .slice B N d] w fun e w' => e = .returned (.bool true) ∧ Below w.heap.size w w' := by
  have H := Lib.hid h
  have H' := Lib.hid h'
  have HN := Lib.hid hn
  clear h h' hn
  go_enter Try.func8, Try.ntmps8
  go_wp2_with fail
  go_loopw [5] (fun i wr => ∃ k : Nat, k ≤ N ∧ i = .int .i64 k ∧ Below w.heap.size w wr) (fun i _ => N - (intOf i).toNat)
  case atStart => exact ⟨0, Nat.zero_le _, rfl, Below.refl _ _⟩
  case round =>
    obtain ⟨k, hk, rfl, hb⟩ := hrel
    by_cases hlt : k < N
    · have hkx : k < L.length := by rw [HN.out]; exact hlt
      have hx? := List.getElem?_eq_getElem hkx
      obtain ⟨g, o, rfl, hg, c0, c1, c2⟩ := (H.out.below hb) k L[k] hx?
      obtain ⟨g', o', rfl, hg', d0, d1, d2⟩ := (H'.out.below hb) k L[k] hx?
      clear hx?
      generalize L[k] = x at *
      obtain ⟨l, f, t⟩ := x
      dsimp only at *
      have HS : Hid (∀ w', Kp wr w' → ((w'.cell? ⟨g, o + k * 3, none⟩ = some (.string l) ∧ w'.cell? ⟨g, o + k * 3 + 1, none⟩ = some (.bool f) ∧ w'.cell? ⟨g, o + k * 3 + 2, none⟩ = some (.bool t) ∧ w'.cell? ⟨g', o' + k * 3, none⟩ = some (.string l) ∧ w'.cell? ⟨g', o' + k * 3 + 1, none⟩ = some (.bool f) ∧ w'.cell? ⟨g', o' + k * 3 + 2, none⟩ = some (.bool t)) ∧ Kp wr w')) := Lib.hid (fun w' h => ⟨⟨(h.cell (p := ⟨g, o + k * 3, none⟩) hg).trans c0, (h.cell (p := ⟨g, o + k * 3 + 1, none⟩) hg).trans c1, (h.cell (p := ⟨g, o + k * 3 + 2, none⟩) hg).trans c2, (h.cell (p := ⟨g', o' + k * 3, none⟩) hg').trans d0, (h.cell (p := ⟨g', o' + k * 3 + 1, none⟩) hg').trans d1, (h.cell (p := ⟨g', o' + k * 3 + 2, none⟩) hg').trans d2⟩, h⟩)
      have HK0 := Lib.hid (Kp.drew wr)
      clear c0 c1 c2 d0 d1 d2
      go_wp2_with fail
      go_region_held3 (fun w' => (w'.cell? ⟨g, o + k * 3, none⟩ = some (.string l) ∧ w'.cell? ⟨g, o + k * 3 + 1, none⟩ = some (.bool f) ∧ w'.cell? ⟨g, o + k * 3 + 2, none⟩ = some (.bool t) ∧ w'.cell? ⟨g', o' + k * 3, none⟩ = some (.string l) ∧ w'.cell? ⟨g', o' + k * 3 + 1, none⟩ = some (.bool f) ∧ w'.cell? ⟨g', o' + k * 3 + 2, none⟩ = some (.bool t)) ∧ Kp wr w')
        (first | exact HS.out _ HK0.out | exact HS.out _ (by assumption))
        (first
          | (go_at_call 23; refine (eqSpan1 l f t _).mono ?_; rintro e w1 ⟨rfl, b1⟩; have hk1 : Kp wr w1 := Kp.next HK0.out b1))
      have hb1 := hb.trans (Below.mono hk1 hb.size)
      clear HS HK0 hk1 b1
      (try clear hHeld)
      go_wp2_with fail
      go_roundw
      case rel => exact ⟨k + 1, by omega, by go_num, hb1⟩
      case measure => simp [intOf]; omega
    · go_wp2_with fail
      go_ret
      exact ⟨rfl, hb⟩
end Go.Proofs.Ytadlcchbjccejaa.Sp
