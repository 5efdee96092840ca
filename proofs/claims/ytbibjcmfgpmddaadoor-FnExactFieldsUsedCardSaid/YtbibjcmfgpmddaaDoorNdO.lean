/-
  An argument that is a style, opened to its tree.
-/
import Derived.Test.YtbibjcmfgpmddaaDoorNdPl
import Derived.ProofKit
import Derived.OpenShut
import Derived.ShutString
import Derived.ChangeOld
import Derived.Deep.Slices
import Derived.Deep.Fields
import Derived.Lib.SmallJoins
namespace Go.Proofs.YtbibjcmfgpmddaaDoor.Nd
open Go.ChangeShapes Go.WideShapes Go.ChangeAt Go.RowKit Go.Joins Go.Deep
open NdPl
set_option linter.unusedSimpArgs false
set_option linter.unusedVariables false

theorem own : ownKnob Tryd.prog.godebug = none := by kernel_rfl
theorem laidOut : laidOutB Tryd.prog = true := by kernel_rfl
theorem k1s : Tryd.prog.cellsOf 9 = 1 := by kernel_rfl
theorem k1i : Tryd.prog.cellsOf 3 = 1 := by kernel_rfl
theorem k1n : Tryd.prog.cellsOf 22 = 1 := by kernel_rfl
theorem k5n : Tryd.prog.cellsOf 24 = 5 := by kernel_rfl
theorem k6s : Tryd.prog.cellsOf 26 = 6 := by kernel_rfl
theorem one_of {α : Type} {l : List α} {a : Option α} {i : Nat} (h : a = l[i]?) (hi : i < l.length) : ∃ y, a = some y := ⟨_, h.trans (List.getElem?_eq_getElem hi)⟩
theorem lt_of_cell {w : World} {b o : Nat} {v : Value} (h : w.cell? ⟨b, o, none⟩ = some v) : b < w.heap.size := by
  rcases Nat.lt_or_ge b w.heap.size with h' | h'
  · exact h'
  · exfalso
    have : w.heap[b]? = none := Array.getElem?_eq_none h'
    simp [World.cell?, this] at h
theorem RdL.up {d : Nat} : ∀ {w : World} {A : Option Addr} {L : List Tr}, RdL d w A L → RdL (d + 1) w A L := by
  induction d with
  | zero => intro w A L h j x hx; rw [show L = [] from h] at hx; simp at hx
  | succ d ih =>
    intro w A L h j x hx
    obtain ⟨g, o, B, c, e, hg, c0, c1, c2, c3, c4, hr⟩ := h j x hx
    exact ⟨g, o, B, c, e, hg, c0, c1, c2, c3, c4, ih hr⟩
theorem LimL.up {d : Nat} : ∀ {L : List Tr}, LimL d L → LimL (d + 1) L := by
  induction d with
  | zero => intro L h; rw [show L = [] from h]; exact ⟨Nat.zero_le _, fun x hx => by cases hx⟩
  | succ d ih =>
    intro L h
    exact ⟨h.1, fun x hx => ⟨(h.2 x hx).1, (h.2 x hx).2.1, (h.2 x hx).2.2.1, ih (h.2 x hx).2.2.2⟩⟩
/-- what a reading of a list of nodes gives -/
def OpL {H : Type} (enc : TypeId × Value → H) (W : World) (base : Nat) (held : Bool) (fuel : Nat) : Prop := ∀ (v : Value) (y : DataW H × List MemPlace), DataW.trod enc Tryd.prog W base (fun _ => true) held fuel 22 [v] = some y →
  ∃ A n c L, v = .slice A n c ∧ L.length = n ∧ RdL fuel W A L ∧ LimL fuel L
set_option maxRecDepth 100000 in
/-- a node in its five cells -/
theorem cells_node {H : Type} {enc : TypeId × Value → H} {W : World} {base fuel : Nat} {held : Bool} {c0 c1 c2 c3 c4 : Value} {y : DataW H × List MemPlace} (ih : ∀ f, f < fuel → OpL enc W base held f)
    (hf : DataW.trod enc Tryd.prog W base (fun _ => true) held fuel 24 [c0, c1, c2, c3, c4] = some y) :
    ∃ (x : Tr) (B : Option Addr) (c : Nat), c0 = .int .i64 x.op ∧ c1 = .string x.wd ∧ c2 = .string x.tx ∧ c3 = .string x.af ∧ c4 = .slice B x.ps.length c ∧ RdL (fuel - 1) W B x.ps ∧ LimL (fuel - 1) x.ps ∧ x.wd.size ≤ maxLen ∧ x.tx.size ≤ maxLen ∧ x.af.size ≤ maxLen := by
  obtain ⟨xs, n, hn, _, _, hxl, hx⟩ := DataW.trod_struct Tryd.underlying24 hf
  subst hn
  have hl : xs.length = 5 := hxl
  have g0 : DataW.trod enc Tryd.prog W base (fun _ => true) held n 3 (([c0, c1, c2, c3, c4].drop 0).take (Tryd.prog.cellsOf 3)) = xs[0]? := hx 0 _ rfl
  rw [k1i] at g0
  obtain ⟨y0, e0⟩ := one_of g0 (by omega)
  replace e0 : DataW.trod enc Tryd.prog W base (fun _ => true) held n 3 [c0] = some y0 := e0
  have g1 : DataW.trod enc Tryd.prog W base (fun _ => true) held n 9 (([c0, c1, c2, c3, c4].drop 1).take (Tryd.prog.cellsOf 9)) = xs[1]? := hx 1 _ rfl
  rw [k1s] at g1
  obtain ⟨y1, e1⟩ := one_of g1 (by omega)
  replace e1 : DataW.trod enc Tryd.prog W base (fun _ => true) held n 9 [c1] = some y1 := e1
  have g2 : DataW.trod enc Tryd.prog W base (fun _ => true) held n 9 (([c0, c1, c2, c3, c4].drop 2).take (Tryd.prog.cellsOf 9)) = xs[2]? := hx 2 _ rfl
  rw [k1s] at g2
  obtain ⟨y2, e2⟩ := one_of g2 (by omega)
  replace e2 : DataW.trod enc Tryd.prog W base (fun _ => true) held n 9 [c2] = some y2 := e2
  have g3 : DataW.trod enc Tryd.prog W base (fun _ => true) held n 9 (([c0, c1, c2, c3, c4].drop 3).take (Tryd.prog.cellsOf 9)) = xs[3]? := hx 3 _ rfl
  rw [k1s] at g3
  obtain ⟨y3, e3⟩ := one_of g3 (by omega)
  replace e3 : DataW.trod enc Tryd.prog W base (fun _ => true) held n 9 [c3] = some y3 := e3
  have g4 : DataW.trod enc Tryd.prog W base (fun _ => true) held n 22 (([c0, c1, c2, c3, c4].drop 4).take (Tryd.prog.cellsOf 22)) = xs[4]? := hx 4 _ rfl
  rw [k1n] at g4
  obtain ⟨y4, e4⟩ := one_of g4 (by omega)
  replace e4 : DataW.trod enc Tryd.prog W base (fun _ => true) held n 22 [c4] = some y4 := e4
  obtain ⟨op, q0, _, _⟩ := DataW.trod_int Tryd.underlying3 e0
  cases q0
  obtain ⟨wd, q1, _, z1⟩ := DataW.trod_string Tryd.underlying9 e1
  cases q1
  obtain ⟨tx, q2, _, z2⟩ := DataW.trod_string Tryd.underlying9 e2
  cases q2
  obtain ⟨af, q3, _, z3⟩ := DataW.trod_string Tryd.underlying9 e3
  cases q3
  obtain ⟨B, m, c, L, rfl, hL, hr, hm⟩ := ih n (Nat.lt_succ_self n) _ _ e4
  subst hL
  exact ⟨.mk op wd tx af L, B, c, rfl, rfl, rfl, rfl, rfl, hr, hm, z1, z2, z3⟩
theorem open_nodes {H : Type} (enc : TypeId × Value → H) (W : World) (base : Nat) (held : Bool) (fuel : Nat) : OpL enc W base held fuel := by
  induction fuel using Nat.strongRecOn with
  | ind fuel ih =>
    intro v y hf
    have ih' : ∀ f, f < fuel → OpL enc W base held f := ih
    rcases DataW.trod_slice Tryd.underlying22 hf with ⟨hcs, _⟩ | ⟨a, len, cap, elems, rest, n, hn, hcs, _, hb, hl, hm, hlen, hel, _, _⟩
    · cases hcs
      refine ⟨none, 0, 0, [], rfl, rfl, ?_, ?_⟩
      · cases fuel with
        | zero => exact (show ([] : List Tr) = [] from rfl)
        | succ f => intro j x hx; simp at hx
      · cases fuel with
        | zero => exact (show ([] : List Tr) = [] from rfl)
        | succ f => exact ⟨Nat.zero_le _, fun x hx => by cases hx⟩
    · cases hcs
      subst hn
      rw [k5n] at hel
      obtain ⟨b, o, spot⟩ := a
      obtain ⟨X, hX⟩ := choose_lt (n := len) (p := fun i (x : Tr) => (∃ g o' B c, (some ⟨b, o, spot⟩ : Option Addr) = some ⟨g, o', none⟩ ∧ g < W.heap.size ∧ W.cell? ⟨g, o' + i * 5, none⟩ = some (.int .i64 x.op) ∧ W.cell? ⟨g, o' + i * 5 + 1, none⟩ = some (.string x.wd) ∧ W.cell? ⟨g, o' + i * 5 + 2, none⟩ = some (.string x.tx) ∧ W.cell? ⟨g, o' + i * 5 + 3, none⟩ = some (.string x.af) ∧ W.cell? ⟨g, o' + i * 5 + 4, none⟩ = some (.slice B x.ps.length c) ∧ RdL n W B x.ps) ∧ x.wd.size ≤ maxLen ∧ x.tx.size ≤ maxLen ∧ x.af.size ≤ maxLen ∧ LimL n x.ps) (fun i hi => by
        have h0 := hel i hi
        rw [List.getElem?_eq_getElem (by omega)] at h0
        obtain ⟨cs', h1, h2⟩ := Option.bind_eq_some_iff.1 h0
        obtain ⟨_, hlen', hcell⟩ := World.cells?_some h1
        match cs', hlen' with
        | [c0, c1, c2, c3, c4], _ =>
          obtain ⟨x, B, c, rfl, rfl, rfl, rfl, rfl, hr, hmm, z1, z2, z3⟩ := cells_node (fun f hf => ih' f (by omega)) h2
          have e0 := hcell 0 (by omega)
          have e1 := hcell 1 (by omega)
          have e2 := hcell 2 (by omega)
          have e3 := hcell 3 (by omega)
          have e4 := hcell 4 (by omega)
          have hspot : spot = none := by
            have h00 := hel 0 (by omega)
            rw [List.getElem?_eq_getElem (by omega)] at h00
            obtain ⟨cs0, g1, _⟩ := Option.bind_eq_some_iff.1 h00
            obtain ⟨_, hlen0, hcell0⟩ := World.cells?_some g1
            have g0 := hcell0 0 (by omega)
            rw [List.getElem?_eq_getElem (by omega)] at g0
            simpa [Addr.add] using World.cell?_spot g0
          subst hspot
          simp only [Go.WideShapes.add_plain] at e0 e1 e2 e3 e4
          have hup : RdL n W B x.ps ∧ LimL n x.ps := by
            cases n with
            | zero => exact ⟨hr, hmm⟩
            | succ n => exact ⟨RdL.up hr, LimL.up hmm⟩
          exact ⟨x, ⟨b, o, B, c, rfl, lt_of_cell e0, e0, e1, e2, e3, e4, hup.1⟩, z1, z2, z3, hup.2⟩)
      refine ⟨some ⟨b, o, spot⟩, len, _, (List.range len).map X, rfl, by simp, ?_, ?_⟩
      · intro j x hx
        rw [List.getElem?_map] at hx
        rcases Nat.lt_or_ge j len with hj | hj
        · rw [List.getElem?_range hj] at hx
          cases hx
          exact (hX j hj).1
        · rw [List.getElem?_eq_none (by simpa using hj)] at hx
          cases hx
      · refine ⟨by simp; omega, fun x hx => ?_⟩
        obtain ⟨j, hj, rfl⟩ := List.mem_map.1 hx
        exact (hX j (List.mem_range.1 hj)).2
set_option maxRecDepth 100000 in
theorem open_style {H : Type} {enc : TypeId × Value → H} {W : World} {base b0 : Nat} {r : Reach} {held : Bool} {v : Value} {d : DataW H} {ps : List MemPlace} (hv : Value.okWide Tryd.prog W r b0 26 v) (h : DataW.Trod enc Tryd.prog W base (fun _ => true) held 26 v d ps) :
    ∃ nm x B c dd, v = stV nm (Tr.op x) x.wd x.tx x.af B x.ps.length c ∧ RdL dd W B x.ps ∧ LimL dd x.ps ∧ x.wd.size ≤ maxLen ∧ x.tx.size ≤ maxLen ∧ x.af.size ≤ maxLen := by
  obtain ⟨cs, rfl, hcs⟩ := okWide_struct Tryd.underlying26 hv
  rw [k6s] at hcs
  obtain ⟨fuel, hf⟩ := h
  obtain ⟨l, rfl⟩ : ∃ l : List Value, cs = l.toArray := ⟨cs.toList, by simp⟩
  have hl6 : l.length = 6 := by simpa using hcs
  match l, hl6 with
  | [a0, a1, a2, a3, a4, a5], _ =>
    have hf' : DataW.trod enc Tryd.prog W base (fun _ => true) held fuel 26 [a0, a1, a2, a3, a4, a5] = some (d, ps) := hf
    obtain ⟨xs, n, hn, _, _, hxl, hx⟩ := DataW.trod_struct Tryd.underlying26 hf'
    subst hn
    have hl : xs.length = 2 := hxl
    have g0 : DataW.trod enc Tryd.prog W base (fun _ => true) held n 3 (([a0, a1, a2, a3, a4, a5].drop 0).take (Tryd.prog.cellsOf 3)) = xs[0]? := hx 0 _ rfl
    rw [k1i] at g0
    obtain ⟨y0, e0⟩ := one_of g0 (by omega)
    replace e0 : DataW.trod enc Tryd.prog W base (fun _ => true) held n 3 [a0] = some y0 := e0
    have g1 : DataW.trod enc Tryd.prog W base (fun _ => true) held n 24 (([a0, a1, a2, a3, a4, a5].drop 1).take (Tryd.prog.cellsOf 24)) = xs[1]? := hx 1 _ rfl
    rw [k5n] at g1
    obtain ⟨y1, e1⟩ := one_of g1 (by omega)
    replace e1 : DataW.trod enc Tryd.prog W base (fun _ => true) held n 24 [a1, a2, a3, a4, a5] = some y1 := e1
    obtain ⟨nm, q0, _, _⟩ := DataW.trod_int Tryd.underlying3 e0
    cases q0
    obtain ⟨x, B, c, rfl, rfl, rfl, rfl, rfl, hr, hm, z1, z2, z3⟩ := cells_node (fun f _ => open_nodes enc W base held f) e1
    exact ⟨nm, x, B, c, n - 1, rfl, hr, hm, z1, z2, z3⟩
end Go.Proofs.YtbibjcmfgpmddaaDoor.Nd
