/-
  Several texts of one claim in one file: OpenN, OpenNs, OpenE, OpenL.
-/
import Derived.Test.YteccmlpibbchbaaGreatDoorRows
import Derived.Test.YteccmlpibbchbaaGreatDoorName
import Derived.WalkKit
import Derived.ProofKit
import Derived.OpenShut
import Derived.ShutString
import Derived.SliceStrings
import Derived.ChangeOld
import Derived.Below
import Derived.Lib.SmallJoins
import Derived.Test.YteccmlpibbchbaaGreatDoorNm
import Derived.Deep.Slices
import Derived.Deep.Fields
import Derived.Test.YteccmlpibbchbaaGreatDoorEn
import Derived.Test.YteccmlpibbchbaaGreatDoorOpenD
import Derived.Test.YteccmlpibbchbaaGreatDoorGEs
/-
  An argument that is a name, opened to its parts.
-/
namespace Go.Proofs.YteccmlpibbchbaaGreatDoor.OpenN
open Go.ChangeShapes Go.WideShapes Go.ChangeAt Go.RowKit Go.Joins
open Strs Help Name

theorem own : ownKnob Tryz.prog.godebug = none := by kernel_rfl
theorem laidOut : laidOutB Tryz.prog = true := by kernel_rfl

/-- what came in, as the walk wants it -/
theorem rds_of {w : World} {a : Addr} {ss : List ByteArray} (h : ∀ i, i < ss.length → w.cell? (a.add i) = some (.string (ss.getD i ByteArray.empty))) (n : Nat) : RdS w (some a) (ss.take n) := by
  intro j x hx
  have hj : j < ss.length := by
    rcases Nat.lt_or_ge j ss.length with h | h
    · exact h
    · rw [List.getElem?_eq_none (by rw [List.length_take]; omega)] at hx; cases hx
  have hx' : ss[j]? = some x := by
    rw [List.getElem?_take] at hx
    split at hx
    · exact hx
    · cases hx
  obtain ⟨b, off, spot⟩ := a
  have hspot : spot = none := by simpa [Addr.add] using World.cell?_spot (h 0 (by omega))
  subst hspot
  refine ⟨b, off, rfl, ?_⟩
  have := h j hj
  rw [Go.WideShapes.add_plain] at this
  rw [this, List.getD_eq_getElem?_getD, hx']
  rfl
/-- the slice of the Given words -/
theorem open_given {H : Type} {enc : TypeId × Value → H} {W : World} {base fuel : Nat} {held : Bool} {v : Value} {y : DataW H × List MemPlace} (hf : DataW.trod enc Tryz.prog W base (fun _ => true) held fuel 61 [v] = some y) :
    ∃ A n c xs, v = .slice A n c ∧ Rdn W A n xs ∧ n ≤ maxLen ∧ (∀ x ∈ xs, x.size ≤ maxLen) ∧ n ≤ c := by
  rcases open_strings Tryz.underlying61 Tryz.underlying9 (by kernel_rfl) hf with ⟨hcs, _⟩ | ⟨x, l, c, ss, hcs, _, hl, hm, hz, _, hcell, hws⟩
  · cases hcs
    exact ⟨none, 0, 0, [], rfl, ⟨fun j x hx => (by simp at hx), fun hp => (by omega), rfl⟩, Nat.zero_le _, fun x hx => (by cases hx), Nat.le_refl _⟩
  · cases hcs
    simp only [if_true] at hz
    refine ⟨some x, l, c, ss.take l, rfl, ⟨rds_of hcell _, ?_, by rw [List.length_take]; omega⟩, by omega, fun y hy => hws y (List.mem_of_mem_take hy), hl⟩
    rintro hp a ha
    cases ha
    have h0c := hcell 0 (by omega)
    rcases Nat.lt_or_ge x.block W.heap.size with h | h
    · exact h
    · exfalso
      have : W.heap[x.block]? = none := Array.getElem?_eq_none h
      simp [Addr.add, World.cell?, this] at h0c
set_option maxRecDepth 100000 in
theorem open_name {H : Type} {enc : TypeId × Value → H} {W : World} {base b0 : Nat} {r : Reach} {held : Bool} {v : Value} {d : DataW H} {ps : List MemPlace} (hv : Value.okWide Tryz.prog W r b0 116 v) (h : DataW.Trod enc Tryz.prog W base (fun _ => true) held 116 v d ps) :
    ∃ A n c xs p f s, v = nmV (.slice A n c) p f s ∧ Rdn W A n xs ∧ n ≤ maxLen ∧ (∀ x ∈ xs, x.size ≤ maxLen) ∧ p.size ≤ maxLen ∧ f.size ≤ maxLen ∧ s.size ≤ maxLen := by
  obtain ⟨v0, v1, v2, v3, y0, y1, y2, y3, n, rfl, _, _, t0, t1, t2, t3⟩ := open_agg4 Tryz.underlying116 (by kernel_rfl) (by kernel_rfl) hv h
  obtain ⟨A, n, c, xs, rfl, hr, hm, hx, _⟩ := open_given t0
  obtain ⟨p, hp, _, hps⟩ := DataW.trod_string Tryz.underlying9 t1
  obtain ⟨f, hf, _, hfs⟩ := DataW.trod_string Tryz.underlying9 t2
  obtain ⟨s, hs, _, hss⟩ := DataW.trod_string Tryz.underlying9 t3
  cases hp; cases hf; cases hs
  exact ⟨A, n, c, xs, p, f, s, rfl, hr, hm, hx, hps, hfs, hss⟩
end Go.Proofs.YteccmlpibbchbaaGreatDoor.OpenN
/-
  An argument that is a slice of names, opened to its parts.
-/
namespace Go.Proofs.YteccmlpibbchbaaGreatDoor.OpenN
open Go.ChangeShapes Go.WideShapes Go.ChangeAt Go.RowKit Go.Joins Go.Deep
open Strs Help Name Nms

section
variable {H : Type} {enc : TypeId × Value → H} {P : Program} {w : World} {base : Nat} {spare : Nat → Bool} {held : Bool}
theorem trod_one4 {t : TypeId} {f0 f1 f2 f3 : Field} {fuel : Nat} {c0 c1 c2 c3 : Value} {x : DataW H × List MemPlace} (hs : P.underlying t = some (.struct #[f0, f1, f2, f3])) (hone : oneCellFields P #[f0, f1, f2, f3] = true)
    (hf : DataW.trod enc P w base spare held fuel t [c0, c1, c2, c3] = some x) :
    ∃ (y0 y1 y2 y3 : DataW H × List MemPlace) (n : Nat), DataW.trod enc P w base spare held n f0.type [c0] = some y0 ∧ DataW.trod enc P w base spare held n f1.type [c1] = some y1 ∧ DataW.trod enc P w base spare held n f2.type [c2] = some y2 ∧ DataW.trod enc P w base spare held n f3.type [c3] = some y3 := by
  obtain ⟨y0, y1, y2, y3, n, hx, _, h0, h1, h2, h3⟩ := trod_struct4 hs hf
  obtain ⟨o0, k0⟩ := hone_of hone 0 f0 rfl
  obtain ⟨o1, k1⟩ := hone_of hone 1 f1 rfl
  obtain ⟨o2, k2⟩ := hone_of hone 2 f2 rfl
  obtain ⟨o3, k3⟩ := hone_of hone 3 f3 rfl
  exact ⟨y0, y1, y2, y3, n, by simpa [o0, k0] using h0, by simpa [o1, k1] using h1, by simpa [o2, k2] using h2, by simpa [o3, k3] using h3⟩
end
theorem lt_of_cell {w : World} {b o : Nat} {v : Value} (h : w.cell? ⟨b, o, none⟩ = some v) : b < w.heap.size := by
  rcases Nat.lt_or_ge b w.heap.size with h' | h'
  · exact h'
  · exfalso
    have : w.heap[b]? = none := Array.getElem?_eq_none h'
    simp [World.cell?, this] at h
instance : Inhabited Nm := ⟨⟨none, 0, 0, [], ⟨#[]⟩, ⟨#[]⟩, ⟨#[]⟩⟩⟩
/-- a name in its four cells -/
theorem cells_name {H : Type} {enc : TypeId × Value → H} {W : World} {base fuel : Nat} {held : Bool} {c0 c1 c2 c3 : Value} {y : DataW H × List MemPlace} (hf : DataW.trod enc Tryz.prog W base (fun _ => true) held fuel 116 [c0, c1, c2, c3] = some y) :
    ∃ x : Nm, c0 = .slice x.A x.n x.c ∧ c1 = .string x.p ∧ c2 = .string x.f ∧ c3 = .string x.s ∧ Rdn W x.A x.n x.xs ∧ x.Lim := by
  obtain ⟨y0, y1, y2, y3, n, t0, t1, t2, t3⟩ := trod_one4 Tryz.underlying116 (by kernel_rfl) hf
  obtain ⟨A, n, c, xs, rfl, hr, hm, hx, _⟩ := open_given t0
  obtain ⟨p, e1, _, hps⟩ := DataW.trod_string Tryz.underlying9 t1
  obtain ⟨f, e2, _, hfs⟩ := DataW.trod_string Tryz.underlying9 t2
  obtain ⟨s, e3, _, hss⟩ := DataW.trod_string Tryz.underlying9 t3
  cases e1; cases e2; cases e3
  exact ⟨⟨A, n, c, xs, p, f, s⟩, rfl, rfl, rfl, rfl, hr, hm, hx, hps, hfs, hss⟩
theorem cn4 : Tryz.prog.cellsOf 116 = 4 := by kernel_rfl
/-- a slice of names -/
theorem open_names {H : Type} {enc : TypeId × Value → H} {W : World} {base fuel : Nat} {held : Bool} {v : Value} {y : DataW H × List MemPlace} (hf : DataW.trod enc Tryz.prog W base (fun _ => true) held fuel 78 [v] = some y) :
    ∃ A N c L, v = .slice A N c ∧ RdN0 W A L ∧ L.length = N ∧ N ≤ maxLen ∧ (∀ x ∈ L, x.Lim) ∧ N ≤ c := by
  rcases open_slice Tryz.underlying78 hf with ⟨hcs, _⟩ | ⟨a, len, cap, m, n, D, Pl, hcs, _, hl, hm, hmm, _, hall⟩
  · cases hcs
    exact ⟨none, 0, 0, [], rfl, fun j x hx => (by simp at hx), rfl, Nat.zero_le _, fun x hx => (by cases hx), Nat.le_refl _⟩
  · cases hcs
    simp only [if_true] at hmm
    subst hmm
    rw [cn4] at hall
    obtain ⟨b, o, spot⟩ := a
    obtain ⟨X, hX⟩ := choose_lt (n := len) (p := fun i (x : Nm) => (Rdn W x.A x.n x.xs ∧ x.At W (some ⟨b, o, spot⟩) i) ∧ x.Lim) (fun i hi => by
      obtain ⟨cs', h1, h2⟩ := hall i (by omega)
      obtain ⟨_, hlen, hcell⟩ := World.cells?_some h1
      match cs', hlen with
      | [c0, c1, c2, c3], _ =>
        obtain ⟨x, rfl, rfl, rfl, rfl, hr, hlim⟩ := cells_name h2
        have e0 := hcell 0 (by omega)
        have e1 := hcell 1 (by omega)
        have e2 := hcell 2 (by omega)
        have e3 := hcell 3 (by omega)
        have hspot : spot = none := by
          obtain ⟨cs0, g1, _⟩ := hall 0 (by omega)
          obtain ⟨_, hlen0, hcell0⟩ := World.cells?_some g1
          have g0 := hcell0 0 (by omega)
          rw [List.getElem?_eq_getElem (by omega)] at g0
          simpa [Addr.add] using World.cell?_spot g0
        subst hspot
        simp only [Go.WideShapes.add_plain] at e0 e1 e2 e3
        exact ⟨x, ⟨hr, b, o, rfl, lt_of_cell e0, e0, e1, e2, e3⟩, hlim⟩)
    refine ⟨some ⟨b, o, spot⟩, len, _, (List.range len).map X, rfl, ?_, by simp, by omega, ?_, hl⟩
    · intro j x hx
      rw [List.getElem?_map] at hx
      rcases Nat.lt_or_ge j len with hj | hj
      · rw [List.getElem?_range hj] at hx
        cases hx
        exact (hX j hj).1
      · rw [List.getElem?_eq_none (by simpa using hj)] at hx
        cases hx
    · intro x hx
      obtain ⟨j, hj, rfl⟩ := List.mem_map.1 hx
      exact (hX j (List.mem_range.1 hj)).2
set_option maxRecDepth 100000 in
theorem open_namesW {H : Type} {enc : TypeId × Value → H} {W : World} {base b0 : Nat} {r : Reach} {held : Bool} {v : Value} {d : DataW H} {ps : List MemPlace} (hv : Value.okWide Tryz.prog W r b0 78 v) (h : DataW.Trod enc Tryz.prog W base (fun _ => true) held 78 v d ps) :
    ∃ A N c L, v = .slice A N c ∧ RdN0 W A L ∧ L.length = N ∧ N ≤ maxLen ∧ (∀ x ∈ L, x.Lim) ∧ N ≤ c := by
  obtain ⟨a0, n0, c0, rfl⟩ := okWide_slice Tryz.underlying78 hv
  obtain ⟨fuel, hf⟩ := h
  have e : (Value.slice a0 n0 c0).cells.toList = [.slice a0 n0 c0] := rfl
  rw [e] at hf
  exact open_names (y := (d, ps)) hf
end Go.Proofs.YteccmlpibbchbaaGreatDoor.OpenN
/-
  An argument that is an entry, opened to its parts.
-/
namespace Go.Proofs.YteccmlpibbchbaaGreatDoor.OpenE
open Go.ChangeShapes Go.WideShapes Go.ChangeAt Go.RowKit Go.Joins Go.Deep
open Strs Help Name Nms Ens OpenN
set_option linter.unusedSimpArgs false
set_option linter.unusedVariables false

theorem k1s : Tryz.prog.cellsOf 9 = 1 := by kernel_rfl
theorem k1i : Tryz.prog.cellsOf 3 = 1 := by kernel_rfl
theorem k1b : Tryz.prog.cellsOf 4 = 1 := by kernel_rfl
theorem k1n : Tryz.prog.cellsOf 78 = 1 := by kernel_rfl
theorem k4d : Tryz.prog.cellsOf 79 = 4 := by kernel_rfl
theorem k14 : Tryz.prog.cellsOf 81 = 14 := by kernel_rfl
theorem one_of {α : Type} {l : List α} {a : Option α} {i : Nat} (h : a = l[i]?) (hi : i < l.length) : ∃ y, a = some y := ⟨_, h.trans (List.getElem?_eq_getElem hi)⟩
set_option maxRecDepth 100000 in
set_option maxHeartbeats 4000000 in
/-- an entry in its fourteen cells -/
theorem cells_entry {H : Type} {enc : TypeId × Value → H} {W : World} {base fuel : Nat} {held : Bool} {c0 c1 c2 c3 c4 c5 c6 c7 c8 c9 c10 c11 c12 c13 : Value} {y : DataW H × List MemPlace} (hf : DataW.trod enc Tryz.prog W base (fun _ => true) held fuel 81 [c0, c1, c2, c3, c4, c5, c6, c7, c8, c9, c10, c11, c12, c13] = some y) :
    ∃ e : En, #[c0, c1, c2, c3, c4, c5, c6, c7, c8, c9, c10, c11, c12, c13] = e.cs ∧ e.Rd W ∧ e.Lim := by
  obtain ⟨xs, n, _, _, _, hxl, hx⟩ := DataW.trod_struct Tryz.underlying81 hf
  have hl : xs.length = 11 := hxl
  have g0 : DataW.trod enc Tryz.prog W base (fun _ => true) held n 9 (([c0, c1, c2, c3, c4, c5, c6, c7, c8, c9, c10, c11, c12, c13].drop 0).take (Tryz.prog.cellsOf 9)) = xs[0]? := hx 0 _ rfl
  rw [k1s] at g0
  obtain ⟨y0, e0⟩ := one_of g0 (by omega)
  replace e0 : DataW.trod enc Tryz.prog W base (fun _ => true) held n 9 [c0] = some y0 := e0
  have g1 : DataW.trod enc Tryz.prog W base (fun _ => true) held n 3 (([c0, c1, c2, c3, c4, c5, c6, c7, c8, c9, c10, c11, c12, c13].drop 1).take (Tryz.prog.cellsOf 3)) = xs[1]? := hx 1 _ rfl
  rw [k1i] at g1
  obtain ⟨y1, e1⟩ := one_of g1 (by omega)
  replace e1 : DataW.trod enc Tryz.prog W base (fun _ => true) held n 3 [c1] = some y1 := e1
  have g2 : DataW.trod enc Tryz.prog W base (fun _ => true) held n 78 (([c0, c1, c2, c3, c4, c5, c6, c7, c8, c9, c10, c11, c12, c13].drop 2).take (Tryz.prog.cellsOf 78)) = xs[2]? := hx 2 _ rfl
  rw [k1n] at g2
  obtain ⟨y2, e2⟩ := one_of g2 (by omega)
  replace e2 : DataW.trod enc Tryz.prog W base (fun _ => true) held n 78 [c2] = some y2 := e2
  have g3 : DataW.trod enc Tryz.prog W base (fun _ => true) held n 78 (([c0, c1, c2, c3, c4, c5, c6, c7, c8, c9, c10, c11, c12, c13].drop 3).take (Tryz.prog.cellsOf 78)) = xs[3]? := hx 3 _ rfl
  rw [k1n] at g3
  obtain ⟨y3, e3⟩ := one_of g3 (by omega)
  replace e3 : DataW.trod enc Tryz.prog W base (fun _ => true) held n 78 [c3] = some y3 := e3
  have g4 : DataW.trod enc Tryz.prog W base (fun _ => true) held n 9 (([c0, c1, c2, c3, c4, c5, c6, c7, c8, c9, c10, c11, c12, c13].drop 4).take (Tryz.prog.cellsOf 9)) = xs[4]? := hx 4 _ rfl
  rw [k1s] at g4
  obtain ⟨y4, e4⟩ := one_of g4 (by omega)
  replace e4 : DataW.trod enc Tryz.prog W base (fun _ => true) held n 9 [c4] = some y4 := e4
  have g5 : DataW.trod enc Tryz.prog W base (fun _ => true) held n 9 (([c0, c1, c2, c3, c4, c5, c6, c7, c8, c9, c10, c11, c12, c13].drop 5).take (Tryz.prog.cellsOf 9)) = xs[5]? := hx 5 _ rfl
  rw [k1s] at g5
  obtain ⟨y5, e5⟩ := one_of g5 (by omega)
  replace e5 : DataW.trod enc Tryz.prog W base (fun _ => true) held n 9 [c5] = some y5 := e5
  have g6 : DataW.trod enc Tryz.prog W base (fun _ => true) held n 9 (([c0, c1, c2, c3, c4, c5, c6, c7, c8, c9, c10, c11, c12, c13].drop 6).take (Tryz.prog.cellsOf 9)) = xs[6]? := hx 6 _ rfl
  rw [k1s] at g6
  obtain ⟨y6, e6⟩ := one_of g6 (by omega)
  replace e6 : DataW.trod enc Tryz.prog W base (fun _ => true) held n 9 [c6] = some y6 := e6
  have g7 : DataW.trod enc Tryz.prog W base (fun _ => true) held n 79 (([c0, c1, c2, c3, c4, c5, c6, c7, c8, c9, c10, c11, c12, c13].drop 7).take (Tryz.prog.cellsOf 79)) = xs[7]? := hx 7 _ rfl
  rw [k4d] at g7
  obtain ⟨y7, e7⟩ := one_of g7 (by omega)
  replace e7 : DataW.trod enc Tryz.prog W base (fun _ => true) held n 79 [c7, c8, c9, c10] = some y7 := e7
  have g8 : DataW.trod enc Tryz.prog W base (fun _ => true) held n 3 (([c0, c1, c2, c3, c4, c5, c6, c7, c8, c9, c10, c11, c12, c13].drop 11).take (Tryz.prog.cellsOf 3)) = xs[8]? := hx 8 _ rfl
  rw [k1i] at g8
  obtain ⟨y8, e8⟩ := one_of g8 (by omega)
  replace e8 : DataW.trod enc Tryz.prog W base (fun _ => true) held n 3 [c11] = some y8 := e8
  have g9 : DataW.trod enc Tryz.prog W base (fun _ => true) held n 9 (([c0, c1, c2, c3, c4, c5, c6, c7, c8, c9, c10, c11, c12, c13].drop 12).take (Tryz.prog.cellsOf 9)) = xs[9]? := hx 9 _ rfl
  rw [k1s] at g9
  obtain ⟨y9, e9⟩ := one_of g9 (by omega)
  replace e9 : DataW.trod enc Tryz.prog W base (fun _ => true) held n 9 [c12] = some y9 := e9
  have g10 : DataW.trod enc Tryz.prog W base (fun _ => true) held n 9 (([c0, c1, c2, c3, c4, c5, c6, c7, c8, c9, c10, c11, c12, c13].drop 13).take (Tryz.prog.cellsOf 9)) = xs[10]? := hx 10 _ rfl
  rw [k1s] at g10
  obtain ⟨y10, e10⟩ := one_of g10 (by omega)
  replace e10 : DataW.trod enc Tryz.prog W base (fun _ => true) held n 9 [c13] = some y10 := e10
  clear hx hf
  obtain ⟨key, q0, _, z0⟩ := DataW.trod_string Tryz.underlying9 e0
  cases q0
  obtain ⟨kind, q1, _, _⟩ := DataW.trod_int Tryz.underlying3 e1
  cases q1
  obtain ⟨auA, auN, auc, auL, rfl, aur, aun, aum, aux, _⟩ := open_names e2
  obtain ⟨edA, edN, edc, edL, rfl, edr, edn, edm, edx, _⟩ := open_names e3
  obtain ⟨ti, q4, _, z4⟩ := DataW.trod_string Tryz.underlying9 e4
  cases q4
  obtain ⟨co, q5, _, z5⟩ := DataW.trod_string Tryz.underlying9 e5
  cases q5
  obtain ⟨pu, q6, _, z6⟩ := DataW.trod_string Tryz.underlying9 e6
  cases q6
  obtain ⟨w0, w1, w2, w3, m0, t0, t1, t2, t3⟩ := trod_one4 Tryz.underlying79 (by kernel_rfl) e7
  obtain ⟨y, u0, _, _⟩ := DataW.trod_int Tryz.underlying3 t0
  obtain ⟨m, u1, _, _⟩ := DataW.trod_int Tryz.underlying3 t1
  obtain ⟨d, u2, _, _⟩ := DataW.trod_int Tryz.underlying3 t2
  obtain ⟨ci, u3, _⟩ := DataW.trod_bool Tryz.underlying4 t3
  cases u0; cases u1; cases u2; cases u3
  obtain ⟨vol, q8, _, _⟩ := DataW.trod_int Tryz.underlying3 e8
  cases q8
  obtain ⟨pa, q9, _, z9⟩ := DataW.trod_string Tryz.underlying9 e9
  cases q9
  obtain ⟨cr, q10, _, z10⟩ := DataW.trod_string Tryz.underlying9 e10
  cases q10
  exact ⟨⟨key, kind, auA, auN, auc, auL, edA, edN, edc, edL, ti, co, pu, y, m, d, ci, vol, pa, cr⟩, rfl, ⟨aur, aun, edr, edn⟩, z0, aum, aux, edm, edx, z4, z5, z6, z9, z10⟩
theorem arr14 {cs : Array Value} (h : cs.size = 14) : ∃ c0 c1 c2 c3 c4 c5 c6 c7 c8 c9 c10 c11 c12 c13, cs = #[c0, c1, c2, c3, c4, c5, c6, c7, c8, c9, c10, c11, c12, c13] := by
  obtain ⟨l⟩ := cs
  match l, h with
  | [c0, c1, c2, c3, c4, c5, c6, c7, c8, c9, c10, c11, c12, c13], _ => exact ⟨_, _, _, _, _, _, _, _, _, _, _, _, _, _, rfl⟩
set_option maxRecDepth 100000 in
theorem open_entry {H : Type} {enc : TypeId × Value → H} {W : World} {base b0 : Nat} {r : Reach} {held : Bool} {v : Value} {d : DataW H} {ps : List MemPlace} (hv : Value.okWide Tryz.prog W r b0 81 v) (h : DataW.Trod enc Tryz.prog W base (fun _ => true) held 81 v d ps) :
    ∃ e : En, v = .agg e.cs ∧ e.Rd W ∧ e.Lim := by
  obtain ⟨cs, rfl, hsz⟩ := okWide_struct Tryz.underlying81 hv
  obtain ⟨c0, c1, c2, c3, c4, c5, c6, c7, c8, c9, c10, c11, c12, c13, rfl⟩ := arr14 (hsz.trans k14)
  obtain ⟨fuel, hf⟩ := h
  have e1 : (Value.agg #[c0, c1, c2, c3, c4, c5, c6, c7, c8, c9, c10, c11, c12, c13]).cells.toList = [c0, c1, c2, c3, c4, c5, c6, c7, c8, c9, c10, c11, c12, c13] := rfl
  rw [e1] at hf
  obtain ⟨e, he, h1, h2⟩ := cells_entry hf
  exact ⟨e, by rw [he], h1, h2⟩
end Go.Proofs.YteccmlpibbchbaaGreatDoor.OpenE
/-
  An argument of type laws.Library, opened to its parts.
-/
namespace Go.Proofs.YteccmlpibbchbaaGreatDoor.OpenE
open Go.ChangeShapes Go.WideShapes Go.ChangeAt Go.RowKit Go.Joins Go.Deep
open Strs Help Name Nms Ens OpenN
set_option linter.unusedSimpArgs false
set_option linter.unusedVariables false

instance : Inhabited En := ⟨⟨⟨#[]⟩, 0, none, 0, 0, [], none, 0, 0, [], ⟨#[]⟩, ⟨#[]⟩, ⟨#[]⟩, 0, 0, 0, false, 0, ⟨#[]⟩, ⟨#[]⟩⟩⟩
theorem k1l : Tryz.prog.cellsOf 22 = 1 := by kernel_rfl
theorem kLib : Tryz.prog.cellsOf 24 = 1 := by kernel_rfl
set_option maxRecDepth 100000 in
set_option maxHeartbeats 4000000 in
/-- a slice of entries -/
theorem open_entries {H : Type} {enc : TypeId × Value → H} {W : World} {base fuel : Nat} {held : Bool} {v : Value} {y : DataW H × List MemPlace} (hf : DataW.trod enc Tryz.prog W base (fun _ => true) held fuel 22 [v] = some y) :
    ∃ A N c L, v = .slice A N c ∧ RdE W A L ∧ L.length = N ∧ N ≤ maxLen ∧ (∀ x ∈ L, x.Lim) ∧ N ≤ c := by
  rcases open_slice Tryz.underlying22 hf with ⟨hcs, _⟩ | ⟨a, len, cap, m, n, D, Pl, hcs, _, hl, hm, hmm, _, hall⟩
  · cases hcs
    exact ⟨none, 0, 0, [], rfl, fun j x hx => (by simp at hx), rfl, Nat.zero_le _, fun x hx => (by cases hx), Nat.le_refl _⟩
  · cases hcs
    simp only [if_true] at hmm
    subst hmm
    rw [k14] at hall
    obtain ⟨b, o, spot⟩ := a
    obtain ⟨X, hX⟩ := choose_lt (n := len) (p := fun i (x : En) => (x.Rd W ∧ x.At W (some ⟨b, o, spot⟩) i) ∧ x.Lim) (fun i hi => by
      obtain ⟨cs', h1, h2⟩ := hall i (by omega)
      obtain ⟨_, hlen, hcell⟩ := World.cells?_some h1
      match cs', hlen with
      | [c0, c1, c2, c3, c4, c5, c6, c7, c8, c9, c10, c11, c12, c13], _ =>
        obtain ⟨x, hx, hr, hlim⟩ := cells_entry h2
        have e0 := hcell 0 (by omega)
        have e1 := hcell 1 (by omega)
        have e2 := hcell 2 (by omega)
        have e3 := hcell 3 (by omega)
        have e4 := hcell 4 (by omega)
        have e5 := hcell 5 (by omega)
        have e6 := hcell 6 (by omega)
        have e7 := hcell 7 (by omega)
        have e8 := hcell 8 (by omega)
        have e9 := hcell 9 (by omega)
        have e10 := hcell 10 (by omega)
        have e11 := hcell 11 (by omega)
        have e12 := hcell 12 (by omega)
        have e13 := hcell 13 (by omega)
        have hspot : spot = none := by
          obtain ⟨cs0, g1, _⟩ := hall 0 (by omega)
          obtain ⟨_, hlen0, hcell0⟩ := World.cells?_some g1
          have g0 := hcell0 0 (by omega)
          rw [List.getElem?_eq_getElem (by omega)] at g0
          simpa [Addr.add] using World.cell?_spot g0
        subst hspot
        simp only [Go.WideShapes.add_plain] at e0 e1 e2 e3 e4 e5 e6 e7 e8 e9 e10 e11 e12 e13
        have hx' := congrArg Array.toList hx
        simp only [En.cs, List.cons.injEq] at hx'
        obtain ⟨rfl, rfl, rfl, rfl, rfl, rfl, rfl, rfl, rfl, rfl, rfl, rfl, rfl, rfl, _⟩ := hx'
        exact ⟨x, ⟨hr, b, o, rfl, lt_of_cell e0, e0, e1, e2, e3, e4, e5, e6, e7, e8, e9, e10, e11, e12, e13⟩, hlim⟩)
    refine ⟨some ⟨b, o, spot⟩, len, _, (List.range len).map X, rfl, ?_, by simp, by omega, ?_, hl⟩
    · intro j x hx
      rw [List.getElem?_map] at hx
      rcases Nat.lt_or_ge j len with hj | hj
      · rw [List.getElem?_range hj] at hx
        cases hx
        exact (hX j hj).1
      · rw [List.getElem?_eq_none (by simpa using hj)] at hx
        cases hx
    · intro x hx
      obtain ⟨j, hj, rfl⟩ := List.mem_map.1 hx
      exact (hX j (List.mem_range.1 hj)).2
theorem arr1 {cs : Array Value} (h : cs.size = 1) : ∃ c0, cs = #[c0] := by
  obtain ⟨l⟩ := cs
  match l, h with
  | [c0], _ => exact ⟨_, rfl⟩
set_option maxRecDepth 100000 in
theorem open_lib {H : Type} {enc : TypeId × Value → H} {W : World} {base b0 : Nat} {r : Reach} {held : Bool} {v : Value} {d : DataW H} {ps : List MemPlace} (hv : Value.okWide Tryz.prog W r b0 24 v) (h : DataW.Trod enc Tryz.prog W base (fun _ => true) held 24 v d ps) :
    ∃ A N c L, v = .agg #[.slice A N c] ∧ RdE W A L ∧ L.length = N ∧ N ≤ maxLen ∧ (∀ x ∈ L, x.Lim) ∧ N ≤ c := by
  obtain ⟨cs, rfl, hsz⟩ := okWide_struct Tryz.underlying24 hv
  obtain ⟨c0, rfl⟩ := arr1 (hsz.trans kLib)
  obtain ⟨fuel, hf⟩ := h
  have e1 : (Value.agg #[c0]).cells.toList = [c0] := rfl
  rw [e1] at hf
  obtain ⟨xs, n, _, _, _, hxl, hx⟩ := DataW.trod_struct Tryz.underlying24 hf
  have hl : xs.length = 1 := hxl
  have g0 : DataW.trod enc Tryz.prog W base (fun _ => true) held n 22 (([c0].drop 0).take (Tryz.prog.cellsOf 22)) = xs[0]? := hx 0 _ rfl
  rw [k1l] at g0
  obtain ⟨y0, e0⟩ := one_of g0 (by omega)
  replace e0 : DataW.trod enc Tryz.prog W base (fun _ => true) held n 22 [c0] = some y0 := e0
  obtain ⟨A, N, c, L, rfl, h1, h2, h3, h4, h5⟩ := open_entries e0
  exact ⟨A, N, c, L, rfl, h1, h2, h3, h4, h5⟩
end Go.Proofs.YteccmlpibbchbaaGreatDoor.OpenE
