/-
  The two listed tables lie as laid: the forms of the operations and the words of the kinds.
-/
import Derived.Test.YtbibjcmfgpmddaaDoorNdG3
import Derived.Test.YtbibjcmfgpmddaaDoorCards
namespace Go.Proofs.YtbibjcmfgpmddaaDoor.Nd
open Go.ChangeShapes Go.WideShapes Go.ChangeAt Go.RowKit
open NdPl Ns LaidS
set_option linter.unusedSimpArgs false
set_option linter.unusedVariables false

theorem gK : Tryd.prog.globalNamed "loop.example/g00896/impl.kindWords" = some 1 := by kernel_rfl
theorem gKT : (Tryd.prog.globals[1]?).map (·.type) = some 101 := by kernel_rfl
theorem gF : Tryd.prog.globalNamed "loop.example/g00896/impl.nodeForms" = some 0 := by kernel_rfl
theorem gFT : (Tryd.prog.globals[0]?).map (·.type) = some 64 := by kernel_rfl
theorem cF : Tryd.prog.cellsOf 63 = 7 := by kernel_rfl
theorem c1s : Tryd.prog.cellsOf 9 = 1 := by kernel_rfl
theorem c1b : Tryd.prog.cellsOf 4 = 1 := by kernel_rfl
theorem c1i : Tryd.prog.cellsOf 3 = 1 := by kernel_rfl
/-- a literal's cell -/
def litV : Lit → Value
  | .string l => .string (Pl.ba l)
  | .int k n => .int k n
  | .bool b => .bool b
  | _ => .bool false
theorem lit_s {H : Type} {enc : TypeId × Value → H} {W : World} {base fuel : Nat} {held : Bool} {sp : Nat → Bool} {cs : List Value} {l : Lit} {p : List MemPlace} (h : DataW.trod enc Tryd.prog W base sp held fuel 9 cs = some (.lit l, p)) : cs = [litV l] := by
  obtain ⟨s, e1, e2, _⟩ := DataW.trod_string Tryd.underlying9 h
  have e3 := DataW.lit.inj (congrArg Prod.fst e2)
  subst e3
  rw [e1]
  show [Value.string s] = [Value.string (Pl.ba s.data.toList)]
  rw [Pl.ba_toList]
theorem lit_b {H : Type} {enc : TypeId × Value → H} {W : World} {base fuel : Nat} {held : Bool} {sp : Nat → Bool} {cs : List Value} {l : Lit} {p : List MemPlace} (h : DataW.trod enc Tryd.prog W base sp held fuel 4 cs = some (.lit l, p)) : cs = [litV l] := by
  obtain ⟨s, e1, e2⟩ := DataW.trod_bool Tryd.underlying4 h
  have e3 := DataW.lit.inj (congrArg Prod.fst e2)
  subst e3
  exact e1
theorem lit_i {H : Type} {enc : TypeId × Value → H} {W : World} {base fuel : Nat} {held : Bool} {sp : Nat → Bool} {cs : List Value} {l : Lit} {p : List MemPlace} (h : DataW.trod enc Tryd.prog W base sp held fuel 3 cs = some (.lit l, p)) : cs = [litV l] := by
  obtain ⟨s, e1, e2, _⟩ := DataW.trod_int Tryd.underlying3 h
  have e3 := DataW.lit.inj (congrArg Prod.fst e2)
  subst e3
  exact e1
/-- the forms, a row an operation -/
def formRows : List (List Lit) := [[.string [], .bool false, .bool false, .bool false, .bool false, .int .i64 0, .int .i64 0],
  [.string [], .bool true, .bool false, .bool false, .bool false, .int .i64 0, .int .i64 0],
  [.string [], .bool false, .bool false, .bool true, .bool false, .int .i64 0, .int .i64 0],
  [.string [103, 114, 111, 117, 112], .bool false, .bool false, .bool true, .bool false, .int .i64 1, .int .i64 6],
  [.string [105, 102], .bool true, .bool false, .bool false, .bool false, .int .i64 2, .int .i64 2],
  [.string [107, 105, 110, 100], .bool false, .bool true, .bool false, .bool false, .int .i64 2, .int .i64 2],
  [.string [102, 105, 114, 115, 116], .bool false, .bool false, .bool false, .bool false, .int .i64 1, .int .i64 6],
  [.string [97, 102, 102, 105, 120], .bool false, .bool false, .bool true, .bool true, .int .i64 1, .int .i64 1],
  [.string [105, 116, 97, 108, 105, 99], .bool false, .bool false, .bool false, .bool false, .int .i64 1, .int .i64 1],
  [.string [98, 111, 108, 100], .bool false, .bool false, .bool false, .bool false, .int .i64 1, .int .i64 1]]
theorem form_flat : fcells = (formRows.map (·.map litV)).flatten := rfl
theorem form_data {H : Type} : (Rows.laid_loop_example_g00896_impl_nodeForms : DataW H) = .agg (formRows.map fun r => .agg (r.map DataW.lit)) := rfl
theorem form_len : ∀ r ∈ formRows, r.length = 7 := by intro r hr; simp [formRows] at hr; rcases hr with rfl | rfl | rfl | rfl | rfl | rfl | rfl | rfl | rfl | rfl <;> rfl
theorem flat_at {α : Type} {m : Nat} {rows : List (List α)} (hm : ∀ r ∈ rows, r.length = m) {i : Nat} {r : List α} (h : rows[i]? = some r) (j : Nat) (hj : j < m) : rows.flatten[i * m + j]? = r[j]? := by
  induction rows generalizing i with
  | nil => simp at h
  | cons y s ih =>
    have hy := hm y (List.mem_cons_self ..)
    rw [List.flatten_cons]
    cases i with
    | zero =>
      simp at h
      subst h
      rw [Nat.zero_mul, Nat.zero_add, List.getElem?_append_left (by omega)]
    | succ i =>
      have h0 := ih (fun r hr => hm r (List.mem_cons_of_mem _ hr)) (i := i) (by simpa using h)
      rw [List.getElem?_append_right (by rw [hy, Nat.succ_mul]; omega), hy, show (i + 1) * m + j - m = i * m + j by rw [Nat.succ_mul]; omega]
      exact h0
set_option maxRecDepth 100000 in
/-- a form's seven cells -/
theorem form_cells {H : Type} {enc : TypeId × Value → H} {W : World} {base fuel : Nat} {held : Bool} {sp : Nat → Bool} {cs : List Value} {r : List Lit} {p : List MemPlace} (hr : r.length = 7)
    (h : DataW.trod enc Tryd.prog W base sp held fuel 63 cs = some (.agg (r.map DataW.lit), p)) : cs = r.map litV := by
  obtain ⟨xs, n, _, hx, hlen, hxl, hel⟩ := DataW.trod_struct Tryd.underlying63 h
  rw [cF] at hlen
  have hl : xs.length = 7 := hxl
  have hxs : xs.map (·.1) = r.map DataW.lit := (DataW.agg.inj (congrArg Prod.fst hx)).symm
  have key : ∀ j (hj : j < 7), ∃ q, xs[j]? = some (.lit (r[j]'(by omega)), q) := fun j hj => by
    have h1 := congrArg (fun l => l[j]?) hxs
    rw [List.getElem?_map, List.getElem?_map, List.getElem?_eq_getElem (show j < xs.length by omega), List.getElem?_eq_getElem (show j < r.length by omega), Option.map_some, Option.map_some] at h1
    have h2 := Option.some.inj h1
    exact ⟨xs[j].2, by rw [List.getElem?_eq_getElem (show j < xs.length by omega), ← h2]⟩
  match cs, hlen, r, hr, key, hel with
  | [a0, a1, a2, a3, a4, a5, a6], _, [r0, r1, r2, r3, r4, r5, r6], _, key, hel =>
    have s0 : DataW.trod enc Tryd.prog W base sp held n 9 (([a0, a1, a2, a3, a4, a5, a6].drop 0).take (Tryd.prog.cellsOf 9)) = xs[0]? := hel 0 _ rfl
    have s1 : DataW.trod enc Tryd.prog W base sp held n 4 (([a0, a1, a2, a3, a4, a5, a6].drop 1).take (Tryd.prog.cellsOf 4)) = xs[1]? := hel 1 _ rfl
    have s2 : DataW.trod enc Tryd.prog W base sp held n 4 (([a0, a1, a2, a3, a4, a5, a6].drop 2).take (Tryd.prog.cellsOf 4)) = xs[2]? := hel 2 _ rfl
    have s3 : DataW.trod enc Tryd.prog W base sp held n 4 (([a0, a1, a2, a3, a4, a5, a6].drop 3).take (Tryd.prog.cellsOf 4)) = xs[3]? := hel 3 _ rfl
    have s4 : DataW.trod enc Tryd.prog W base sp held n 4 (([a0, a1, a2, a3, a4, a5, a6].drop 4).take (Tryd.prog.cellsOf 4)) = xs[4]? := hel 4 _ rfl
    have s5 : DataW.trod enc Tryd.prog W base sp held n 3 (([a0, a1, a2, a3, a4, a5, a6].drop 5).take (Tryd.prog.cellsOf 3)) = xs[5]? := hel 5 _ rfl
    have s6 : DataW.trod enc Tryd.prog W base sp held n 3 (([a0, a1, a2, a3, a4, a5, a6].drop 6).take (Tryd.prog.cellsOf 3)) = xs[6]? := hel 6 _ rfl
    rw [c1s] at s0
    rw [c1b] at s1 s2 s3 s4
    rw [c1i] at s5 s6
    obtain ⟨q0, k0⟩ := key 0 (by decide)
    obtain ⟨q1, k1⟩ := key 1 (by decide)
    obtain ⟨q2, k2⟩ := key 2 (by decide)
    obtain ⟨q3, k3⟩ := key 3 (by decide)
    obtain ⟨q4, k4⟩ := key 4 (by decide)
    obtain ⟨q5, k5⟩ := key 5 (by decide)
    obtain ⟨q6, k6⟩ := key 6 (by decide)
    have e0 : [a0] = [litV r0] := lit_s (s0.trans k0)
    have e1 : [a1] = [litV r1] := lit_b (s1.trans k1)
    have e2 : [a2] = [litV r2] := lit_b (s2.trans k2)
    have e3 : [a3] = [litV r3] := lit_b (s3.trans k3)
    have e4 : [a4] = [litV r4] := lit_b (s4.trans k4)
    have e5 : [a5] = [litV r5] := lit_i (s5.trans k5)
    have e6 : [a6] = [litV r6] := lit_i (s6.trans k6)
    simp only [List.cons.injEq, and_true] at e0 e1 e2 e3 e4 e5 e6
    subst e0 e1 e2 e3 e4 e5 e6
    rfl
theorem forms_of_head {W : World} {rest : List (String × DataW Unit)} (h : laidMet Tryd.prog (("loop.example/g00896/impl.nodeForms", Rows.laid_loop_example_g00896_impl_nodeForms) :: rest) W) : FormTab W := by
  rw [form_data] at h
  obtain ⟨_, ⟨g', t', cs, fuel, p, q, hg', ht', hvar, hd, _, _⟩, _⟩ := h
  cases gF.symm.trans hg'
  cases gFT.symm.trans ht'
  have hcell := World.var?_cell gF hvar
  obtain ⟨xs, m, _, hx, _, hl, hel⟩ := DataW.trod_array Tryd.underlying64 hd
  have hxs : xs.map (·.1) = formRows.map fun r => (DataW.agg (r.map DataW.lit) : DataW Unit) := (DataW.agg.inj (congrArg Prod.fst hx)).symm
  have hlen : xs.length = 10 := by have := congrArg List.length hxs; simpa [formRows] using this
  have key : ∀ i j, i < 10 → j < 7 → ∀ v, fcells[i * 7 + j]? = some v → W.cell? ⟨0, i * 7 + j, none⟩ = some v := by
    intro i j hi hj v hv
    have hri : formRows[i]? = some (formRows[i]'(show i < 10 from hi)) := List.getElem?_eq_getElem _
    have hrl := form_len _ (List.mem_of_getElem? hri)
    generalize formRows[i]'(show i < 10 from hi) = r at *
    rw [form_flat, flat_at (m := 7) (by intro s hs; obtain ⟨r', hr', rfl⟩ := List.mem_map.1 hs; rw [List.length_map]; exact form_len r' hr') (i := i) (r := r.map litV) (by rw [List.getElem?_map, hri]; rfl) j hj] at hv
    have h1 := hel i hi
    rw [cF, List.getElem?_eq_getElem (by omega)] at h1
    have h2 := congrArg (fun l => l[i]?) hxs
    rw [List.getElem?_map, List.getElem?_map, hri, List.getElem?_eq_getElem (show i < xs.length by omega), Option.map_some, Option.map_some] at h2
    have h3 := Option.some.inj h2
    have h4 : DataW.trod (fun _ => ()) Tryd.prog W 0 (fun _ => true) false m 63 ((cs.toList.drop (i * 7)).take 7) = some (.agg (r.map DataW.lit), xs[i].2) := by rw [← h3]; exact h1
    have h5 := form_cells hrl h4
    rw [← h5, List.getElem?_take, if_pos hj, List.getElem?_drop] at hv
    rw [hcell, ← Array.getElem?_toList]
    exact hv
  refine ⟨?_, fun i v hv => ?_⟩
  · have h0 := key 0 0 (by decide) (by decide) _ rfl
    rcases Nat.lt_or_ge 0 W.heap.size with h | h
    · exact h
    · exfalso
      have : W.heap[0]? = none := Array.getElem?_eq_none h
      simp [World.cell?, this] at h0
  · have hi : i < 70 := (List.getElem?_eq_some_iff.1 hv).1
    have e : i / 7 * 7 + i % 7 = i := by omega
    have := key (i / 7) (i % 7) (by omega) (by omega) v (by rw [e]; exact hv)
    rw [e] at this
    exact this
theorem tabs_of {W : World} (h : laidMet Tryd.prog [("loop.example/g00896/impl.kindWords", Rows.laid_loop_example_g00896_impl_kindWords), ("loop.example/g00896/impl.nodeForms", Rows.laid_loop_example_g00896_impl_nodeForms)] W) : Tabs W :=
  ⟨forms_of_head h.tail, strTab_of_head (zs := kdw) gK gKT Tryd.underlying101 Tryd.underlying9 (by kernel_rfl) (by decide) h⟩
end Go.Proofs.YtbibjcmfgpmddaaDoor.Nd
