/-
  slices.Insert of one element at a slice of markPair that the call owns.
-/
import Derived.Test.YtljbbmefemfjpaaRows
import Derived.WalkKit
import Derived.Lib.Hide
import Derived.Lib.SliceRun
import Derived.Lib.AppendZeros
import Derived.Lib.AppendZerosOnto
import Derived.Lib.Overlaps
import Derived.Laws.Externs
import Derived.Laws.IdiomCopy
import Derived.Laws.CopyRow
import Derived.Laws.CopyOwn
import Derived.Laws.NewBlocks
import Derived.Deep.AppendLies
import Derived.Shelf.Spec.SlicesInsert
import Derived.Below
namespace Go.Proofs.Ytljbbmefemfjpaa.QtIn
open Go.RowKit Go.Lib Go.Shelf
set_option linter.unusedSimpArgs false
set_option linter.unusedVariables false

/-- copy of m elements of k cells to a place in a block -/
theorem run_copy_to {P : Program} (w : World) (dT sT ty elem : TypeId) (g o dLen dCap : Nat) (a : Addr) (sLen sCap k m : Nat) (cur : Array Value) (t : TypeId) (cs : List Value)
    (hu : P.underlying dT = some (.slice elem)) (hs : (P.info? elem).map (·.size) = some k) (hg : w.heap[g]? = some (.cells cur t (0, 0))) (hm : Nat.min sLen dLen = m) (hn : cs.length = m * k)
    (hsrc : ∀ j v, cs[j]? = some v → w.cell? (a.add j) = some v) (hfit : o + cs.length ≤ cur.size) (h1 : ∀ v ∈ cs, v.oneCell' = true) :
    (Builtin.copy_ #[dT, sT] ty #[.slice (some ⟨g, o, none⟩) dLen dCap, .slice (some a) sLen sCap]).run P w =
      .ok (goInt m) (w.setRow g (cur.toList.take o ++ cs ++ cur.toList.drop (o + cs.length)).toArray) := by
  have hl := run_loadCells_list (P := P) w a cs hsrc
  have hst := run_storeCells_at P g o t cs 0 cur w hg (by simpa using hfit) h1
  cases hq : P.info? elem with
  | none => simp [hq] at hs
  | some i =>
    have hi : i.size = k := by simpa [hq] using hs
    rw [hn] at hl hst
    simp [Builtin.copy_, run_underlying hu, Builtin.lenOf, Builtin.firstCells, sizeOf, typeInfo, hq, hi, hm, hl, hst, hn]

theorem infoMp : (Try.prog.info? 56).map (fun i => (i.zero, i.size, i.bytes)) = some (some (.agg #[.int .i64 0, .int .i64 0]), 2, 16) := by kernel_rfl
theorem info_parts {P : Program} {t : TypeId} {z : Option Value} {a b : Nat} (h : (P.info? t).map (fun i => (i.zero, i.size, i.bytes)) = some (z, a, b)) : ∃ i, P.info? t = some i ∧ i.zero = z ∧ i.size = a ∧ i.bytes = b := by
  cases e : P.info? t with
  | none => rw [e] at h; cases h
  | some i => rw [e] at h; cases h; exact ⟨i, rfl, rfl, rfl, rfl⟩

set_option maxRecDepth 100000 in
set_option maxHeartbeats 4000000 in
/-- at the end -/
theorem ins_end (base : Nat) (A : Option Addr) (c n : Nat) (xs ys : List Value) (vb : Nat) (w : World) (h : w.ownsRow base 56 2 (.slice A n c) n xs) (hn : n ≤ 1048576) (hc : n ≤ c) (hb : base ≤ w.heap.size) (hy : ys.length = 2) (hvb : ∀ j u, ys[j]? = some u → w.cell? ((⟨vb, 0, none⟩ : Addr).add j) = some u) (h1 : ∀ u ∈ ys, u.oneCell' = true) :
    Calls Try.prog 69 #[.slice A n c, .int .i64 n, .slice (some ⟨vb, 0, none⟩) 1 1] w fun e w' => ∃ g c', e = .returned (.slice (some ⟨g, 0, none⟩) (n + 1) c') ∧ w'.ownsRow base 56 2 (.slice (some ⟨g, 0, none⟩) (n + 1) c') (n + 1) (xs ++ ys) ∧ w.grownBy w' (Value.slice A n c).ownBlock ∧ g < w'.heap.size ∧ ((Value.slice A n c).ownBlock = some g ∨ w.heap.size ≤ g) := by
  obtain ⟨i0, hi, hz0, hz1, hz2⟩ := info_parts infoMp
  go_enter Try.func69, Try.ntmps69
  go_wp2_with (at_builtin; refine wpList_append_lies _ rfl _ _ 50 rfl base 56 i0 _ 2 16 Try.underlying50 hi hz0 hz1 hz2 rfl (by decide) (.slice A n c) n xs rfl h ⟨vb, 0, none⟩ 1 1 ys rfl (by rw [hy]) hvb h1 (by decide) (by unfold maxLen; omega) (by omega) hb _ rfl ?_; intro g c8 w8 hown hgrow hat hlt)
  all_goals go_ret
  all_goals exact ⟨_, _, rfl, hown, by (first | exact hgrow | (cases A <;> exact hgrow)), hlt, by (first | (rcases hat with h9 | h9; exact .inl h9; exact .inr (by omega)) | (rcases hat with h9 | h9; exact .inl (by cases A <;> exact h9); exact .inr (by omega)))⟩

set_option maxRecDepth 100000 in
set_option maxHeartbeats 4000000 in
/-- inside, with room -/
theorem ins_room (base g c n i : Nat) (xs ys : List Value) (vb kV : Nat) (tV : TypeId) (w : World) (h : w.ownsRow base 56 2 (.slice (some ⟨g, 0, none⟩) n c) n xs) (hi : i < n) (hn : n ≤ 1048576) (hc : n + 1 ≤ c) (hy : ys.length = 2) (hvb : ∀ j u, ys[j]? = some u → w.cell? ((⟨vb, 0, none⟩ : Addr).add j) = some u) (h1 : ∀ u ∈ ys, u.oneCell' = true) (h1x : ∀ u ∈ xs, u.oneCell' = true) (hne : vb ≠ g)
    (hsv : w.shape? vb = some (tV, kV)) (hfa : w.frozen? ⟨vb, 0, none⟩ = false) (hfe : w.frozen? ⟨vb, kV, none⟩ = false) :
    Calls Try.prog 69 #[.slice (some ⟨g, 0, none⟩) n c, .int .i64 i, .slice (some ⟨vb, 0, none⟩) 1 1] w fun e w' => e = .returned (.slice (some ⟨g, 0, none⟩) (n + 1) c) ∧ w'.ownsRow base 56 2 (.slice (some ⟨g, 0, none⟩) (n + 1) c) (n + 1) (xs.take (i * 2) ++ ys ++ xs.drop (i * 2)) ∧ w.grownBy w' (some g) := by
  obtain ⟨i0, hi0, hz0, hz1, hz2⟩ := info_parts infoMp
  have hsz : (Try.prog.info? 56).map (·.size) = some 2 := by rw [hi0]; simp [hz1]
  have hz1' : ¬ ((i : Int) = (n : Int)) := by omega
  have hlen := h.1
  rcases h.2 with ⟨h0, _⟩ | ⟨g', cap, cur, h0, hbg, hg, hnc, hcm, hcs, hcx⟩
  · cases h0
  cases h0
  have hc63 : c ≤ 9223372036854775807 := by unfold maxLen at hcm; omega
  have hsb : w.shape? g = some (56, c * 2) := by simp [World.shape?, hg, hcs]
  have hov : ∀ lb cb, (callFunc 74 #[.slice (some ⟨vb, 0, none⟩) 1 1, .slice (some ⟨g, (i + 1) * 2, none⟩) lb cb]).run Try.prog w = .ok (.value (.bool false)) w := fun lb cb => by
    rw [run_callFunc_extern Try.func74 (by kernel_rfl) (by kernel_rfl) (by kernel_rfl) (e := Extern.SlicesOverlaps.overlaps #[50, 50] #[4]) (by kernel_rfl),
      Lib.run_overlaps_apart w 50 4 56 Try.underlying50 2 (fun w => by simp [Go.sizeOf, typeInfo, hi0, hz1]) ⟨vb, 0, none⟩ ⟨g, (i + 1) * 2, none⟩ 1 1 lb cb hne tV _ kV _ hsv hsb (by omega) hfa hfe]
    rfl
  have hxd : (xs.drop (i * 2)).length = (n - i) * 2 := by rw [List.length_drop]; omega
  have hxt : (xs.take (i * 2)).length = i * 2 := by rw [List.length_take]; omega
  have hcl : cur.toList.length = c * 2 := by rw [Array.length_toList, hcs]
  have hgd : w.drew.heap[g]? = some (.cells cur 56 (0, 0)) := hg
  have hcell : ∀ j u, (xs.drop (i * 2))[j]? = some u → w.drew.cell? ((⟨g, i * 2, none⟩ : Addr).add j) = some u := fun j u hu => by
    rw [Go.WideShapes.add_plain]
    have hj := (List.getElem?_eq_some_iff.1 hu).1
    rw [List.getElem?_drop, ← hcx, List.getElem?_take, if_pos (by omega)] at hu
    show w.cell? _ = _
    simp [World.cell?, hg]
    simpa using hu
  obtain ⟨C1, hC1⟩ : ∃ C1 : List Value, C1 = cur.toList.take ((i + 1) * 2) ++ xs.drop (i * 2) ++ cur.toList.drop ((i + 1) * 2 + (xs.drop (i * 2)).length) := ⟨_, rfl⟩
  have hcp1 : ∀ ty dc sc, (Builtin.copy_ #[50, 50] ty #[.slice (some ⟨g, (i + 1) * 2, none⟩) (n - i) dc, .slice (some ⟨g, i * 2, none⟩) (n + 1 - i) sc]).run Try.prog w.drew = .ok (goInt (n - i : Nat)) (w.drew.setRow g C1.toArray) := fun ty dc sc => by
    rw [hC1]
    exact run_copy_to w.drew _ _ ty 56 g ((i + 1) * 2) (n - i) dc ⟨g, i * 2, none⟩ (n + 1 - i) sc 2 (n - i) cur 56 (xs.drop (i * 2)) Try.underlying50 hsz hgd (by simp only [Nat.min_def]; split <;> omega) hxd hcell (by rw [hxd, hcs]; omega) (fun v hv => h1x v (List.mem_of_mem_drop hv))
  have hC1l : C1.length = c * 2 := by rw [hC1]; simp only [List.length_append, List.length_take, List.length_drop, hcl]; omega
  obtain ⟨W1, hW1⟩ : ∃ W1, W1 = w.drew.setRow g C1.toArray := ⟨_, rfl⟩
  have hg1 : W1.heap[g]? = some (.cells C1.toArray 56 (0, 0)) := by rw [hW1]; exact setRow_heap _ _ _ _ _ _ hgd
  obtain ⟨C2, hC2⟩ : ∃ C2 : List Value, C2 = C1.take (i * 2) ++ ys ++ C1.drop (i * 2 + ys.length) := ⟨_, rfl⟩
  have hcp2 : ∀ ty dc, (Builtin.copy_ #[50, 50] ty #[.slice (some ⟨g, i * 2, none⟩) (n + 1 - i) dc, .slice (some ⟨vb, 0, none⟩) 1 1]).run Try.prog W1 = .ok (goInt (1 : Nat)) (W1.setRow g C2.toArray) := fun ty dc => by
    rw [hC2]
    have := run_copy_to W1 50 50 ty 56 g (i * 2) (n + 1 - i) dc ⟨vb, 0, none⟩ 1 1 2 1 C1.toArray 56 ys Try.underlying50 hsz hg1 (by simp only [Nat.min_def]; split <;> omega) (by rw [hy]) (fun j u hu => by
        rw [hW1, cell_setRow_other _ _ _ _ (by rw [Go.WideShapes.add_plain]; exact hne)]
        exact hvb j u hu) (by rw [hy, List.size_toArray, hC1l]; omega) h1
    exact this
  have hfin : W1.setRow g C2.toArray |>.ownsRow base 56 2 (.slice (some ⟨g, 0, none⟩) (n + 1) c) (n + 1) (xs.take (i * 2) ++ ys ++ xs.drop (i * 2)) := by
    refine ⟨by rw [List.length_append, List.length_append, hxt, hxd, hy]; omega, .inr ⟨g, c, C2.toArray, rfl, hbg, setRow_heap _ _ _ _ _ _ hg1, hc, hcm, ?_, ?_⟩⟩
    · rw [List.size_toArray, hC2]; simp only [List.length_append, List.length_take, List.length_drop, hC1l, hy]; omega
    · rw [List.toList_toArray, hC2, hC1]
      have e1 : cur.toList.take (i * 2) = xs.take (i * 2) := by rw [← hcx, List.take_take, Nat.min_eq_left (by omega)]
      have e2 : (cur.toList.take ((i + 1) * 2)).length = (i + 1) * 2 := by rw [List.length_take, hcl]; omega
      have e3 : (cur.toList.take ((i + 1) * 2) ++ xs.drop (i * 2) ++ cur.toList.drop ((i + 1) * 2 + (xs.drop (i * 2)).length)).take (i * 2) = xs.take (i * 2) := by
        rw [List.append_assoc, List.take_append_of_le_length (by rw [e2]; omega), List.take_take, Nat.min_eq_left (by omega), e1]
      have e4 : (cur.toList.take ((i + 1) * 2) ++ xs.drop (i * 2) ++ cur.toList.drop ((i + 1) * 2 + (xs.drop (i * 2)).length)).drop (i * 2 + ys.length) = xs.drop (i * 2) ++ cur.toList.drop ((i + 1) * 2 + (xs.drop (i * 2)).length) := by
        rw [List.append_assoc, hy, show i * 2 + 2 = (i + 1) * 2 by omega]
        exact List.drop_left' e2
      rw [e3, e4, ← List.append_assoc]
      exact List.take_left' (by rw [List.length_append, List.length_append, hxt, hxd, hy]; omega)
  have hgro : w.grownBy (W1.setRow g C2.toArray) (some g) := by
    rw [hW1]
    refine ⟨rfl, rfl, rfl, ?_, fun k hk hne' => ?_⟩
    · simp
    · have hkg : k ≠ g := fun e => hne' (by rw [e])
      rw [setRow_other _ _ _ _ hkg, setRow_other _ _ _ _ hkg]
      rfl
  rw [← hW1] at hcp1
  have HF := Lib.hid hfin
  have HG := Lib.hid hgro
  have hin : (i : Int) ≤ (n : Int) + 1 := by omega
  have hw1 : IntKind.i64.wrap ((i : Int) + 1) = (i : Int) + 1 := by rw [IntKind.wrap_i64]; omega
  have hb1 : (0 : Int) ≤ (i : Int) + 1 := by omega
  have htn : ((i : Int) + 1).toNat = i + 1 := by omega
  have hb2 : ¬ (c = i + 1) := by omega
  have hb3 : (i : Int) ≤ (n : Int) := by omega
  have hinN : i ≤ n := by omega
  have mixed : Try.prog.follows Departure.mixedOrders = true := by kernel_rfl
  have hb4 : ¬ (c = i) := by omega
  clear hfin hgro hC1 hC2 hW1 hg1 hcell hgd hcl hC1l hxd hxt hcx hcs hg hlen h hsb
  go_enter Try.func69, Try.ntmps69
  go_wp2_with (simp only [hov])
  go_region_law_o (refine step_copy_runI rfl _ _ 50 50 rfl (.slice (some ⟨g, (i + 1) * 2, none⟩) (n - i) (c - (i + 1))) (.slice (some ⟨g, i * 2, none⟩) (n + 1 - i) (c - i)) (by simp [Act.eval, Act.put]) (by simp [Act.eval, Act.put]) (hcp1 3 (c - (i + 1)) (c - i)) ?_)
  go_wp2_with (at_builtin; refine wpList_copy_runI _ rfl _ _ 50 50 rfl _ _ rfl rfl (hcp2 _ _) ?_)
  go_ret
  exact ⟨rfl, HF.out, HG.out⟩

theorem cell_heap {W W' : World} (h : W.heap = W'.heap) (a : Addr) : W.cell? a = W'.cell? a := by
  unfold World.cell?
  rw [h]
set_option maxRecDepth 100000 in
set_option maxHeartbeats 4000000 in
/-- inside, without room -/
theorem ins_grow (base g c n i : Nat) (xs ys : List Value) (vb : Nat) (w : World) (h : w.ownsRow base 56 2 (.slice (some ⟨g, 0, none⟩) n c) n xs) (hi : i < n) (hn : n ≤ 1048576) (hc : c < n + 1) (hb : base ≤ w.heap.size) (hy : ys.length = 2) (hvw : vb < w.heap.size) (hvb : ∀ j u, ys[j]? = some u → w.cell? ((⟨vb, 0, none⟩ : Addr).add j) = some u) (h1 : ∀ u ∈ ys, u.oneCell' = true) (h1x : ∀ u ∈ xs, u.oneCell' = true) :
    Calls Try.prog 69 #[.slice (some ⟨g, 0, none⟩) n c, .int .i64 i, .slice (some ⟨vb, 0, none⟩) 1 1] w fun e w' => ∃ g' c', e = .returned (.slice (some ⟨g', 0, none⟩) (n + 1) c') ∧ w'.ownsRow base 56 2 (.slice (some ⟨g', 0, none⟩) (n + 1) c') (n + 1) (xs.take (i * 2) ++ ys ++ xs.drop (i * 2)) ∧ w.grownBy w' (some g) ∧ g' < w'.heap.size ∧ w.heap.size ≤ g' := by
  obtain ⟨i0, hi0, hz0, hz1, hz2⟩ := info_parts infoMp
  have hsz : (Try.prog.info? 56).map (·.size) = some 2 := by rw [hi0]; simp [hz1]
  have hz1' : ¬ ((i : Int) = (n : Int)) := by omega
  have hlen := h.1
  rcases h.2 with ⟨h0, _⟩ | ⟨g', cap, cur, h0, hbg, hg, hnc, hcm, hcs, hcx⟩
  · cases h0
  cases h0
  obtain rfl : c = n := by omega
  have hgw : g < w.heap.size := (Array.getElem?_eq_some_iff.1 hg).1
  have hxd : (xs.drop (i * 2)).length = (c - i) * 2 := by rw [List.length_drop]; omega
  have hxt : (xs.take (i * 2)).length = i * 2 := by rw [List.length_take]; omega
  have hkk : (c : Int) + 1 - (i : Int) = ((c + 1 - i : Nat) : Int) := by omega
  have hik : i + (c + 1 - i) = c + 1 := by omega
  have hxs : ∀ j u, xs[j]? = some u → w.cell? ⟨g, j, none⟩ = some u := fun j u hu => by
    have hj := (List.getElem?_eq_some_iff.1 hu).1
    rw [← hcx, List.getElem?_take, if_pos (by omega)] at hu
    simp [World.cell?, hg]
    simpa using hu
  have hold : (Builtin.firstCells i0.size i (.slice (some ⟨g, 0, none⟩) i c)).run Try.prog w.drew = .ok (xs.take (i * 2)).toArray w.drew := by
    rw [hz1]
    exact run_firstCells_some w.drew 2 i ⟨g, 0, none⟩ i c (xs.take (i * 2)) hxt (fun j v hj => by
      rw [Go.WideShapes.add_plain, Nat.zero_add]
      rw [List.getElem?_take] at hj
      split at hj
      · exact hxs j v hj
      · cases hj)
  obtain ⟨G, hG⟩ : ∃ G, grownCap w (c + 1) c 56 = G := ⟨_, rfl⟩
  have hGn : c + 1 ≤ G := by rw [← hG]; exact grownCap_ge w _ _ _
  have hGm : G ≤ maxLen := by rw [← hG]; exact grownCap_le_maxLen w (c + 1) c 56 (by unfold maxLen; omega)
  have hG63 : G ≤ 9223372036854775807 := by have := hGm; unfold maxLen at this; omega
  obtain ⟨ROW, hROW⟩ : ∃ ROW : Array Value, (xs.take (i * 2)).toArray ++ Builtin.zeroCells (Value.agg #[.int .i64 0, .int .i64 0]).cells (c + 1 - i) ++ Builtin.zeroCells (Value.agg #[.int .i64 0, .int .i64 0]).cells (G - (c + 1)) = ROW := ⟨_, rfl⟩
  have hRl : ROW.size = G * 2 := by
    rw [← hROW]
    simp only [Array.size_append, List.size_toArray, hxt, Builtin.zeroCells, Value.cells, Array.size_map, Array.size_range]
    simp
    omega
  have hRt : ROW.toList.take (i * 2) = xs.take (i * 2) := by
    rw [← hROW, Array.append_assoc, Array.toList_append]
    simp only []
    exact List.take_left' hxt
  have hrz : ∀ ty, (Builtin.append_ #[50, 3] ty #[.slice (some ⟨g, 0, none⟩) i c, .int .i64 ((c : Int) + 1 - (i : Int))]).run Try.prog w =
      .ok (.slice (some ⟨w.heap.size, 0, none⟩) (c + 1) G) (w.drew.alloc (.cells ROW 56)) := fun ty => by
    have h := Lib.run_append_grow_zeros w 50 3 ty 56 i0 _ .i64 .i64 Try.underlying50 Try.underlying3 hi0 hz0 (some ⟨g, 0, none⟩) i c (xs.take (i * 2)) hold (c + 1 - i) (by omega) (by omega) (by omega) (by omega) (by rw [hz2]; omega) (by rw [hz2, hik]; exact growslice_fits (by omega) (by omega))
    rw [hik, hG, hROW] at h
    rw [hkk]
    exact h
  obtain ⟨H, hH⟩ : ∃ H, w.heap.size = H := ⟨_, rfl⟩
  rw [hH] at hrz
  have hgH : g ≠ H := by omega
  have hvH : vb ≠ H := by omega
  obtain ⟨W1, hW1⟩ : ∃ W1, w.drew.alloc (.cells ROW 56) = W1 := ⟨_, rfl⟩
  have hg1 : W1.heap[H]? = some (.cells ROW 56 (0, 0)) := by rw [← hW1, ← hH]; exact heap_alloc_new w.drew _
  have hold1 : ∀ b, b < H → W1.heap[b]? = w.heap[b]? := fun b hb9 => by rw [← hW1]; exact heap_alloc_old _ _ (by rw [← hH] at hb9; exact hb9)
  obtain ⟨C1, hC1⟩ : ∃ C1 : List Value, ROW.toList.take (i * 2) ++ ys ++ ROW.toList.drop (i * 2 + ys.length) = C1 := ⟨_, rfl⟩
  have hC1l : C1.length = G * 2 := by rw [← hC1]; simp only [List.length_append, List.length_take, List.length_drop, Array.length_toList, hRl, hy]; omega
  have hcpA : ∀ W : World, W.heap = W1.heap → ∀ ty dc, (Builtin.copy_ #[50, 50] ty #[.slice (some ⟨H, i * 2, none⟩) (c + 1 - i) dc, .slice (some ⟨vb, 0, none⟩) 1 1]).run Try.prog W = .ok (goInt (1 : Nat)) (W.setRow H C1.toArray) := fun W hWh ty dc => by
    rw [← hC1]
    exact run_copy_to W 50 50 ty 56 H (i * 2) (c + 1 - i) dc ⟨vb, 0, none⟩ 1 1 2 1 ROW 56 ys Try.underlying50 hsz (by rw [hWh]; exact hg1) (by simp only [Nat.min_def]; split <;> omega) (by rw [hy]) (fun j u hu => by
        rw [← hvb j u hu, Go.WideShapes.add_plain]
        unfold World.cell?
        rw [hWh]
        show _ = _
        rw [hold1 vb (by omega)]) (by rw [hy, hRl]; omega) h1
  obtain ⟨W2, hW2⟩ : ∃ W2, W1.setRow H C1.toArray = W2 := ⟨_, rfl⟩
  have hg2 : W2.heap[H]? = some (.cells C1.toArray 56 (0, 0)) := by rw [← hW2]; exact setRow_heap _ _ _ _ _ _ hg1
  have hold2 : ∀ b, b < H → W2.heap[b]? = w.heap[b]? := fun b hb9 => by rw [← hW2, setRow_other _ _ _ _ (by omega)]; exact hold1 b hb9
  obtain ⟨C2, hC2⟩ : ∃ C2 : List Value, C1.take ((i + 1) * 2) ++ xs.drop (i * 2) ++ C1.drop ((i + 1) * 2 + (xs.drop (i * 2)).length) = C2 := ⟨_, rfl⟩
  have hcpB : ∀ W : World, W.heap = W2.heap → ∀ ty dc sc, (Builtin.copy_ #[50, 50] ty #[.slice (some ⟨H, (i + 1) * 2, none⟩) (c - i) dc, .slice (some ⟨g, i * 2, none⟩) (c - i) sc]).run Try.prog W = .ok (goInt (c - i : Nat)) (W.setRow H C2.toArray) := fun W hWh ty dc sc => by
    rw [← hC2]
    have := run_copy_to W 50 50 ty 56 H ((i + 1) * 2) (c - i) dc ⟨g, i * 2, none⟩ (c - i) sc 2 (c - i) C1.toArray 56 (xs.drop (i * 2)) Try.underlying50 hsz (by rw [hWh]; exact hg2) (by simp only [Nat.min_def]; split <;> omega) hxd (fun j u hu => by
        rw [List.getElem?_drop] at hu
        rw [← hxs _ u hu, Go.WideShapes.add_plain]
        unfold World.cell?
        rw [hWh]
        show _ = _
        rw [hold2 g (by omega)]) (by rw [hxd, List.size_toArray, hC1l]; omega) (fun v hv => h1x v (List.mem_of_mem_drop hv))
    exact this
  have hfin : ∀ W : World, W.heap = W2.heap → (W.setRow H C2.toArray).ownsRow base 56 2 (.slice (some ⟨H, 0, none⟩) (c + 1) G) (c + 1) (xs.take (i * 2) ++ ys ++ xs.drop (i * 2)) := fun W hWh => by
    refine ⟨by rw [List.length_append, List.length_append, hxt, hxd, hy]; omega, .inr ⟨H, G, C2.toArray, rfl, by omega, setRow_heap _ _ _ _ _ _ (by rw [hWh]; exact hg2), hGn, hGm, ?_, ?_⟩⟩
    · rw [List.size_toArray, ← hC2]; simp only [List.length_append, List.length_take, List.length_drop, hC1l]; omega
    · rw [List.toList_toArray, ← hC2]
      have e1 : C1.take ((i + 1) * 2) = xs.take (i * 2) ++ ys := by
        rw [← hC1, hRt]
        exact List.take_left' (by rw [List.length_append, hxt, hy]; omega)
      rw [e1]
      exact List.take_left' (by rw [List.length_append, List.length_append, hxt, hxd, hy]; omega)
  have hgro : ∀ W : World, W.heap = W2.heap → W.os = w.os → W.tape = w.tape → W.output = w.output → w.grownBy (W.setRow H C2.toArray) (some g) := fun W hWh h3 h4 h5 => by
    refine ⟨h3, h4, h5, ?_, fun k hk hne' => ?_⟩
    · have : W2.heap.size = w.heap.size + 1 := by rw [← hW2, ← hW1]; simp
      rw [size_setRow, hWh, this]
      exact Nat.le_succ _
    · rw [setRow_other _ _ _ _ (by omega), hWh]
      exact hold2 k (by omega)
  have hlast : ∀ W : World, W.heap = W2.heap → H < (W.setRow H C2.toArray).heap.size := fun W hWh => by
    have : W2.heap.size = w.heap.size + 1 := by rw [← hW2, ← hW1]; simp
    rw [size_setRow, hWh, this]
    omega
  have HF := Lib.hid hfin
  have HG := Lib.hid hgro
  have HLa := Lib.hid hlast
  have hin : (i : Int) ≤ (c : Int) := by omega
  have hinN : i ≤ c := by omega
  have hw1 : IntKind.i64.wrap ((i : Int) + 1) = (i : Int) + 1 := by rw [IntKind.wrap_i64]; omega
  have hb1 : (0 : Int) ≤ (i : Int) + 1 := by omega
  have htn : ((i : Int) + 1).toNat = i + 1 := by omega
  have hGi : ¬ (G = i) := by omega
  have hGim : ¬ (G = i + 1) := by omega
  have hci : ¬ (c = i) := by omega
  have mixed : Try.prog.follows Departure.mixedOrders = true := by kernel_rfl
  subst hW2
  subst hW1
  have hE : ((w.alloc (.cells ROW 56)).drew).heap = (w.drew.alloc (.cells ROW 56)).heap := rfl
  clear hfin hgro hlast hC1 hC2 hg1 hg2 hold1 hold2 hC1l hxd hxt hcx hcs hg hlen h hRl hRt hROW hG hkk hik hold hxs hb hvb h1 h1x hi0 hz0
  go_enter Try.func69, Try.ntmps69
  go_wp2_with (first
    | (at_builtin; refine Lib.wpList_append_run _ rfl _ _ _ _ rfl _ _ rfl rfl _ _ (hrz _) ?_)
    | (at_builtin; refine wpList_copy_runI _ rfl _ _ 50 50 rfl _ _ rfl rfl (hcpA _ rfl _ _) ?_))
  go_region_law_o (refine step_copy_runI rfl _ _ 50 50 rfl (.slice (some ⟨H, (i + 1) * 2, none⟩) (c - i) (G - (i + 1))) (.slice (some ⟨g, i * 2, none⟩) (c - i) (c - i)) (by simp [Act.eval, Act.put]) (by simp [Act.eval, Act.put]) (hcpB (((w.alloc (.cells ROW 56)).drew.setRow H C1.toArray).drew) rfl 3 (G - (i + 1)) (c - i)) ?_)
  go_wp2_with fail
  go_ret
  exact ⟨H, G, rfl, HF.out _ rfl, HG.out _ rfl rfl rfl rfl, HLa.out _ rfl, Nat.le_of_eq hH⟩

/-- slices.Insert of an element, wherever -/
theorem ins_any (base : Nat) (A : Option Addr) (c n i : Nat) (xs ys : List Value) (vb kV : Nat) (tV : TypeId) (w : World) (h : w.ownsRow base 56 2 (.slice A n c) n xs) (hi : i ≤ n) (hn : n ≤ 1048576) (hb : base ≤ w.heap.size) (hy : ys.length = 2) (hvw : vb < w.heap.size) (hvb : ∀ j u, ys[j]? = some u → w.cell? ((⟨vb, 0, none⟩ : Addr).add j) = some u) (h1 : ∀ u ∈ ys, u.oneCell' = true) (h1x : ∀ u ∈ xs, u.oneCell' = true) (hne : (Value.slice A n c).ownBlock ≠ some vb)
    (hsv : w.shape? vb = some (tV, kV)) (hfa : w.frozen? ⟨vb, 0, none⟩ = false) (hfe : w.frozen? ⟨vb, kV, none⟩ = false) :
    Calls Try.prog 69 #[.slice A n c, .int .i64 i, .slice (some ⟨vb, 0, none⟩) 1 1] w fun e w' => ∃ g c', e = .returned (.slice (some ⟨g, 0, none⟩) (n + 1) c') ∧ w'.ownsRow base 56 2 (.slice (some ⟨g, 0, none⟩) (n + 1) c') (n + 1) (xs.take (i * 2) ++ ys ++ xs.drop (i * 2)) ∧ w.grownBy w' (Value.slice A n c).ownBlock ∧ g < w'.heap.size ∧ ((Value.slice A n c).ownBlock = some g ∨ w.heap.size ≤ g) := by
  have hlen := h.1
  by_cases hin : i = n
  · subst hin
    have hc : i ≤ c := by
      rcases h.2 with ⟨h0, _⟩ | ⟨g', cap, cur, h0, hbg, hg, hnc, _⟩
      · cases h0; exact Nat.le_refl _
      · cases h0; exact hnc
    have e1 : xs.take (i * 2) = xs := List.take_of_length_le (by omega)
    have e2 : xs.drop (i * 2) = [] := List.drop_eq_nil_of_le (by omega)
    rw [e1, e2, List.append_nil]
    exact ins_end base A c i xs ys vb w h hn hc hb hy hvb h1
  · rcases h.2 with ⟨h0, h00⟩ | ⟨g', cap, cur, h0, hbg, hg, hnc, _⟩
    · omega
    cases h0
    by_cases hr : n + 1 ≤ c
    · refine (ins_room base g' c n i xs ys vb kV tV w h (by omega) hn hr hy hvb h1 h1x (fun e => hne (by rw [e]; rfl)) hsv hfa hfe).mono ?_
      rintro e w' ⟨rfl, ho, hg'⟩
      have := (ho.lt g' rfl).2
      exact ⟨_, _, rfl, ho, hg', this, .inl rfl⟩
    · refine (ins_grow base g' c n i xs ys vb w h (by omega) hn (by omega) hb hy hvw hvb h1 h1x).mono ?_
      rintro e w' ⟨g2, c2, he, ho, hg', hl, hs9⟩
      exact ⟨g2, c2, he, ho, hg', hl, .inr hs9⟩
end Go.Proofs.Ytljbbmefemfjpaa.QtIn
