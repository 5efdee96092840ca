/-
  Contracts of the order of ranges: cmp.Compare of letters, cmp.Or, compareRanges; l7Before; slices.SortFunc.
-/
import Derived.Test.YtocgpoafhocbbaaDoorPgHr
import Derived.Test.YtocgpoafhocbbaaDoorPgMe
import Derived.Test.YtocgpoafhocbbaaDoorShelf
import Derived.Deep.DeepCutAuto
import Derived.Laws.Cover1
namespace Go.Proofs.YtocgpoafhocbbaaDoor.PgSo
open Go.RowKit PgPl NmPl Pg PgMe
set_option linter.unusedSimpArgs false
set_option linter.unusedVariables false

theorem nan_s (a : ByteArray) (w : World) : Calls Tryd.prog 64 #[.string a] w fun e w' => e = .returned (.bool false) ∧ w = w' := by
  go_enter Tryd.func64, Tryd.ntmps64
  go_wp2_with fail
  go_ret
  exact ⟨rfl, rfl⟩
def c3 (a b : Nat) : Int := if a < b then -1 else if b < a then 1 else 0
theorem c3_lt {a b : Nat} (h : a < b) : c3 a b = -1 := if_pos h
theorem c3_eq {a b : Nat} (h : a = b) : c3 a b = 0 := by unfold c3; rw [if_neg (by omega), if_neg (by omega)]
theorem c3_gt {a b : Nat} (h : b < a) : c3 a b = 1 := by unfold c3; rw [if_neg (by omega), if_pos h]
theorem less_lk {a b : ByteArray} (ha : lB a = true) (hb : lB b = true) : Op.bytesLess a.toList b.toList = decide (lk a < lk b) := by
  rw [Lib.toList_data, Lib.toList_data]
  unfold lB at ha hb
  unfold lk
  generalize a.data.toList = l at *
  generalize b.data.toList = m at *
  match l, m, ha, hb with
  | [], [], _, _ => rfl
  | [], [d], _, _ => simp [Op.bytesLess]
  | [c], [], _, _ => simp [Op.bytesLess]
  | [c], [d], _, _ =>
    rw [Bool.eq_iff_iff, decide_eq_true_iff]
    simp [Op.bytesLess, UInt8.lt_iff_toNat_lt]
theorem eq_lk {a b : ByteArray} (ha : lB a = true) (hb : lB b = true) : (a.toList == b.toList) = decide (lk a = lk b) := by
  by_cases h : a = b
  · subst h
    simp
  · rw [decide_eq_false (fun e => h (lk_inj ha hb e)), beq_eq_false_iff_ne, Lib.toList_data, Lib.toList_data]
    exact fun e => h (ByteArray.ext (Array.ext' e))
theorem cmp_s (a b : ByteArray) (w : World) (ha : lB a = true) (hb : lB b = true) : Calls Tryd.prog 43 #[.string a, .string b] w fun e w' => e = .returned (.int .i64 (c3 (lk a) (lk b))) ∧ w = w' := by
  have h1 := less_lk ha hb
  have h2 := eq_lk ha hb
  have HC : Hid (c3 (lk a) (lk b) = if lk a < lk b then -1 else if lk b < lk a then 1 else 0) := Lib.hid rfl
  rcases Nat.lt_trichotomy (lk a) (lk b) with h | h | h
  · rw [decide_eq_true h] at h1
    rw [if_pos h] at HC
    clear h h2 ha hb
    go_enter Tryd.func43, Tryd.ntmps43
    go_wp2_with (go_at_call 64; refine (nan_s _ _).mono ?_; rintro e w' ⟨rfl, rfl⟩)
    go_ret
    exact ⟨by rw [HC.out]; rfl, rfl⟩
  · rw [decide_eq_false (by omega)] at h1
    rw [decide_eq_true h] at h2
    rw [if_neg (by omega), if_neg (by omega)] at HC
    clear h ha hb
    go_enter Tryd.func43, Tryd.ntmps43
    go_wp2_with (go_at_call 64; refine (nan_s _ _).mono ?_; rintro e w' ⟨rfl, rfl⟩)
    go_ret
    exact ⟨by rw [HC.out]; rfl, rfl⟩
  · rw [decide_eq_false (by omega)] at h1 h2
    rw [if_neg (by omega), if_pos h] at HC
    clear h ha hb
    go_enter Tryd.func43, Tryd.ntmps43
    go_wp2_with (go_at_call 64; refine (nan_s _ _).mono ?_; rintro e w' ⟨rfl, rfl⟩)
    go_ret
    exact ⟨by rw [HC.out]; rfl, rfl⟩
theorem cmp_i (a b : Int) (w : World) : Calls Tryd.prog 44 #[.int .i64 a, .int .i64 b] w fun e w' => e = .returned (.int .i64 (Lib.compareInt a b)) ∧ w = w' :=
  (Tryd.cmp_Compare_int a b w).mono fun _ _ ⟨he, hw⟩ => ⟨he, hw.symm⟩
/-- the first of two numbers that is not 0 -/
def or2 (a b : Int) : Int := if a ≠ 0 then a else b
set_option maxHeartbeats 1000000 in
theorem or_i (g c : Nat) (a b : Int) (w : World) (h0 : w.cell? ⟨g, 0, none⟩ = some (.int .i64 a)) (h1 : w.cell? ⟨g, 1, none⟩ = some (.int .i64 b)) :
    Calls Tryd.prog 42 #[.slice (some ⟨g, 0, none⟩) 2 c] w fun e w' => e = .returned (.int .i64 (or2 a b)) ∧ w = w' := by
  have HO : Hid (or2 a b = if a ≠ 0 then a else b) := Lib.hid rfl
  go_enter Tryd.func42, Tryd.ntmps42
  go_wp2_with fail
  go_loop [5, 8] (fun x i => (i = .int .i64 0) ∨ (a = 0 ∧ i = .int .i64 1) ∨ (a = 0 ∧ b = 0 ∧ i = .int .i64 2)) (fun _ i => 2 - (intOf i).toNat)
  case atStart => exact .inl rfl
  case round =>
    rcases hrel with rfl | ⟨ha, rfl⟩ | ⟨ha, hb, rfl⟩
    · by_cases ha : a = 0
      · subst ha
        go_wp2_with fail
        go_round
        case rel => exact .inr (.inl (by simp))
        case measure => simp [intOf]
      · have hne : (a != 0) = true := by rw [bne_iff_ne]; exact ha
        rw [if_pos ha] at HO
        clear ha
        go_wp2_with fail
        go_ret
        exact ⟨by rw [HO.out]; rfl, rfl⟩
    · rw [if_neg (by simp [ha])] at HO
      by_cases hb : b = 0
      · subst hb
        go_wp2_with fail
        go_round
        case rel => exact .inr (.inr (by simp [ha]))
        case measure => simp [intOf]
      · have hne : (b != 0) = true := by rw [bne_iff_ne]; exact hb
        clear hb ha
        go_wp2_with fail
        go_ret
        exact ⟨by rw [HO.out]; rfl, rfl⟩
    · have HO3 : Hid (or2 a b = 0) := Lib.hid (by rw [HO.out, if_neg (by simp [ha]), hb])
      clear ha hb
      go_wp2_with fail
      go_ret
      exact ⟨by rw [HO3.out]; rfl, rfl⟩
/-- how two ranges are compared -/
def cf (x y : Pr) : Int := c3 (K x) (K y)
theorem cf_eq {x y : Pr} (hx : x.ok = true) (hy : y.ok = true) : or2 (c3 (lk x.l) (lk y.l)) (Lib.compareInt x.f y.f) = cf x y := by
  have h1 := K_lt hx hy
  have h2 := K_lt hy hx
  have e1 := fun h => lk_inj (okR_yes hx).1 (okR_yes hy).1 h
  have e2 : x.l = y.l → lk x.l = lk y.l := fun h => by rw [h]
  unfold cf
  rcases Nat.lt_trichotomy (lk x.l) (lk y.l) with h | h | h
  · rw [c3_lt h, c3_lt (h1.2 (.inl h))]; rfl
  · have e := e1 h
    rw [c3_eq h, show ∀ z, or2 0 z = z from fun z => rfl]
    unfold Lib.compareInt
    rcases Int.lt_trichotomy x.f y.f with h3 | h3 | h3
    · rw [if_pos h3, c3_lt (h1.2 (.inr ⟨e, h3⟩))]
    · rw [if_neg (by omega), if_neg (by omega), c3_eq]
      refine Nat.le_antisymm ((K_le hx hy).2 (.inr ⟨e, by omega⟩)) ((K_le hy hx).2 (.inr ⟨e.symm, by omega⟩))
    · rw [if_neg (by omega), if_pos (by omega), c3_gt (h2.2 (.inr ⟨e.symm, h3⟩))]
  · rw [c3_gt h, c3_gt (h2.2 (.inl h))]; rfl
open Go.Shelf Go.Lib Go.Sort in
set_option maxHeartbeats 4000000 in
theorem compare_i (x y : Pr) (w : World) (hx : x.ok = true) (hy : y.ok = true) :
    Calls Tryd.prog 28 #[prV x.l x.f x.t, prV y.l y.f y.t] w fun e w' => e = .returned (.int .i64 (cf x y)) ∧ ∃ q os', w' = grow (w.drewN q) os' := by
  have HCF := Lib.hid (cf_eq hx hy)
  have HA := Lib.hid (okR_yes hx).1
  have HB := Lib.hid (okR_yes hy).1
  clear hx hy
  generalize cf x y = r at *
  obtain ⟨l, f, t⟩ := x
  obtain ⟨l', f', t'⟩ := y
  dsimp only at *
  have HS := Lib.hid (fun w => cmp_s l l' w HA.out HB.out)
  have HI := Lib.hid (fun w => cmp_i f f' w)
  generalize c3 (lk l) (lk l') = a at *
  generalize Lib.compareInt f f' = b at *
  go_enter Tryd.func28, Tryd.ntmps28
  go_wp2_with fail
  generalize hW : (w.alloc (.cells #[.string l, .int .i64 f, .int .i64 t] 34)).alloc (.cells #[.string l', .int .i64 f', .int .i64 t'] 34) = w0 at *
  have HG : Hid (∃ q os', w0 = grow (w.drewN q) os') := Lib.hid ⟨0, _, by rw [← hW, alloc_eq_grow, alloc_eq_grow, grow_grow]; rfl⟩
  have c0 : w0.cell? ⟨w.heap.size, 0, none⟩ = some (.string l) := by rw [← hW]; simp
  have c1 : w0.cell? ⟨w.heap.size, 1, none⟩ = some (.int .i64 f) := by rw [← hW]; simp
  have d0 : w0.cell? ⟨w.heap.size + 1, 0, none⟩ = some (.string l') := by rw [← hW]; simp
  have d1 : w0.cell? ⟨w.heap.size + 1, 1, none⟩ = some (.int .i64 f') := by rw [← hW]; simp
  clear hW
  go_region_held3 (fun w' => w'.cell? ⟨w.heap.size, 0, none⟩ = some (.string l) ∧ w'.cell? ⟨w.heap.size, 1, none⟩ = some (.int .i64 f) ∧ w'.cell? ⟨w.heap.size + 1, 0, none⟩ = some (.string l') ∧ w'.cell? ⟨w.heap.size + 1, 1, none⟩ = some (.int .i64 f')) (go_keep)
    (first
      | (go_at_call 43; with_reducible refine (HS.out _).mono ?_; rintro e w7 ⟨rfl, rfl⟩)
      | (go_at_call 44; with_reducible refine (HI.out _).mono ?_; rintro e w7 ⟨rfl, rfl⟩)
      | (go_at_call 42; refine (or_i _ _ a b _ (by simp) (by simp)).mono ?_; rintro e w7 ⟨rfl, rfl⟩))
  all_goals rw [HCF.out]
  all_goals go_wp2_with fail
  all_goals go_ret
  all_goals refine ⟨rfl, ?_⟩
  all_goals obtain ⟨q, os', hq⟩ := HG.out
  all_goals exact ⟨q + 1, os'.push _, by rw [hq, alloc_eq_grow, grow_grow, Array.append_singleton]; rfl⟩

open Go.Shelf Go.Lib Go.Sort
/-- a valid range -/
abbrev Vr := {x : Pr // x.ok = true}
instance : Inhabited Vr := ⟨⟨⟨⟨#[]⟩, 1, 1⟩, by decide⟩⟩
def encV (x : Vr) : List Value := [.string x.1.l, .int .i64 x.1.f, .int .i64 x.1.t]
theorem lt_cf (x y : Vr) : ltOf (fun x y : Vr => cf x.1 y.1) x y = decide (K x.1 < K y.1) := by
  show decide (c3 (K x.1) (K y.1) < 0) = _
  rcases Nat.lt_trichotomy (K x.1) (K y.1) with h | h | h
  · rw [c3_lt h, decide_eq_true h]; rfl
  · rw [c3_eq h]; exact (decide_eq_false (by omega)).symm
  · rw [c3_gt h]; exact (decide_eq_false (by omega)).symm
theorem swo : SWO (ltOf fun x y : Vr => cf x.1 y.1) where
  irrefl x := by rw [lt_cf]; simp
  trans x y z h1 h2 := by rw [lt_cf] at *; simp at *; omega
  ntrans x y z h1 h2 := by rw [lt_cf] at *; simp at *; omega
theorem flat_pc (d : Array Vr) : (flatK encV 3 d).toList = pcells (d.toList.map (·.1)) := by
  apply List.ext_getElem?
  intro t
  have hl : (pcells (d.toList.map (·.1))).length = d.size * 3 := by rw [pcells_len, List.length_map, Array.length_toList]
  rcases Nat.lt_or_ge t (d.size * 3) with h | h
  · have hj : t / 3 < d.size := by omega
    have hx : (d.toList.map (·.1))[t / 3]? = some d[t / 3].1 := by rw [List.getElem?_map, Array.getElem?_toList, Array.getElem?_eq_getElem hj]; rfl
    obtain ⟨e0, e1, e2⟩ := pcells_at hx
    have hf : (flatK encV 3 d).toList[t]? = some (encV d[t / 3])[t % 3]! := by
      rw [Array.getElem?_toList, Array.getElem?_eq_getElem (by rw [size_flatK]; exact h)]
      have := get_flatK encV 3 d t h
      rw [getElem!_pos _ t (by rw [size_flatK]; exact h), getElem!_pos d (t / 3) hj] at this
      rw [this]
    rw [hf]
    generalize d[t / 3] = y at *
    have h3 : t % 3 = 0 ∨ t % 3 = 1 ∨ t % 3 = 2 := by omega
    rcases h3 with h3 | h3 | h3
    · have e : t / 3 * 3 = t := by omega
      rw [e] at e0
      rw [h3, e0]; rfl
    · have e : t / 3 * 3 + 1 = t := by omega
      rw [e] at e1
      rw [h3, e1]; rfl
    · have e : t / 3 * 3 + 2 = t := by omega
      rw [e] at e2
      rw [h3, e2]; rfl
  · rw [List.getElem?_eq_none (by rw [Array.length_toList, size_flatK]; exact h), List.getElem?_eq_none (by rw [hl]; exact h)]
theorem take_put (cur : Array Value) (D : Array Value) (n : Nat) (hn : D.size = n) (h : D.size ≤ cur.size) : (putCells id 0 D cur).toList.take n = D.toList := by
  apply List.ext_getElem?
  intro j
  by_cases hj : j < n
  · rw [List.getElem?_take_of_lt hj, Array.getElem?_toList, Array.getElem?_toList]
    have hjd : j < D.size := by omega
    simp [putCells, hjd, show j < cur.size by omega]
  · rw [List.getElem?_take_eq_none (by omega), List.getElem?_eq_none (by rw [Array.length_toList]; omega)]
theorem heap_put {w : World} {g n : Nat} {os : Array Obj} {cur : Array Value} {e : TypeId} (D : Array Value) (hb : w.heap[g]? = some (.cells cur e (0, 0))) :
    (grow (putRow id (Sort.ahead w n) g 0 D) os).heap[g]? = some (.cells (putCells id 0 D cur) e (0, 0)) := by
  have hg : g < w.heap.size := (Array.getElem?_eq_some_iff.1 hb).1
  rw [heap_grow_old _ _ (by simpa using hg)]
  simp [putRow, mapBlock, Sort.ahead, Array.getElem?_modify, hb, onCells]
theorem grown_put {w : World} {g n : Nat} {os : Array Obj} (D : Array Value) : w.grownBy (grow (putRow id (Sort.ahead w n) g 0 D) os) (some g) := by
  refine ⟨rfl, rfl, rfl, by simp, fun k hk hne => ?_⟩
  rw [heap_grow_old _ _ (by simpa using hk)]
  have : g ≠ k := fun e => hne (by rw [e])
  simp [putRow, mapBlock, Sort.ahead, Array.getElem?_modify, this]

set_option maxRecDepth 100000 in
theorem sort_i {base : Nat} {e : TypeId} (g c n : Nat) (L : List Pr) (w : World) (hown : w.ownsRow base e 3 (.slice (some ⟨g, 0, none⟩) n c) n (pcells L)) (hok : ∀ x ∈ L, x.ok = true) (h8 : n ≤ 8) :
    Calls Tryd.prog 27 #[.slice (some ⟨g, 0, none⟩) n c, .func (.func 28) #[] #[]] w fun r w' => r = .returned (.tuple #[]) ∧ ∃ S, S.Perm L ∧ Sorted S ∧ w'.ownsRow base e 3 (.slice (some ⟨g, 0, none⟩) n c) n (pcells S) ∧ w.grownBy w' (some g) := by
  have hLn : L.length = n := by have := hown.1; rw [pcells_len] at this; omega
  obtain ⟨D, hD⟩ : ∃ D : Array Vr, D.toList.map (·.1) = L := ⟨(L.attachWith _ hok).toArray, by simp⟩
  have hDn : D.size = n := by rw [← hLn, ← hD, List.length_map, Array.length_toList]
  have hfl : (flatK encV 3 D).toList = pcells L := by rw [flat_pc, hD]
  have hcur := hown.2
  rcases hcur with ⟨h0, _⟩ | ⟨g', cap, cur, h0, hbase, hb, h1, h2, h3, h4⟩
  · cases h0
  · cases h0
    have hg : g < w.heap.size := (Array.getElem?_eq_some_iff.1 hb).1
    have eg : ∀ args w, (callFunc 28 args).run Tryd.prog w = .ok (.enter 28 args) w := enters_of Tryd.func28 (by kernel_rfl) rfl
    have hH : HoldsK encV 3 w g 0 D := by
      intro j hj
      rw [size_flatK, hDn] at hj
      have h5 := World.ownsRow.cellAt hown j hj
      have h6 := World.ownsRow.frozenAt hown j
      refine ⟨?_, by rw [Nat.zero_add]; exact h6⟩
      rw [Nat.zero_add, h5, ← hfl, Array.getElem?_toList, getElem!_pos _ j (by rw [size_flatK, hDn]; exact hj), Array.getElem?_eq_getElem (by rw [size_flatK, hDn]; exact hj)]
      rfl
    have hcmp : CmpLays Tryd.prog 28 #[] encV 3 (fun x y => cf x.1 y.1) g 0 D.size w := fun m os dk _ x y => compare_i x.1 y.1 _ x.2 y.2
    have hlen : ∀ (n : Nat) (W : World), n ≤ 12 → Calls Tryd.prog 41 #[.int .u64 n] W fun e w' => (∃ l : Int, e = .returned (.int .i64 l)) ∧ w' = W := fun n W h => (Tryd.bits_Len n W (by omega) (by omega)).mono fun _ _ ⟨he, hw⟩ => ⟨⟨_, he⟩, hw⟩
    have hcon := AnyQ.slices_SortFunc_small_sorted Tryd.sortPr 3 Tryd.isAgg34 Tryd.sizeOf34 encV (fun _ => rfl) (fun x v hv => by simp [encV] at hv; rcases hv with rfl | rfl | rfl <;> rfl) (fun x y => cf x.1 y.1) 28 #[] swo g 0 c D w eg hcmp hH hg (by omega) hlen
    rw [hDn] at hcon
    refine Calls.mono (P := Tryd.prog) hcon ?_
    rintro r w' ⟨rfl, d', m, os, hp, hs, rfl⟩
    rw [← hDn] at hp hs
    have hd' : d'.size = n := hp.1.trans hDn
    refine ⟨rfl, d'.toList.map (·.1), ?_, ?_, ?_, grown_put _⟩
    · rw [← hD]
      refine List.Perm.map _ ?_
      have := hp.2.2
      rw [← hp.1, Array.extract_size] at this
      rw [hp.1, Array.extract_size] at this
      exact this
    · refine List.pairwise_iff_getElem.2 fun i j hi hj hij => ?_
      rw [List.length_map, Array.length_toList] at hi hj
      have h5 := hs i j (Nat.zero_le _) hij (by rw [hDn, ← hd']; exact hj)
      rw [lt_cf, decide_eq_false_iff_not, getElem!_pos d' i hi, getElem!_pos d' j hj] at h5
      unfold Le
      rw [List.getElem_map, List.getElem_map, Array.getElem_toList, Array.getElem_toList]
      omega
    · have hz : (flatK encV 3 d').size = n * 3 := by rw [size_flatK, hd']
      refine ⟨by rw [pcells_len, List.length_map, Array.length_toList, hd'], .inr ⟨g, c, _, rfl, hbase, heap_put _ hb, h1, h2, by simpa [putCells] using h3, ?_⟩⟩
      rw [take_put cur _ (n * 3) hz (by rw [hz, h3]; exact Nat.mul_le_mul_right _ h1), flat_pc]
end Go.Proofs.YtocgpoafhocbbaaDoor.PgSo
