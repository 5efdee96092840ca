/-
  Contract of the laws' helper toEntryS.
-/
import Derived.Test.YtkiogbbbigmgnaaEs
namespace Go.Proofs.Ytkiogbbbigmgnaa.Ens
open Go.RowKit Pl Strs Help Name Stands SplitPl NmPl Word Part NGood Nms
set_option linter.unusedSimpArgs false
set_option linter.unusedVariables false

theorem infoEn : (Try.prog.info? 68).map (fun i => (i.zero, i.size, i.bytes)) = some (some (.agg #[.string ByteArray.empty, .int .i64 0, .slice none 0 0, .slice none 0 0, .string ByteArray.empty, .string ByteArray.empty, .string ByteArray.empty, .int .i64 0, .int .i64 0, .int .i64 0, .bool false, .int .i64 0, .string ByteArray.empty, .string ByteArray.empty]), 14, 192) := by kernel_rfl
/-- the fourteen cells of each entry -/
def ecells (L : List En) : List Value := L.flatMap fun x => x.cs.toList
theorem cs_len (x : En) : x.cs.toList.length = 14 := rfl
theorem ecells_cons (x : En) (r : List En) : ecells (x :: r) = x.cs.toList ++ ecells r := rfl
theorem ecells_len (L : List En) : (ecells L).length = L.length * 14 := by
  induction L with
  | nil => rfl
  | cons x r ih => rw [ecells_cons, List.length_append, ih, cs_len, List.length_cons]; omega
theorem ecells_at {L : List En} {j i : Nat} {x : En} (h : L[j]? = some x) (hi : i < 14) : (ecells L)[j * 14 + i]? = x.cs.toList[i]? := by
  induction L generalizing j with
  | nil => simp at h
  | cons y r ih =>
    rw [ecells_cons]
    cases j with
    | zero =>
      simp at h
      subst h
      rw [List.getElem?_append_left (by rw [cs_len]; omega)]
      congr 1
      omega
    | succ j =>
      have := ih (j := j) (by simpa using h)
      rw [List.getElem?_append_right (by rw [cs_len]; omega), cs_len, ← this]
      congr 1
      omega
theorem ecells_snoc (M : List En) (y : En) : ecells (M ++ [y]) = ecells M ++ y.cs.toList := by
  unfold ecells
  rw [List.flatMap_append]
  simp
set_option maxHeartbeats 1000000 in
theorem set14_row {M : List En} {k : Nat} {Z : List Value} (y : En) (hM : M.length = k) (hz : (k + 1) * 14 ≤ Z.length) :
    (((((((((((((((ecells M ++ Z.drop (k * 14)).set (k * 14) (.string y.key)).set (k * 14 + 1) (.int .i64 y.kind)).set (k * 14 + 2) (.slice y.auA y.auN y.auc)).set (k * 14 + 3) (.slice y.edA y.edN y.edc)).set (k * 14 + 4) (.string y.ti)).set (k * 14 + 5) (.string y.co)).set (k * 14 + 6) (.string y.pu)).set (k * 14 + 7) (.int .i64 y.y)).set (k * 14 + 8) (.int .i64 y.m)).set (k * 14 + 9) (.int .i64 y.d)).set (k * 14 + 10) (.bool y.ci)).set (k * 14 + 11) (.int .i64 y.vol)).set (k * 14 + 12) (.string y.pa)).set (k * 14 + 13) (.string y.cr)) = ecells (M ++ [y]) ++ Z.drop ((k + 1) * 14) := by
  have hl : (ecells M).length = k * 14 := by rw [ecells_len, hM]
  have hd : ∃ z0 z1 z2 z3 z4 z5 z6 z7 z8 z9 z10 z11 z12 z13, Z.drop (k * 14) = z0 :: z1 :: z2 :: z3 :: z4 :: z5 :: z6 :: z7 :: z8 :: z9 :: z10 :: z11 :: z12 :: z13 :: Z.drop ((k + 1) * 14) := by
    refine ⟨Z[k * 14], Z[k * 14 + 1], Z[k * 14 + 2], Z[k * 14 + 3], Z[k * 14 + 4], Z[k * 14 + 5], Z[k * 14 + 6], Z[k * 14 + 7], Z[k * 14 + 8], Z[k * 14 + 9], Z[k * 14 + 10], Z[k * 14 + 11], Z[k * 14 + 12], Z[k * 14 + 13], ?_⟩
    rw [List.drop_eq_getElem_cons (by omega), List.drop_eq_getElem_cons (by omega), List.drop_eq_getElem_cons (by omega), List.drop_eq_getElem_cons (by omega), List.drop_eq_getElem_cons (by omega), List.drop_eq_getElem_cons (by omega), List.drop_eq_getElem_cons (by omega), List.drop_eq_getElem_cons (by omega), List.drop_eq_getElem_cons (by omega), List.drop_eq_getElem_cons (by omega), List.drop_eq_getElem_cons (by omega), List.drop_eq_getElem_cons (by omega), List.drop_eq_getElem_cons (by omega), List.drop_eq_getElem_cons (by omega), show (k + 1) * 14 = k * 14 + 1 + 1 + 1 + 1 + 1 + 1 + 1 + 1 + 1 + 1 + 1 + 1 + 1 + 1 by omega]
  obtain ⟨z0, z1, z2, z3, z4, z5, z6, z7, z8, z9, z10, z11, z12, z13, hd⟩ := hd
  rw [hd, ecells_snoc]
  rw [List.set_append_right _ _ (by omega), List.set_append_right _ _ (by omega), List.set_append_right _ _ (by omega), List.set_append_right _ _ (by omega), List.set_append_right _ _ (by omega), List.set_append_right _ _ (by omega), List.set_append_right _ _ (by omega), List.set_append_right _ _ (by omega), List.set_append_right _ _ (by omega), List.set_append_right _ _ (by omega), List.set_append_right _ _ (by omega), List.set_append_right _ _ (by omega), List.set_append_right _ _ (by omega), List.set_append_right _ _ (by omega), hl]
  rw [show k * 14 - k * 14 = 0 by omega, show k * 14 + 1 - k * 14 = 1 by omega, show k * 14 + 2 - k * 14 = 2 by omega, show k * 14 + 3 - k * 14 = 3 by omega, show k * 14 + 4 - k * 14 = 4 by omega, show k * 14 + 5 - k * 14 = 5 by omega, show k * 14 + 6 - k * 14 = 6 by omega, show k * 14 + 7 - k * 14 = 7 by omega, show k * 14 + 8 - k * 14 = 8 by omega, show k * 14 + 9 - k * 14 = 9 by omega, show k * 14 + 10 - k * 14 = 10 by omega, show k * 14 + 11 - k * 14 = 11 by omega, show k * 14 + 12 - k * 14 = 12 by omega, show k * 14 + 13 - k * 14 = 13 by omega]
  simp
/-- fourteen stores into the row -/
theorem own_set14 {w : World} {base : Nat} {e : TypeId} {g n cap : Nat} {M : List En} {k : Nat} {Z : List Value} (h : w.ownsRow base e 14 (.slice (some ⟨g, 0, none⟩) n cap) n (ecells M ++ Z.drop (k * 14))) (y : En) (hM : M.length = k) (hz : (k + 1) * 14 ≤ Z.length) :
    ((((((((((((((w.setCell ⟨g, k * 14, none⟩ (.string y.key)).setCell ⟨g, k * 14 + 1, none⟩ (.int .i64 y.kind)).setCell ⟨g, k * 14 + 2, none⟩ (.slice y.auA y.auN y.auc)).setCell ⟨g, k * 14 + 3, none⟩ (.slice y.edA y.edN y.edc)).setCell ⟨g, k * 14 + 4, none⟩ (.string y.ti)).setCell ⟨g, k * 14 + 5, none⟩ (.string y.co)).setCell ⟨g, k * 14 + 6, none⟩ (.string y.pu)).setCell ⟨g, k * 14 + 7, none⟩ (.int .i64 y.y)).setCell ⟨g, k * 14 + 8, none⟩ (.int .i64 y.m)).setCell ⟨g, k * 14 + 9, none⟩ (.int .i64 y.d)).setCell ⟨g, k * 14 + 10, none⟩ (.bool y.ci)).setCell ⟨g, k * 14 + 11, none⟩ (.int .i64 y.vol)).setCell ⟨g, k * 14 + 12, none⟩ (.string y.pa)).setCell ⟨g, k * 14 + 13, none⟩ (.string y.cr)).ownsRow base e 14 (.slice (some ⟨g, 0, none⟩) n cap) n (ecells (M ++ [y]) ++ Z.drop ((k + 1) * 14)) := by
  have h0 := (h.stored (k * 14) (.string y.key)).1
  have h1 := (h0.stored (k * 14 + 1) (.int .i64 y.kind)).1
  have h2 := (h1.stored (k * 14 + 2) (.slice y.auA y.auN y.auc)).1
  have h3 := (h2.stored (k * 14 + 3) (.slice y.edA y.edN y.edc)).1
  have h4 := (h3.stored (k * 14 + 4) (.string y.ti)).1
  have h5 := (h4.stored (k * 14 + 5) (.string y.co)).1
  have h6 := (h5.stored (k * 14 + 6) (.string y.pu)).1
  have h7 := (h6.stored (k * 14 + 7) (.int .i64 y.y)).1
  have h8 := (h7.stored (k * 14 + 8) (.int .i64 y.m)).1
  have h9 := (h8.stored (k * 14 + 9) (.int .i64 y.d)).1
  have h10 := (h9.stored (k * 14 + 10) (.bool y.ci)).1
  have h11 := (h10.stored (k * 14 + 11) (.int .i64 y.vol)).1
  have h12 := (h11.stored (k * 14 + 12) (.string y.pa)).1
  have h13 := (h12.stored (k * 14 + 13) (.string y.cr)).1
  rw [set14_row y hM hz] at h13
  exact h13
/-- the entry's lists are fresh and lie behind block b -/
def En.Fresh (x : En) (w : World) (b : Nat) : Prop := ∃ g2 g3, x.auA = some ⟨g2, 0, none⟩ ∧ x.edA = some ⟨g3, 0, none⟩ ∧ b < g2 ∧ b < g3 ∧ Fr w g2 x.auL ∧ Fr w g3 x.edL ∧ x.auL.length = x.auN ∧ x.edL.length = x.edN
theorem En.Fresh.below {x : En} {w w' : World} {b : Nat} (h : x.Fresh w b) (hb : Below w.heap.size w w') : x.Fresh w' b := by
  obtain ⟨g2, g3, h1, h2, h3, h4, h5, h6, h7, h8⟩ := h
  exact ⟨g2, g3, h1, h2, h3, h4, h5.below hb, h6.below hb, h7, h8⟩
theorem En.Fresh.set {x : En} {w : World} {b : Nat} (h : x.Fresh w b) (j : Nat) (v : Value) : x.Fresh (w.setCell ⟨b, j, none⟩ v) b := by
  obtain ⟨g2, g3, h1, h2, h3, h4, h5, h6, h7, h8⟩ := h
  exact ⟨g2, g3, h1, h2, h3, h4, h5.older h3 _ _, h6.older h4 _ _, h7, h8⟩
theorem En.Fresh.rd {x : En} {w : World} {b : Nat} (h : x.Fresh w b) : x.Rd w := by
  obtain ⟨g2, g3, h1, h2, h3, h4, h5, h6, h7, h8⟩ := h
  exact ⟨by rw [h1]; exact h5.1, h7, by rw [h2]; exact h6.1, h8⟩
/-- the names' numbers of words are small -/
def En.Sm (x : En) : Prop := x.auN ≤ 1048576 ∧ x.edN ≤ 1048576 ∧ (∀ y ∈ x.auL, y.n ≤ 1048576) ∧ (∀ y ∈ x.edL, y.n ≤ 1048576)

set_option maxRecDepth 100000 in
set_option maxHeartbeats 8000000 in
theorem toEntryS_far (A : Option Addr) (c N : Nat) (L : List En) (w : World) (h : RdE w A L) (hn : L.length = N) (hm : N ≤ 1048576) (hl : ∀ x ∈ L, x.Sm) :
    Calls Try.prog 21 #[.slice A N c] w fun e w' => ∃ M, e = .returned (.slice (some ⟨w.heap.size, 0, none⟩) N N) ∧ RdE w' (some ⟨w.heap.size, 0, none⟩) M ∧ M.map En.key4 = L.map En.key4 ∧ (∀ x ∈ M, x.Sm) ∧ (∀ x ∈ M, x.Fresh w' w.heap.size) ∧ NF w' w.heap.size ∧ Below w.heap.size w w' := by
  obtain ⟨i0, hi, hz0, hz1, hz2⟩ := info_parts infoEn
  have H := Lib.hid h
  have HN := Lib.hid hn
  have HL := Lib.hid hl
  clear h hn hl
  have hmk : (Instr.makeSlice 30 (.int .i64 N) (.int .i64 N)).run Try.prog w = .ok (.slice (some ⟨w.heap.size, 0, none⟩) N N) (w.alloc (.cells (madeCells #[.string ByteArray.empty, .int .i64 0, .slice none 0 0, .slice none 0 0, .string ByteArray.empty, .string ByteArray.empty, .string ByteArray.empty, .int .i64 0, .int .i64 0, .int .i64 0, .bool false, .int .i64 0, .string ByteArray.empty, .string ByteArray.empty] (N * 14)) 68)) := by
    have h := run_make (P := Try.prog) w 30 68 i0 (.agg #[.string ByteArray.empty, .int .i64 0, .slice none 0 0, .slice none 0 0, .string ByteArray.empty, .string ByteArray.empty, .string ByteArray.empty, .int .i64 0, .int .i64 0, .int .i64 0, .bool false, .int .i64 0, .string ByteArray.empty, .string ByteArray.empty]) Try.underlying30 hi hz0 .i64 .i64 (N : Int) (N : Int) (by omega) (Int.le_refl _) (by rw [hz2]; omega) (by omega)
    rw [Int.toNat_natCast] at h
    simpa [hz1, Value.cells] using h
  have hown0 := World.ownsRow_lit (base := w.heap.size) (e := 68) (size := 14) w (madeCells #[.string ByteArray.empty, .int .i64 0, .slice none 0 0, .slice none 0 0, .string ByteArray.empty, .string ByteArray.empty, .string ByteArray.empty, .int .i64 0, .int .i64 0, .int .i64 0, .bool false, .int .i64 0, .string ByteArray.empty, .string ByteArray.empty] (N * 14)) N (Nat.le_refl _) (by unfold maxLen; omega) (size_madeCells _ _)
  have hb0 : Below w.heap.size w (w.alloc (.cells (madeCells #[.string ByteArray.empty, .int .i64 0, .slice none 0 0, .slice none 0 0, .string ByteArray.empty, .string ByteArray.empty, .string ByteArray.empty, .int .i64 0, .int .i64 0, .int .i64 0, .bool false, .int .i64 0, .string ByteArray.empty, .string ByteArray.empty] (N * 14)) 68)) := (Below.refl _ w).alloc (Nat.le_refl _) _
  have hlt0 : w.heap.size < (w.alloc (.cells (madeCells #[.string ByteArray.empty, .int .i64 0, .slice none 0 0, .slice none 0 0, .string ByteArray.empty, .string ByteArray.empty, .string ByteArray.empty, .int .i64 0, .int .i64 0, .int .i64 0, .bool false, .int .i64 0, .string ByteArray.empty, .string ByteArray.empty] (N * 14)) 68)).heap.size := by simp
  generalize w.alloc (.cells (madeCells #[.string ByteArray.empty, .int .i64 0, .slice none 0 0, .slice none 0 0, .string ByteArray.empty, .string ByteArray.empty, .string ByteArray.empty, .int .i64 0, .int .i64 0, .int .i64 0, .bool false, .int .i64 0, .string ByteArray.empty, .string ByteArray.empty] (N * 14)) 68) = w1 at *
  generalize hZ : (madeCells #[.string ByteArray.empty, .int .i64 0, .slice none 0 0, .slice none 0 0, .string ByteArray.empty, .string ByteArray.empty, .string ByteArray.empty, .int .i64 0, .int .i64 0, .int .i64 0, .bool false, .int .i64 0, .string ByteArray.empty, .string ByteArray.empty] (N * 14)).toList = Z at *
  have HZl : Hid (Z.length = N * 14) := Lib.hid (by rw [← hZ, Array.length_toList, size_madeCells])
  clear hZ
  have HO := Lib.hid hown0
  clear hown0
  go_enter Try.func21, Try.ntmps21
  go_wp2_with fail
  clear hmk
  go_loopw [4] (fun i wr => ∃ (k : Nat) (M : List En), k ≤ N ∧ i = .int .i64 k ∧ Hid (M.length = k ∧ M.map En.key4 = (L.take k).map En.key4 ∧ (∀ x ∈ M, x.Fresh wr w.heap.size ∧ x.Sm)) ∧ Hid (wr.ownsRow w.heap.size 68 14 (.slice (some ⟨w.heap.size, 0, none⟩) N N) N (ecells M ++ Z.drop (k * 14))) ∧ Below w.heap.size w wr ∧ w.heap.size < wr.heap.size) (fun i _ => N - (intOf i).toNat)
  case atStart => exact ⟨0, [], Nat.zero_le _, rfl, Lib.hid ⟨rfl, rfl, fun x hx => (by cases hx)⟩, Lib.hid (by simpa [ecells] using HO.out), hb0, hlt0⟩
  case round =>
    obtain ⟨k, M, hk, rfl, HM, ho, hb, hlt1⟩ := hrel
    by_cases hlt : k < N
    · have hkx : k < L.length := by rw [HN.out]; exact hlt
      have hx? := List.getElem?_eq_getElem hkx
      obtain ⟨hr, g, o, rfl, hg, c0, c1, c2, c3, c4, c5, c6, c7, c8, c9, c10, c11, c12, c13⟩ := (H.out.below hb) k L[k] hx?
      have hln := HL.out _ (List.getElem_mem hkx)
      have HX := Lib.hid hx?
      clear hx?
      generalize L[k] = x at *
      obtain ⟨key, kind, auA, auN, auc, auL, edA, edN, edc, edL, ti, co, pu, y, m, d, ci, vol, pa, cr⟩ := x
      obtain ⟨s1, s2, s3, s4⟩ := hln
      dsimp only at c0 c1 c2 c3 c4 c5 c6 c7 c8 c9 c10 c11 c12 c13 s1 s2 s3 s4
      have HT := Lib.hid (toEntry_far key kind auA auN auc auL edA edN edc edL ti co pu y m d ci vol pa cr wr hr s1 s2 s3 s4)
      have HR1 := Lib.hid hr.2.1
      have HR2 := Lib.hid hr.2.2.2
      clear hr s3 s4
      go_wp2_with fail
      refine HT.out.mono ?_
      rintro e w2 ⟨g2, M2, g3, M3, rfl, F2, F3, L2, L3, K2, K3, n2, n3, b2⟩
      have ho2 := own_kept ho.out b2
      have hzl := HZl.out
      have hMl := HM.out.1
      have hall : (ecells M ++ Z.drop (k * 14)).length = N * 14 := by rw [List.length_append, ecells_len, List.length_drop]; omega
      have f0 := World.ownsRow.frozenAt ho2 (k * 14)
      have f1 := World.ownsRow.frozenAt ho2 (k * 14 + 1)
      have f2 := World.ownsRow.frozenAt ho2 (k * 14 + 2)
      have f3 := World.ownsRow.frozenAt ho2 (k * 14 + 3)
      have f4 := World.ownsRow.frozenAt ho2 (k * 14 + 4)
      have f5 := World.ownsRow.frozenAt ho2 (k * 14 + 5)
      have f6 := World.ownsRow.frozenAt ho2 (k * 14 + 6)
      have f7 := World.ownsRow.frozenAt ho2 (k * 14 + 7)
      have f8 := World.ownsRow.frozenAt ho2 (k * 14 + 8)
      have f9 := World.ownsRow.frozenAt ho2 (k * 14 + 9)
      have f10 := World.ownsRow.frozenAt ho2 (k * 14 + 10)
      have f11 := World.ownsRow.frozenAt ho2 (k * 14 + 11)
      have f12 := World.ownsRow.frozenAt ho2 (k * 14 + 12)
      have f13 := World.ownsRow.frozenAt ho2 (k * 14 + 13)
      obtain ⟨u0, v0⟩ : ∃ u, w2.cell? ⟨w.heap.size, k * 14, none⟩ = some u := by rw [World.ownsRow.cellAt ho2 (k * 14) (by omega)]; exact ⟨_, List.getElem?_eq_getElem (by omega)⟩
      obtain ⟨u1, v1⟩ : ∃ u, w2.cell? ⟨w.heap.size, k * 14 + 1, none⟩ = some u := by rw [World.ownsRow.cellAt ho2 (k * 14 + 1) (by omega)]; exact ⟨_, List.getElem?_eq_getElem (by omega)⟩
      obtain ⟨u2, v2⟩ : ∃ u, w2.cell? ⟨w.heap.size, k * 14 + 2, none⟩ = some u := by rw [World.ownsRow.cellAt ho2 (k * 14 + 2) (by omega)]; exact ⟨_, List.getElem?_eq_getElem (by omega)⟩
      obtain ⟨u3, v3⟩ : ∃ u, w2.cell? ⟨w.heap.size, k * 14 + 3, none⟩ = some u := by rw [World.ownsRow.cellAt ho2 (k * 14 + 3) (by omega)]; exact ⟨_, List.getElem?_eq_getElem (by omega)⟩
      obtain ⟨u4, v4⟩ : ∃ u, w2.cell? ⟨w.heap.size, k * 14 + 4, none⟩ = some u := by rw [World.ownsRow.cellAt ho2 (k * 14 + 4) (by omega)]; exact ⟨_, List.getElem?_eq_getElem (by omega)⟩
      obtain ⟨u5, v5⟩ : ∃ u, w2.cell? ⟨w.heap.size, k * 14 + 5, none⟩ = some u := by rw [World.ownsRow.cellAt ho2 (k * 14 + 5) (by omega)]; exact ⟨_, List.getElem?_eq_getElem (by omega)⟩
      obtain ⟨u6, v6⟩ : ∃ u, w2.cell? ⟨w.heap.size, k * 14 + 6, none⟩ = some u := by rw [World.ownsRow.cellAt ho2 (k * 14 + 6) (by omega)]; exact ⟨_, List.getElem?_eq_getElem (by omega)⟩
      obtain ⟨u7, v7⟩ : ∃ u, w2.cell? ⟨w.heap.size, k * 14 + 7, none⟩ = some u := by rw [World.ownsRow.cellAt ho2 (k * 14 + 7) (by omega)]; exact ⟨_, List.getElem?_eq_getElem (by omega)⟩
      obtain ⟨u8, v8⟩ : ∃ u, w2.cell? ⟨w.heap.size, k * 14 + 8, none⟩ = some u := by rw [World.ownsRow.cellAt ho2 (k * 14 + 8) (by omega)]; exact ⟨_, List.getElem?_eq_getElem (by omega)⟩
      obtain ⟨u9, v9⟩ : ∃ u, w2.cell? ⟨w.heap.size, k * 14 + 9, none⟩ = some u := by rw [World.ownsRow.cellAt ho2 (k * 14 + 9) (by omega)]; exact ⟨_, List.getElem?_eq_getElem (by omega)⟩
      obtain ⟨u10, v10⟩ : ∃ u, w2.cell? ⟨w.heap.size, k * 14 + 10, none⟩ = some u := by rw [World.ownsRow.cellAt ho2 (k * 14 + 10) (by omega)]; exact ⟨_, List.getElem?_eq_getElem (by omega)⟩
      obtain ⟨u11, v11⟩ : ∃ u, w2.cell? ⟨w.heap.size, k * 14 + 11, none⟩ = some u := by rw [World.ownsRow.cellAt ho2 (k * 14 + 11) (by omega)]; exact ⟨_, List.getElem?_eq_getElem (by omega)⟩
      obtain ⟨u12, v12⟩ : ∃ u, w2.cell? ⟨w.heap.size, k * 14 + 12, none⟩ = some u := by rw [World.ownsRow.cellAt ho2 (k * 14 + 12) (by omega)]; exact ⟨_, List.getElem?_eq_getElem (by omega)⟩
      obtain ⟨u13, v13⟩ : ∃ u, w2.cell? ⟨w.heap.size, k * 14 + 13, none⟩ = some u := by rw [World.ownsRow.cellAt ho2 (k * 14 + 13) (by omega)]; exact ⟨_, List.getElem?_eq_getElem (by omega)⟩
      have HO2 := Lib.hid (own_set14 ho2 ⟨key, kind, some ⟨g2, 0, none⟩, auN, auN, M2, some ⟨g3, 0, none⟩, edN, edN, M3, ti, co, pu, y, m, d, ci, vol, pa, cr⟩ hMl (by omega))
      have HY : Hid ((⟨key, kind, some ⟨g2, 0, none⟩, auN, auN, M2, some ⟨g3, 0, none⟩, edN, edN, M3, ti, co, pu, y, m, d, ci, vol, pa, cr⟩ : En).Fresh w2 w.heap.size) := Lib.hid ⟨g2, g3, rfl, rfl, Nat.lt_trans hlt1 L2, Nat.lt_trans hlt1 L3, F2, F3, (len_of_key K2).trans HR1.out, (len_of_key K3).trans HR2.out⟩
      have HSm : Hid ((⟨key, kind, some ⟨g2, 0, none⟩, auN, auN, M2, some ⟨g3, 0, none⟩, edN, edN, M3, ti, co, pu, y, m, d, ci, vol, pa, cr⟩ : En).Sm) := Lib.hid ⟨s1, s2, n2, n3⟩
      have HM2 : Hid (∀ x ∈ M, x.Fresh w2 w.heap.size ∧ x.Sm) := Lib.hid (fun x hx => ⟨(HM.out.2.2 x hx).1.below b2, (HM.out.2.2 x hx).2⟩)
      have HK : Hid ((M ++ [(⟨key, kind, some ⟨g2, 0, none⟩, auN, auN, M2, some ⟨g3, 0, none⟩, edN, edN, M3, ti, co, pu, y, m, d, ci, vol, pa, cr⟩ : En)]).map En.key4 = (L.take (k + 1)).map En.key4) := Lib.hid (by
        rw [List.take_add_one, HX.out, List.map_append, List.map_append, HM.out.2.1]
        congr 1
        simp only [Option.toList, List.map_cons, List.map_nil]
        unfold En.key4
        dsimp only
        rw [K2, K3])
      have hb2 := hb.trans (b2.mono hb.size)
      have hsz2 : w.heap.size < w2.heap.size := Nat.lt_of_lt_of_le hlt1 b2.size
      clear ho ho2 b2 hall hzl hb F2 F3 K2 K3 n2 n3 L2 L3
      go_wp2_with fail
      go_roundw
      case rel =>
        refine ⟨k + 1, _, by omega, by go_num, Lib.hid ⟨by rw [List.length_append, hMl]; rfl, HK.out, ?_⟩, Lib.hid HO2.out, ?_, by simpa [World.setCell] using hsz2⟩
        · intro x hx
          rcases List.mem_append.1 hx with hx | hx
          · exact ⟨(((((((((((((((HM2.out x hx).1.set _ _).set _ _).set _ _).set _ _).set _ _).set _ _).set _ _).set _ _).set _ _).set _ _).set _ _).set _ _).set _ _).set _ _), (HM2.out x hx).2⟩
          · simp only [List.mem_singleton] at hx
            subst hx
            exact ⟨((((((((((((((HY.out.set _ _).set _ _).set _ _).set _ _).set _ _).set _ _).set _ _).set _ _).set _ _).set _ _).set _ _).set _ _).set _ _).set _ _), HSm.out⟩
        · exact ((((((((((((((hb2.setCell (p := ⟨w.heap.size, k * 14, none⟩) (Nat.le_refl _) _).setCell (p := ⟨w.heap.size, k * 14 + 1, none⟩) (Nat.le_refl _) _).setCell (p := ⟨w.heap.size, k * 14 + 2, none⟩) (Nat.le_refl _) _).setCell (p := ⟨w.heap.size, k * 14 + 3, none⟩) (Nat.le_refl _) _).setCell (p := ⟨w.heap.size, k * 14 + 4, none⟩) (Nat.le_refl _) _).setCell (p := ⟨w.heap.size, k * 14 + 5, none⟩) (Nat.le_refl _) _).setCell (p := ⟨w.heap.size, k * 14 + 6, none⟩) (Nat.le_refl _) _).setCell (p := ⟨w.heap.size, k * 14 + 7, none⟩) (Nat.le_refl _) _).setCell (p := ⟨w.heap.size, k * 14 + 8, none⟩) (Nat.le_refl _) _).setCell (p := ⟨w.heap.size, k * 14 + 9, none⟩) (Nat.le_refl _) _).setCell (p := ⟨w.heap.size, k * 14 + 10, none⟩) (Nat.le_refl _) _).setCell (p := ⟨w.heap.size, k * 14 + 11, none⟩) (Nat.le_refl _) _).setCell (p := ⟨w.heap.size, k * 14 + 12, none⟩) (Nat.le_refl _) _).setCell (p := ⟨w.heap.size, k * 14 + 13, none⟩) (Nat.le_refl _) _)
      case measure => simp [intOf]; omega
    · obtain rfl : k = N := by omega
      have hMl := HM.out.1
      have HRd : Hid (RdE wr (some ⟨w.heap.size, 0, none⟩) M) := Lib.hid (fun j x hx => by
        have hj := (List.getElem?_eq_some_iff.1 hx).1
        have hcell : ∀ i, i < 14 → wr.cell? ⟨w.heap.size, 0 + j * 14 + i, none⟩ = x.cs.toList[i]? := fun i hi => by
          rw [Nat.zero_add, World.ownsRow.cellAt ho.out (j * 14 + i) (by omega), List.getElem?_append_left (by rw [ecells_len]; omega), ecells_at hx hi]
        exact ⟨(HM.out.2.2 x (List.mem_of_getElem? hx)).1.rd, w.heap.size, 0, rfl, hlt1, hcell 0 (by decide), hcell 1 (by decide), hcell 2 (by decide), hcell 3 (by decide), hcell 4 (by decide), hcell 5 (by decide), hcell 6 (by decide), hcell 7 (by decide), hcell 8 (by decide), hcell 9 (by decide), hcell 10 (by decide), hcell 11 (by decide), hcell 12 (by decide), hcell 13 (by decide)⟩)
      have HKy : Hid (M.map En.key4 = L.map En.key4) := Lib.hid (by rw [HM.out.2.1, List.take_of_length_le (by rw [HN.out]; omega)])
      have HFar : Hid (∀ x ∈ M, x.Fresh wr w.heap.size) := Lib.hid (fun x hx => (HM.out.2.2 x hx).1)
      have HMn : Hid (∀ x ∈ M, x.Sm) := Lib.hid (fun x hx => (HM.out.2.2 x hx).2)
      have HNF : Hid (NF wr w.heap.size) := Lib.hid (NF.own ho.out)
      go_wp2_with fail
      go_ret
      exact ⟨_, rfl, HRd.out, HKy.out, HMn.out, HFar.out, HNF.out, hb⟩
end Go.Proofs.Ytkiogbbbigmgnaa.Ens
