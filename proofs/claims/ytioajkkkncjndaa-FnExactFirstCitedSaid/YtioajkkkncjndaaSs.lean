/-
  Lists of lists of strings as arguments: the laws' helpers szStringSS, toStringSS, eqStringSS, markStringSS.
-/
import Derived.Test.YtioajkkkncjndaaHelp
import Derived.Test.YtioajkkkncjndaaTmC
import Derived.Deep.RegionHeld3
namespace Go.Proofs.Ytioajkkkncjndaa.Sss
open Go.RowKit Pl Strs Help Nms Kpz
open Tms hiding lt_cell
set_option linter.unusedVariables false
set_option linter.unusedSimpArgs false

/-- the slice at A holds the lists C -/
def RdA (w : World) (A : Option Addr) (C : List (List ByteArray)) : Prop := ∀ j xs, C[j]? = some xs → ∃ g o Ai ci, A = some ⟨g, o, none⟩ ∧ w.cell? ⟨g, o + j, none⟩ = some (.slice Ai xs.length ci) ∧ RdS w Ai xs ∧ (0 < xs.length → ∀ a, Ai = some a → a.block < w.heap.size)
/-- .. in blocks between b0 and b1 -/
def RdC (b0 b1 : Nat) (w : World) (A : Option Addr) (C : List (List ByteArray)) : Prop := ∀ j xs, C[j]? = some xs → ∃ g o Ai ci, A = some ⟨g, o, none⟩ ∧ (b0 ≤ g ∧ g < b1 ∧ NF w g) ∧ w.cell? ⟨g, o + j, none⟩ = some (.slice Ai xs.length ci) ∧ RdS w Ai xs ∧ (0 < xs.length → ∀ a, Ai = some a → b0 ≤ a.block ∧ a.block < b1 ∧ NF w a.block) ∧ (Ai = none → ci = 0)
theorem RdA.kp {w w' : World} {A : Option Addr} {C : List (List ByteArray)} (h : RdA w A C) (hb : Kp w w') : RdA w' A C := by
  intro j xs hx
  obtain ⟨g, o, Ai, ci, e, hc, hr, ha⟩ := h j xs hx
  exact ⟨g, o, Ai, ci, e, (hb.cell (p := ⟨g, o + j, none⟩) (lt_cell hc)).trans hc, hr.of (fun hp a e => hb.block _ (ha hp a e)), fun hp a e => Nat.lt_of_lt_of_le (ha hp a e) (ksz hb)⟩
theorem RdC.kp {b0 b1 : Nat} {w w' : World} {A : Option Addr} {C : List (List ByteArray)} (h : RdC b0 b1 w A C) (hb : Kp w w') : RdC b0 b1 w' A C := by
  intro j xs hx
  obtain ⟨g, o, Ai, ci, e, ⟨g1, g2, g3⟩, hc, hr, ha, hz⟩ := h j xs hx
  exact ⟨g, o, Ai, ci, e, ⟨g1, g2, g3.below hb⟩, (hb.cell (p := ⟨g, o + j, none⟩) (lt_cell hc)).trans hc, hr.of (fun hp a e => hb.block _ (ha hp a e).2.2.lt), fun hp a e => ⟨(ha hp a e).1, (ha hp a e).2.1, (ha hp a e).2.2.below hb⟩, hz⟩
theorem RdC.rda {b0 b1 : Nat} {w : World} {A : Option Addr} {C : List (List ByteArray)} (h : RdC b0 b1 w A C) : RdA w A C := by
  intro j xs hx
  obtain ⟨g, o, Ai, ci, e, _, hc, hr, ha, _⟩ := h j xs hx
  exact ⟨g, o, Ai, ci, e, hc, hr, fun hp a e => (ha hp a e).2.2.lt⟩
/-- the elements and their bytes -/
def lensC (C : List (List ByteArray)) : Nat := (C.map fun x => x.length + lens x).sum
theorem lensC_take {C : List (List ByteArray)} {k : Nat} {x : List ByteArray} (h : C[k]? = some x) : lensC (C.take (k + 1)) = lensC (C.take k) + (x.length + lens x) := by
  unfold lensC
  rw [List.take_add_one, h]
  simp
theorem lensC_le (C : List (List ByteArray)) (k : Nat) : lensC (C.take k) ≤ lensC C := by
  conv => rhs; rw [← List.take_append_drop k C]
  unfold lensC
  rw [List.map_append, List.sum_append]
  omega
theorem lensC_mem {C : List (List ByteArray)} {x : List ByteArray} (h : x ∈ C) : x.length + lens x ≤ lensC C := by
  obtain ⟨k, hk, e⟩ := List.getElem_of_mem h
  have h1 := lensC_take (C := C) (k := k) (x := x) (by rw [List.getElem?_eq_getElem hk, e])
  have h2 := lensC_le C (k + 1)
  omega
def szC (left : Nat) (C : List (List ByteArray)) : Int := if C.length + lensC C ≤ left then (left : Int) - C.length - lensC C else -1
set_option maxHeartbeats 1000000 in
theorem szStringSS_any (A : Option Addr) (c n : Nat) (C : List (List ByteArray)) (left : Nat) (z : Int) (w : World) (h : RdA w A C) (hn : C.length = n) (hm : n ≤ maxLen) (hx : ∀ xs ∈ C, xs.length ≤ maxLen ∧ ∀ x ∈ xs, x.size ≤ maxLen) (hl : left ≤ 1048576) (hz : szC left C = z) :
    Calls Try.prog 5 #[.slice A n c, .int .i64 left] w fun e w' => e = .returned (.int .i64 z) ∧ w = w' := by
  unfold maxLen at hm
  have H := Lib.hid h
  have HN := Lib.hid hn
  have HX := Lib.hid hx
  have HZ := Lib.hid hz
  clear h hn hx hz
  by_cases h0 : left < n
  · have HE : Hid (z = -1) := Lib.hid (by rw [← HZ.out]; unfold szC; rw [HN.out, if_neg (by omega)])
    go_enter Try.func5, Try.ntmps5
    go_wp2_with fail
    go_ret
    exact ⟨by rw [HE.out]; rfl, rfl⟩
  · obtain ⟨p0, hp0⟩ : ∃ p0 : Nat, left = n + p0 := ⟨left - n, by omega⟩
    have hw0 : IntKind.i64.wrap ((left : Int) - (n : Int)) = (p0 : Int) := by rw [IntWalk.i64_in _ (by omega)]; omega
    have HP0 := Lib.hid hp0
    have hp0l : p0 ≤ 1048576 := by omega
    clear hp0 h0
    go_enter Try.func5, Try.ntmps5
    go_wp2_with fail
    go_loop [1, 5] (fun l i => ∃ k p : Nat, k ≤ n ∧ i = .int .i64 k ∧ l = .int .i64 p ∧ p ≤ 1048576 ∧ Hid (p + lensC (C.take k) = p0)) (fun _ i => n - (intOf i).toNat)
    case atStart => exact ⟨0, p0, Nat.zero_le _, rfl, rfl, hp0l, Lib.hid (by simp [lensC])⟩
    case round =>
      obtain ⟨k, p, hk, rfl, rfl, hp, HP⟩ := hrel
      by_cases hlt : k < n
      · obtain ⟨x, hxk⟩ : ∃ x, C[k]? = some x := ⟨_, List.getElem?_eq_getElem (by rw [HN.out]; exact hlt)⟩
        obtain ⟨g, o, Ai, ci, rfl, hc, hr, ha⟩ := H.out k x hxk
        obtain ⟨hxl, hxs⟩ := HX.out x (List.mem_of_getElem? hxk)
        have HS := Lib.hid (szStringS_any Ai ci x.length x p w hr rfl hxl hxs hp)
        have HT := Lib.hid (lensC_take hxk)
        have HL := Lib.hid (lensC_le C (k + 1))
        clear hr ha hxs hxk
        by_cases hfit : x.length + lens x ≤ p
        · have HE : Hid (szR p x = ((p - (x.length + lens x) : Nat) : Int)) := Lib.hid (by unfold szR; rw [if_pos hfit]; omega)
          rw [HE.out] at HS
          have HN1 : Hid (p - (x.length + lens x) + lensC (C.take (k + 1)) = p0) := Lib.hid (by rw [HT.out]; have := HP.out; omega)
          generalize p - (x.length + lens x) = p1 at *
          have hp1 : p1 ≤ 1048576 := by have := HN1.out; have := HP0.out; omega
          clear HE HT hfit
          generalize x.length = lx at *
          go_wp2_with fail
          refine HS.out.mono ?_
          rintro e w' ⟨rfl, rfl⟩
          go_wp2_with fail
          go_round
          case rel => exact ⟨k + 1, p1, by omega, by go_num, rfl, hp1, HN1⟩
          case measure => simp [intOf]; omega
        · have HE : Hid (szR p x = -1) := Lib.hid (by unfold szR; rw [if_neg (by omega)])
          rw [HE.out] at HS
          have HE2 : Hid (z = -1) := Lib.hid (by
            rw [← HZ.out]; unfold szC
            rw [HN.out, if_neg (by have := HT.out; have := HL.out; have := HP.out; have := HP0.out; omega)])
          generalize x.length = lx at *
          go_wp2_with fail
          refine HS.out.mono ?_
          rintro e w' ⟨rfl, rfl⟩
          go_wp2_with fail
          go_ret
          exact ⟨by rw [HE2.out]; rfl, rfl⟩
      · have HE : Hid (z = (p : Int)) := Lib.hid (by
          rw [← HZ.out]; unfold szC
          have h1 := HP.out
          rw [List.take_of_length_le (by rw [HN.out]; omega)] at h1
          have := HP0.out
          rw [HN.out, if_pos (by omega)]; omega)
        go_wp2_with fail
        go_ret
        exact ⟨by rw [HE.out]; rfl, rfl⟩

theorem infoSS : (Try.prog.info? 24).map (fun i => (i.zero, i.size, i.bytes)) = some (some (.slice none 0 0), 1, 24) := by kernel_rfl
/-- k lists copied into block g -/
def Part (w : World) (g k n : Nat) (C : List (List ByteArray)) : Prop :=
  NF w g ∧ (∀ j, j < n → ∃ u, w.cell? ⟨g, j, none⟩ = some u) ∧ ∀ j xs, j < k → C[j]? = some xs → ∃ Ai ci, w.cell? ⟨g, j, none⟩ = some (.slice Ai xs.length ci) ∧ RdS w Ai xs ∧ (0 < xs.length → ∀ a, Ai = some a → g < a.block ∧ NF w a.block) ∧ (Ai = none → ci = 0)
theorem Part.kp {w w' : World} {g k n : Nat} {C : List (List ByteArray)} (h : Part w g k n C) (hb : Kp w w') : Part w' g k n C := by
  obtain ⟨h1, h2, h3⟩ := h
  refine ⟨h1.below hb, fun j hj => ?_, fun j xs hj hx => ?_⟩
  · obtain ⟨u, hu⟩ := h2 j hj
    exact ⟨u, (hb.cell (p := ⟨g, j, none⟩) h1.lt).trans hu⟩
  · obtain ⟨Ai, ci, hc, hr, ha, hz⟩ := h3 j xs hj hx
    exact ⟨Ai, ci, (hb.cell (p := ⟨g, j, none⟩) h1.lt).trans hc, hr.of (fun hp a e => hb.block _ (ha hp a e).2.lt), fun hp a e => ⟨(ha hp a e).1, (ha hp a e).2.below hb⟩, hz⟩
theorem Part.put {w : World} {g k n ci : Nat} {C : List (List ByteArray)} {x : List ByteArray} {Ai : Option Addr} (h : Part w g k n C) (hk : k < n) (hx : C[k]? = some x) (hr : RdS w Ai x) (ha : 0 < x.length → ∀ a, Ai = some a → g < a.block ∧ NF w a.block) (hz : Ai = none → ci = 0) : Part (w.setCell ⟨g, k, none⟩ (.slice Ai x.length ci)) g (k + 1) n C := by
  obtain ⟨h1, h2, h3⟩ := h
  obtain ⟨u, hu⟩ := h2 k hk
  have hb : ∀ b, b ≠ g → (w.setCell ⟨g, k, none⟩ (.slice Ai x.length ci)).heap[b]? = w.heap[b]? := fun b hb => Below.heap_setCell _ _ _ _ (fun e => hb e)
  refine ⟨h1.set _ _, fun j hj => ?_, fun j xs hj hxj => ?_⟩
  · by_cases e : j = k
    · subst e; exact ⟨_, World.cell?_setCell_same _ _ _ hu⟩
    · obtain ⟨u', hu'⟩ := h2 j hj
      exact ⟨u', (World.cell?_setCell_other w _ _ _ (fun e' => by cases e'; exact e rfl)).trans hu'⟩
  · by_cases e : j = k
    · subst e
      rw [hx] at hxj; cases hxj
      exact ⟨Ai, ci, World.cell?_setCell_same _ _ _ hu, hr.of (fun hp a e => hb _ (by have := (ha hp a e).1; omega)), fun hp a e => ⟨(ha hp a e).1, (ha hp a e).2.set _ _⟩, hz⟩
    · obtain ⟨A', c', hc, hr', ha', hz'⟩ := h3 j xs (by omega) hxj
      exact ⟨A', c', (World.cell?_setCell_other w _ _ _ (fun e' => by cases e'; exact e rfl)).trans hc, hr'.of (fun hp a e => hb _ (by have := (ha' hp a e).1; omega)), fun hp a e => ⟨(ha' hp a e).1, (ha' hp a e).2.set _ _⟩, hz'⟩
def ToPost (n : Nat) (C : List (List ByteArray)) (w : World) (e : Ending) (w' : World) : Prop := ∃ A, e = .returned (.slice A n n) ∧ RdC w.heap.size w'.heap.size w' A C ∧ Kp w w'
set_option maxHeartbeats 1000000 in
theorem toStringSS_any (A : Option Addr) (c n : Nat) (C : List (List ByteArray)) (w : World) (h : RdA w A C) (hn : C.length = n) (hm : n ≤ 1048576) (hx : ∀ xs ∈ C, xs.length ≤ 1048576) :
    Calls Try.prog 7 #[.slice A n c] w (ToPost n C w) := by
  obtain ⟨i0, hi, hz0, hz1, hz2⟩ := info_parts infoSS
  have H := Lib.hid h
  have HN := Lib.hid hn
  have HX := Lib.hid hx
  clear h hn hx
  have hmk : (Instr.makeSlice 22 (.int .i64 n) (.int .i64 n)).run Try.prog w = .ok (.slice (some ⟨w.heap.size, 0, none⟩) n n) (w.alloc (.cells (madeCells #[.slice none 0 0] n) 24)) := by
    have h := run_make (P := Try.prog) w 22 24 i0 (.slice none 0 0) Try.underlying22 hi hz0 .i64 .i64 (n : Int) (n : Int) (by omega) (Int.le_refl _) (by rw [hz2]; omega) (by omega)
    rw [Int.toNat_natCast] at h
    simpa [hz1, Value.cells] using h
  have hown0 := World.ownsRow_lit (base := w.heap.size) (e := 24) (size := 1) w (madeCells #[.slice none 0 0] n) n (Nat.le_refl _) (by unfold maxLen; omega) (by rw [← Array.length_toList, toList_madeCells_one]; simp)
  rw [toList_madeCells_one] at hown0
  have hb0 : Kp w (w.alloc (.cells (madeCells #[.slice none 0 0] n) 24)) := kal (kre _) _
  have hsz0 : w.heap.size < (w.alloc (.cells (madeCells #[.slice none 0 0] n) 24)).heap.size := by simp
  generalize w.alloc (.cells (madeCells #[.slice none 0 0] n) 24) = w1 at *
  have hP : Part w1 w.heap.size 0 n C := ⟨NF.own hown0, fun j hj => ⟨_, (World.ownsRow.cellAt hown0 j (by omega)).trans (List.getElem?_eq_getElem (by simpa using hj))⟩, fun j xs hj => by omega⟩
  have HP := Lib.hid hP
  clear hown0 hP
  go_enter Try.func7, Try.ntmps7
  go_wp2_with fail
  clear hmk
  go_loopw [4] (fun i wr => ∃ k : Nat, k ≤ n ∧ i = .int .i64 k ∧ Hid (Part wr w.heap.size k n C) ∧ w.heap.size < wr.heap.size ∧ Kp w wr) (fun i _ => n - (intOf i).toNat)
  case atStart => exact ⟨0, Nat.zero_le _, rfl, HP, hsz0, hb0⟩
  case round =>
    obtain ⟨k, hk, rfl, HO, hsz, hb⟩ := hrel
    by_cases hlt : k < n
    · obtain ⟨x, hxk⟩ : ∃ x, C[k]? = some x := ⟨_, List.getElem?_eq_getElem (by rw [HN.out]; exact hlt)⟩
      obtain ⟨g, o, Ai, ci, rfl, hc0, hr, ha⟩ := (H.out.kp hb) k x hxk
      have hxl := HX.out x (List.mem_of_getElem? hxk)
      have HXk := Lib.hid hxk
      have HTo := Lib.hid (toStringS_any Ai ci x.length x wr hr ha rfl hxl)
      obtain ⟨u, hu⟩ := HO.out.2.1 k hlt
      clear hxk hr ha
      generalize hlx : x.length = lx at *
      have HLx := Lib.hid hlx
      clear hlx
      go_wp2_with fail
      refine HTo.out.mono ?_
      rintro e w2 ⟨v, rfl, o2, b2⟩
      obtain ⟨A2, c2, rfl, _, r2, a2⟩ := own_rds o2
      have HO2 := Lib.hid (HO.out.kp b2)
      have hlow : 0 < x.length → ∀ a, A2 = some a → w.heap.size < a.block ∧ NF w2 a.block := fun hp a e => by
        subst e
        exact ⟨Nat.lt_of_lt_of_le hsz (o2.lt a.block rfl).1, NF.own o2⟩
      have hnz : A2 = none → c2 = 0 := fun e => by
        subst e
        rcases o2.2 with ⟨h, _⟩ | ⟨g9, cap9, cur9, h, _⟩
        · cases h; rfl
        · cases h
      have HPu := Lib.hid (HO2.out.put (ci := c2) hlt HXk.out r2 hlow hnz)
      rw [HLx.out] at HPu
      have hu2 : w2.cell? ⟨w.heap.size, k, none⟩ = some u := (b2.cell (p := ⟨w.heap.size, k, none⟩) hsz).trans hu
      have hf := HO2.out.1.frozen k none
      have hb2 : Kp w (w2.setCell ⟨w.heap.size, k, none⟩ (.slice A2 lx c2)) := (ktr hb b2).setCell (p := ⟨w.heap.size, k, none⟩) (Nat.le_refl _) _
      have hsz2 : w.heap.size < (w2.setCell ⟨w.heap.size, k, none⟩ (.slice A2 lx c2)).heap.size := Nat.lt_of_lt_of_le hsz (by simpa [World.setCell] using b2.size)
      clear hu hlow r2 a2 hnz
      go_wp2_with fail
      go_roundw
      case rel => exact ⟨k + 1, by omega, by go_num, HPu, hsz2, hb2⟩
      case measure => simp [intOf]; omega
    · obtain rfl : k = n := by omega
      go_wp2_with fail
      go_ret
      refine ⟨some ⟨w.heap.size, 0, none⟩, rfl, fun j xs hx => ?_, hb⟩
      have hj : j < k := by rw [← HN.out]; exact (List.getElem?_eq_some_iff.1 hx).1
      obtain ⟨Ai, ci, hc, hr, ha, hz⟩ := HO.out.2.2 j xs hj hx
      exact ⟨w.heap.size, 0, Ai, ci, rfl, ⟨Nat.le_refl _, hsz, HO.out.1⟩, by rw [Nat.zero_add]; exact hc, hr, fun hp a e => ⟨Nat.le_of_lt (ha hp a e).1, (ha hp a e).2.lt, (ha hp a e).2⟩, hz⟩

set_option maxHeartbeats 2000000 in
theorem eqStringSS_same (A B : Option Addr) (c d n : Nat) (C : List (List ByteArray)) (w : World) (h : RdA w A C) (h' : RdA w B C) (hn : C.length = n) (hm : n ≤ 1048576) (hx : ∀ xs ∈ C, xs.length ≤ 1048576) :
    Calls Try.prog 10 #[.slice A n c, .slice B n d] w fun e w' => e = .returned (.bool true) ∧ Kp w w' := by
  have H := Lib.hid h
  have H' := Lib.hid h'
  have HN := Lib.hid hn
  have HX := Lib.hid hx
  clear h h' hn hx
  go_enter Try.func10, Try.ntmps10
  go_wp2_with fail
  go_loopw [5] (fun i wr => ∃ k : Nat, k ≤ n ∧ i = .int .i64 k ∧ Kp w wr) (fun i _ => n - (intOf i).toNat)
  case atStart => exact ⟨0, Nat.zero_le _, rfl, kre _⟩
  case round =>
    obtain ⟨k, hk, rfl, hb⟩ := hrel
    by_cases hlt : k < n
    · obtain ⟨x, hxk⟩ : ∃ x, C[k]? = some x := ⟨_, List.getElem?_eq_getElem (by rw [HN.out]; exact hlt)⟩
      obtain ⟨g, o, Ai, ci, rfl, c0, r0, a0⟩ := (H.out.kp hb) k x hxk
      obtain ⟨g', o', Ai', ci', rfl, d0, r1, a1⟩ := (H'.out.kp hb) k x hxk
      have hxl := HX.out x (List.mem_of_getElem? hxk)
      have hg := lt_cell c0
      have hg' := lt_cell d0
      have HE := Lib.hid (fun w' (hk : Kp wr w') => (eqStringS_same Ai Ai' ci ci' x w' (r0.of fun hp a e => hk.block _ (a0 hp a e)) (r1.of fun hp a e => hk.block _ (a1 hp a e)) (by omega)).mono (R' := fun e w'' => e = .returned (.bool true) ∧ Kp w' w'') fun _ _ h => ⟨h.1, by obtain ⟨q, hq⟩ := h.2; rw [hq]; exact kdn (kre _) q⟩)
      have HSS : Hid (∀ w', Kp wr w' → ((w'.cell? ⟨g, o + k, none⟩ = some (.slice Ai x.length ci) ∧ w'.cell? ⟨g', o' + k, none⟩ = some (.slice Ai' x.length ci')) ∧ Kp wr w')) := Lib.hid (fun w' h => ⟨⟨(h.cell (p := ⟨g, o + k, none⟩) hg).trans c0, (h.cell (p := ⟨g', o' + k, none⟩) hg').trans d0⟩, h⟩)
      have HK0 := Lib.hid (kdr (kre wr))
      clear c0 d0 r0 r1 a0 a1 hxk
      generalize x.length = lx at *
      go_wp2_with fail
      go_region_held3 (fun w' => (w'.cell? ⟨g, o + k, none⟩ = some (.slice Ai lx ci) ∧ w'.cell? ⟨g', o' + k, none⟩ = some (.slice Ai' lx ci')) ∧ Kp wr w')
        (first | exact HSS.out _ HK0.out | exact HSS.out _ (by assumption))
        (first | (go_at_call 9; (with_reducible refine (HE.out _ HK0.out).mono ?_); rintro e w1 ⟨rfl, b1⟩; have hk1 : Kp wr w1 := ktr HK0.out b1))
      (try clear hHeld)
      have hb1 := ktr hb hk1
      clear HSS HK0 hk1 b1
      go_wp2_with fail
      go_roundw
      case rel => exact ⟨k + 1, by omega, by go_num, hb1⟩
      case measure => (simp [intOf] <;> omega)
    · go_wp2_with fail
      go_ret
      exact ⟨rfl, hb⟩

/-- the strings of all lists -/
def cntC (C : List (List ByteArray)) : Nat := (C.map List.length).sum
theorem cntC_take {C : List (List ByteArray)} {k : Nat} {x : List ByteArray} (h : C[k]? = some x) : cntC (C.take (k + 1)) = cntC (C.take k) + x.length := by
  unfold cntC
  rw [List.take_add_one, h]
  simp
theorem cntC_le (C : List (List ByteArray)) (k : Nat) : cntC (C.take k) ≤ cntC C := by
  conv => rhs; rw [← List.take_append_drop k C]
  unfold cntC
  rw [List.map_append, List.sum_append]
  omega
theorem cntC_lens (C : List (List ByteArray)) : cntC C ≤ lensC C := by
  induction C with
  | nil => simp [cntC, lensC]
  | cons x r ih => simp only [cntC, lensC, List.map_cons, List.sum_cons] at ih ⊢; omega
/-- lists of strings that lie between b0 and b1; ns: their lengths -/
def Sls (b0 b1 : Nat) (w : World) (A : Option Addr) (C : List (List ByteArray)) : Prop := ∀ j xs, C[j]? = some xs → ∃ g o Ai ci, A = some ⟨g, o, none⟩ ∧ w.cell? ⟨g, o + j, none⟩ = some (.slice Ai xs.length ci) ∧ Ss b0 b1 w Ai xs.length
theorem Sls.tm {b0 b1 : Nat} {C : List (List ByteArray)} {w w' : World} {A : Option Addr} (h : Sls b0 b1 w A C) (ht : Tm b0 b1 w w') : Sls b0 b1 w' A C := by
  intro j xs hx
  obtain ⟨g, o, Ai, ci, e, hc, hs⟩ := h j xs hx
  exact ⟨g, o, Ai, ci, e, ht.sl _ _ _ _ _ hc, hs.tm ht⟩
theorem RdC.sls {b0 b1 : Nat} {w : World} {A : Option Addr} {C : List (List ByteArray)} (h : RdC b0 b1 w A C) : Sls b0 b1 w A C := by
  intro j xs hx
  obtain ⟨g, o, Ai, ci, e, _, hc, hr, ha, _⟩ := h j xs hx
  refine ⟨g, o, Ai, ci, e, hc, fun i hi => ?_⟩
  obtain ⟨g', o', e', hc'⟩ := hr i xs[i] (List.getElem?_eq_getElem hi)
  obtain ⟨h1, h2, h3⟩ := ha (by omega) _ e'
  exact ⟨g', o', _, e', h1, h2, h3, hc'⟩
set_option maxHeartbeats 1000000 in
theorem markStringSS_tm (b0 b1 : Nat) (A : Option Addr) (c n k0 q0 : Nat) (C : List (List ByteArray)) (w : World) (h : Sls b0 b1 w A C) (hn : C.length = n) (hm : n ≤ 1048576) (h0 : 0 < k0) (hl : k0 + cntC C ≤ 1073741824) (hq : k0 + cntC C = q0) :
    Calls Try.prog 11 #[.slice A n c, .int .i64 k0] w fun e w' => e = .returned (.int .i64 (q0 : Int)) ∧ Tm b0 b1 w w' := by
  have H := Lib.hid h
  have HN := Lib.hid hn
  have HQ := Lib.hid hq
  have HL0 := Lib.hid hl
  clear h hn hq hl
  go_enter Try.func11, Try.ntmps11
  go_wp2_with fail
  go_loopw [1, 5] (fun m i wr => ∃ j p : Nat, j ≤ n ∧ i = .int .i64 j ∧ m = .int .i64 p ∧ Hid (p = k0 + cntC (C.take j)) ∧ Hid (Tm b0 b1 w wr)) (fun _ i _ => n - (intOf i).toNat)
  case atStart => exact ⟨0, k0, Nat.zero_le _, rfl, rfl, Lib.hid (by simp [cntC]), Lib.hid (Tm.refl _ _ _)⟩
  case round =>
    obtain ⟨j, p, hj, rfl, rfl, HP, ht⟩ := hrel
    by_cases hlt : j < n
    · obtain ⟨x, hxk⟩ : ∃ x, C[j]? = some x := ⟨_, List.getElem?_eq_getElem (by rw [HN.out]; exact hlt)⟩
      obtain ⟨g, o, Ai, ci, rfl, hc, hs⟩ := (H.out.tm ht.out) j x hxk
      obtain ⟨q, hqq⟩ : ∃ q, p + x.length = q := ⟨_, rfl⟩
      have HP' : Hid (q = k0 + cntC (C.take (j + 1))) := Lib.hid (by have h1 := cntC_take hxk; have := HP.out; omega)
      have hS := Lib.hid (markStringS_i b0 b1 Ai ci x.length p q wr hs (by have := HP.out; omega) (by have h1 := cntC_take hxk; have h2 := cntC_le C (j + 1); have := HP.out; have := HL0.out; omega) hqq)
      clear hs hqq hxk
      generalize x.length = lx at *
      go_wp2_with fail
      refine hS.out.mono ?_
      rintro e w1 ⟨rfl, t1⟩
      have T0 := Lib.hid (ht.out.trans t1)
      clear hS t1 ht hc
      go_wp2_with fail
      go_roundw
      case rel => exact ⟨j + 1, q, by omega, by go_num, rfl, HP', T0⟩
      case measure => simp [intOf]; omega
    · obtain rfl : j = n := by omega
      have hp : p = q0 := by rw [HP.out, ← HQ.out, List.take_of_length_le (by rw [HN.out]; exact Nat.le_refl _)]
      go_wp2_with fail
      go_ret
      exact ⟨by rw [hp]; rfl, ht.out⟩
end Go.Proofs.Ytioajkkkncjndaa.Sss
