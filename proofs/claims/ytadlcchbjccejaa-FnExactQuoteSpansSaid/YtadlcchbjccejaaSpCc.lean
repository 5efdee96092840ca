/-
  slices.Grow of nil and slices.Concat at lists of spans.
-/
import Derived.Test.YtadlcchbjccejaaSpB
import Derived.Lib.AppendZeros
import Derived.Laws.NewBlocks
import Derived.Shelf.Spec.SlicesInsert
namespace Go.Proofs.Ytadlcchbjccejaa.SpCc
open Go.RowKit SpPl Sp SpA SpB
set_option linter.unusedSimpArgs false
set_option linter.unusedVariables false

def GrPost (w : World) (e : Ending) (w' : World) : Prop := ∃ v, e = .returned v ∧ w'.ownsRow w.heap.size 38 3 v 0 [] ∧ Kp w w'
set_option maxRecDepth 100000 in
set_option maxHeartbeats 2000000 in
theorem grow_nil (n : Nat) (w : World) (hn : n ≤ 2097152) : Calls Try.prog 35 #[.slice none 0 0, .int .i64 n] w (GrPost w) := by
  obtain ⟨i0, hi, hz0, hz1, hz2⟩ := info_parts infoSp
  by_cases h0 : n = 0
  · subst h0
    go_enter Try.func35, Try.ntmps35
    go_wp2_with fail
    go_ret
    exact ⟨_, rfl, World.ownsRow_nil _ _ _ _, Below.refl _ _⟩
  · have h1 : 0 < n := by omega
    have hpos : (0 : Int) < (n : Int) := by omega
    have hrz : ∀ ty, (Builtin.append_ #[24, 3] ty #[.slice none 0 0, .int .i64 (n : Int)]).run Try.prog w =
        .ok (.slice (some ⟨w.heap.size, 0, none⟩) n (grownCap w n 0 38)) (w.drew.alloc (.cells (Builtin.zeroCells (Value.agg #[.string ByteArray.empty, .bool false, .bool false]).cells n ++ Builtin.zeroCells (Value.agg #[.string ByteArray.empty, .bool false, .bool false]).cells (grownCap w n 0 38 - n)) 38)) := fun ty =>
      Lib.run_append_nil_zeros w 24 3 ty 38 i0 _ .i64 .i64 Try.underlying24 Try.underlying3 hi hz0 n h1 (by omega) (by omega) (by rw [hz2]; omega)
    obtain ⟨G, hG⟩ : ∃ G, grownCap w n 0 38 = G := ⟨_, rfl⟩
    have hGn : n ≤ G := by rw [← hG]; exact grownCap_ge w _ _ _
    have hGm : G ≤ maxLen := by rw [← hG]; exact grownCap_le_maxLen w n 0 38 (by unfold maxLen; omega)
    obtain ⟨ROW, hROW⟩ : ∃ ROW : Array Value, Builtin.zeroCells (Value.agg #[.string ByteArray.empty, .bool false, .bool false]).cells n ++ Builtin.zeroCells (Value.agg #[.string ByteArray.empty, .bool false, .bool false]).cells (G - n) = ROW := ⟨_, rfl⟩
    have hRl : ROW.size = G * 3 := by
      rw [← hROW]
      simp only [Array.size_append, Builtin.zeroCells, Value.cells, Array.size_map, Array.size_range]
      simp
      omega
    rw [hG, hROW] at hrz
    have HO : Hid ((w.drew.alloc (.cells ROW 38)).ownsRow w.heap.size 38 3 (.slice (some ⟨w.heap.size, 0, none⟩) 0 G) 0 []) := Lib.hid
      ⟨by simp, .inr ⟨w.heap.size, G, ROW, rfl, Nat.le_refl _, heap_alloc_new w.drew _, Nat.zero_le _, hGm, hRl, by simp⟩⟩
    have hb : Kp w (w.drew.alloc (.cells ROW 38)) := kal (kdr (Kp.refl' _)) _
    clear hG hROW hRl hGm
    go_enter Try.func35, Try.ntmps35
    go_wp2_with (at_builtin; refine Lib.wpList_append_run _ rfl _ _ _ _ rfl _ _ rfl rfl _ _ (hrz _) ?_)
    go_ret
    first | exact ⟨_, rfl, HO.out, hb⟩ | exact ⟨_, rfl, own_kept HO.out (kdr (Kp.refl' _)), kdr hb⟩

/-- a list of spans as a piece: its block, its capacity, itself -/
abbrev Pc := Nat × Nat × List Sp1
/-- the pieces put together -/
def all (Q : List Pc) : List Sp1 := Q.flatMap fun x => x.2.2
theorem all_take {Q : List Pc} {k : Nat} {x : Pc} (h : Q[k]? = some x) : all (Q.take (k + 1)) = all (Q.take k) ++ x.2.2 := by
  unfold all
  rw [List.take_add_one, h, List.flatMap_append]
  simp
theorem all_len_le (Q : List Pc) (k : Nat) : (all (Q.take k)).length ≤ (all Q).length := by
  conv => rhs; rw [← List.take_append_drop k Q]
  unfold all
  rw [List.flatMap_append, List.length_append]
  omega
/-- the block b holds the pieces -/
def RdQs (w : World) (b : Nat) (Q : List Pc) : Prop := ∀ j x, Q[j]? = some x → b < w.heap.size ∧ w.cell? ⟨b, j, none⟩ = some (.slice (some ⟨x.1, 0, none⟩) x.2.2.length x.2.1) ∧ x.1 < w.heap.size ∧ ∀ i u, (pcells x.2.2)[i]? = some u → w.cell? ⟨x.1, i, none⟩ = some u
theorem RdQs.kp {w w' : World} {b : Nat} {Q : List Pc} (h : RdQs w b Q) (hb : Kp w w') : RdQs w' b Q := by
  intro j x hx
  obtain ⟨h1, h2, h3, h4⟩ := h j x hx
  exact ⟨Nat.lt_of_lt_of_le h1 (ksz hb), (hb.cell (p := ⟨b, j, none⟩) h1).trans h2, Nat.lt_of_lt_of_le h3 (ksz hb), fun i u hu => (hb.cell (p := ⟨x.1, i, none⟩) h3).trans (h4 i u hu)⟩
theorem pc1 (L : List Sp1) : ∀ v ∈ pcells L, v.oneCell' = true := by
  intro v hv
  unfold pcells at hv
  obtain ⟨x, _, hx⟩ := List.mem_flatMap.1 hv
  simp at hx
  rcases hx with rfl | rfl | rfl <;> rfl
/-- what a slice that reads as spans has in its cells -/
theorem rd_cells {w : World} {g : Nat} {L : List Sp1} (h : RdSp w (some ⟨g, 0, none⟩) L) : ∀ i u, (pcells L)[i]? = some u → w.cell? ⟨g, i, none⟩ = some u := by
  intro i u hu
  have hi := (List.getElem?_eq_some_iff.1 hu).1
  rw [pcells_len] at hi
  have hj : i / 3 < L.length := by omega
  have hx := List.getElem?_eq_getElem hj
  obtain ⟨g', o, e, _, h0, h1, h2⟩ := h (i / 3) _ hx
  obtain ⟨e0, e1, e2⟩ := pcells_at hx
  cases e
  rw [Nat.zero_add] at h0 h1 h2
  have hm : i = i / 3 * 3 ∨ i = i / 3 * 3 + 1 ∨ i = i / 3 * 3 + 2 := by omega
  rcases hm with hm | hm | hm
  · rw [hm] at hu ⊢; rw [e0] at hu; cases hu; exact h0
  · rw [hm] at hu ⊢; rw [e1] at hu; cases hu; exact h1
  · rw [hm] at hu ⊢; rw [e2] at hu; cases hu; exact h2
def CcPost (L : List Sp1) (w : World) (e : Ending) (w' : World) : Prop := ∃ v, e = .returned v ∧ w'.ownsRow w.heap.size 38 3 v L.length (pcells L) ∧ Kp w w'
set_option maxRecDepth 100000 in
set_option maxHeartbeats 2000000 in
theorem concat_q (b m c : Nat) (Q : List Pc) (w : World) (h : RdQs w b Q) (hm : Q.length = m) (hs : (all Q).length ≤ 2097152) (hm2 : m ≤ 16) :
    Calls Try.prog 22 #[.slice (some ⟨b, 0, none⟩) m c] w (CcPost (all Q) w) := by
  obtain ⟨i0, hi, hz0, hz1, hz2⟩ := info_parts infoSp
  have H := Lib.hid h
  have HM := Lib.hid hm
  have HS := Lib.hid hs
  have HLe := Lib.hid (fun k => all_len_le Q k)
  clear h hm hs
  go_enter Try.func22, Try.ntmps22
  go_wp2_with fail
  go_loop [3, 11] (fun z i => ∃ k : Nat, k ≤ m ∧ i = .int .i64 k ∧ ∃ t : Nat, t ≤ 2097152 ∧ Hid ((all (Q.take k)).length = t) ∧ z = .int .i64 t) (fun _ i => m - (intOf i).toNat)
  case atStart => exact ⟨0, Nat.zero_le _, rfl, 0, Nat.zero_le _, Lib.hid rfl, rfl⟩
  case round =>
    obtain ⟨k, hk, rfl, t, ht, HT, rfl⟩ := hrel
    by_cases hlt : k < m
    · obtain ⟨x, hx⟩ : ∃ x, Q[k]? = some x := ⟨_, List.getElem?_eq_getElem (by rw [HM.out]; exact hlt)⟩
      obtain ⟨h1, h2, h3, _⟩ := H.out k x hx
      have HT2 := Lib.hid (all_take hx)
      have hle := HLe.out (k + 1)
      rw [HT2.out, List.length_append, HT.out] at hle
      have hs2 := HS.out
      have HT3 : Hid ((all (Q.take (k + 1))).length = t + x.2.2.length) := Lib.hid (by rw [HT2.out, List.length_append, HT.out])
      obtain ⟨g, cx, L⟩ := x
      dsimp only at h2 hle HT3
      generalize L.length = lx at *
      have hle2 : t + lx ≤ 2097152 := by omega
      clear hx HT2 hle hs2
      go_wp2_with fail
      go_round
      case rel => exact ⟨k + 1, by omega, by go_num, t + lx, hle2, HT3, by go_num⟩
      case measure => (simp [intOf] <;> omega)
    · obtain rfl : k = m := by omega
      have HTt : Hid ((all Q).length = t) := Lib.hid (by rw [← HT.out, List.take_of_length_le (by rw [HM.out]; exact Nat.le_refl _)])
      go_wp2_with (first | (go_at_call 35; refine (grow_nil t w ht).mono ?_; rintro e w1 ⟨v1, rfl, o1, b1⟩))
      have HO1 := Lib.hid o1
      clear o1
      go_loopw [6, 27] (fun v i wr => ∃ j : Nat, j ≤ k ∧ i = .int .i64 j ∧ Hid (wr.ownsRow w.heap.size 38 3 v (all (Q.take j)).length (pcells (all (Q.take j)))) ∧ Kp w wr) (fun _ i _ => k - (intOf i).toNat)
      case atStart => exact ⟨0, Nat.zero_le _, rfl, HO1, b1⟩
      case round =>
        obtain ⟨j, hj, rfl, HO, hb⟩ := hrel
        by_cases hlj : j < k
        · obtain ⟨x, hx⟩ : ∃ x, Q[j]? = some x := ⟨_, List.getElem?_eq_getElem (by rw [HM.out]; exact hlj)⟩
          obtain ⟨h1, h2, h3, h4⟩ := (H.out.kp hb) j x hx
          have HT2 := Lib.hid (all_take hx)
          have hle := HLe.out (j + 1)
          rw [HT2.out, List.length_append] at hle
          have hs2 := HS.out
          obtain ⟨g, cx, L⟩ := x
          dsimp only at h2 h3 h4 hle HT2
          have hsw := ksz hb
          have HC := Lib.hid (show ∀ i u, (pcells L)[i]? = some u → wr.cell? ((⟨g, 0, none⟩ : Addr).add i) = some u from fun i u hu => by rw [Go.WideShapes.add_plain, Nat.zero_add]; exact h4 i u hu)
          have hbd : (all (Q.take j)).length + L.length ≤ 2097152 := by omega
          clear hx hle hs2 h4
          obtain ⟨lx, hlx⟩ : ∃ lx, L.length = lx := ⟨_, rfl⟩
          have HLx := Lib.hid hlx
          rw [hlx] at h2 hbd
          clear hlx
          go_wp2_with (at_builtin; refine wpList_append_own _ rfl _ _ 24 rfl w.heap.size 38 i0 _ 3 24 Try.underlying24 hi hz0 hz1 hz2 rfl (by decide) _ _ _ rfl HO.out ⟨g, 0, none⟩ lx cx (pcells L) rfl (by rw [pcells_len, HLx.out]) HC.out (pc1 L) (by unfold maxLen; omega) (by omega) hsw ?_; intro v8 w8 hown hgrow hne)
          have HO8 : Hid (w8.ownsRow w.heap.size 38 3 v8 (all (Q.take (j + 1))).length (pcells (all (Q.take (j + 1))))) := Lib.hid (by rw [HT2.out, List.length_append, HLx.out, pcells_app]; exact hown)
          have hb8 : Kp w w8 := below_grown hb hgrow hsw (fun q hq => (HO.out.lt q hq).1)
          clear hown hgrow hne
          go_roundw
          case rel => exact ⟨j + 1, by omega, by go_num, HO8, hb8⟩
          case measure => (simp [intOf] <;> omega)
        · obtain rfl : j = k := by omega
          have HE : Hid (all (Q.take j) = all Q) := Lib.hid (by rw [List.take_of_length_le (by rw [HM.out]; exact Nat.le_refl _)])
          go_wp2_with fail
          go_ret
          exact ⟨_, rfl, by rw [← HE.out]; exact HO.out, hb⟩
end Go.Proofs.Ytadlcchbjccejaa.SpCc
