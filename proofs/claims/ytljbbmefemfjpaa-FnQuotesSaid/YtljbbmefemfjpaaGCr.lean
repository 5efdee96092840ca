/-
  Several texts of one claim in one file: SpCc, SpRs.
-/
import Derived.Test.YtljbbmefemfjpaaSpB
import Derived.Lib.AppendZeros
import Derived.Laws.NewBlocks
import Derived.Shelf.Spec.SlicesInsert
import Derived.Test.YtljbbmefemfjpaaSpN
/-
  slices.Grow of nil and slices.Concat at lists of spans.
-/
namespace Go.Proofs.Ytljbbmefemfjpaa.SpCc
open Go.RowKit SpPl Sp SpA SpB
set_option linter.unusedSimpArgs false
set_option linter.unusedVariables false

def GrPost (w : World) (e : Ending) (w' : World) : Prop := ∃ v, e = .returned v ∧ w'.ownsRow w.heap.size 70 3 v 0 [] ∧ Kp w w'
set_option maxRecDepth 100000 in
set_option maxHeartbeats 2000000 in
theorem grow_nil (n : Nat) (w : World) (hn : n ≤ 2097152) : Calls Try.prog 63 #[.slice none 0 0, .int .i64 n] w (GrPost w) := by
  obtain ⟨i0, hi, hz0, hz1, hz2⟩ := info_parts infoSp
  by_cases h0 : n = 0
  · subst h0
    go_enter Try.func63, Try.ntmps63
    go_wp2_with fail
    go_ret
    exact ⟨_, rfl, World.ownsRow_nil _ _ _ _, Below.refl _ _⟩
  · have h1 : 0 < n := by omega
    have hpos : (0 : Int) < (n : Int) := by omega
    have hrz : ∀ ty, (Builtin.append_ #[36, 3] ty #[.slice none 0 0, .int .i64 (n : Int)]).run Try.prog w =
        .ok (.slice (some ⟨w.heap.size, 0, none⟩) n (grownCap w n 0 70)) (w.drew.alloc (.cells (Builtin.zeroCells (Value.agg #[.string ByteArray.empty, .bool false, .bool false]).cells n ++ Builtin.zeroCells (Value.agg #[.string ByteArray.empty, .bool false, .bool false]).cells (grownCap w n 0 70 - n)) 70)) := fun ty =>
      Lib.run_append_nil_zeros w 36 3 ty 70 i0 _ .i64 .i64 Try.underlying36 Try.underlying3 hi hz0 n h1 (by omega) (by omega) (by rw [hz2]; omega)
    obtain ⟨G, hG⟩ : ∃ G, grownCap w n 0 70 = G := ⟨_, rfl⟩
    have hGn : n ≤ G := by rw [← hG]; exact grownCap_ge w _ _ _
    have hGm : G ≤ maxLen := by rw [← hG]; exact grownCap_le_maxLen w n 0 70 (by unfold maxLen; omega)
    obtain ⟨ROW, hROW⟩ : ∃ ROW : Array Value, Builtin.zeroCells (Value.agg #[.string ByteArray.empty, .bool false, .bool false]).cells n ++ Builtin.zeroCells (Value.agg #[.string ByteArray.empty, .bool false, .bool false]).cells (G - n) = ROW := ⟨_, rfl⟩
    have hRl : ROW.size = G * 3 := by
      rw [← hROW]
      simp only [Array.size_append, Builtin.zeroCells, Value.cells, Array.size_map, Array.size_range]
      simp
      omega
    rw [hG, hROW] at hrz
    have HO : Hid ((w.drew.alloc (.cells ROW 70)).ownsRow w.heap.size 70 3 (.slice (some ⟨w.heap.size, 0, none⟩) 0 G) 0 []) := Lib.hid
      ⟨by simp, .inr ⟨w.heap.size, G, ROW, rfl, Nat.le_refl _, heap_alloc_new w.drew _, Nat.zero_le _, hGm, hRl, by simp⟩⟩
    have hb : Kp w (w.drew.alloc (.cells ROW 70)) := kal (kdr (Kp.refl' _)) _
    clear hG hROW hRl hGm
    go_enter Try.func63, Try.ntmps63
    go_wp2_with (at_builtin; refine Lib.wpList_append_run _ rfl _ _ _ _ rfl _ _ rfl rfl _ _ (hrz _) ?_)
    go_ret
    first | exact ⟨_, rfl, HO.out, hb⟩ | exact ⟨_, rfl, own_kept HO.out (kdr (Kp.refl' _)), kdr hb⟩

/-- a list of spans as a piece: its block, its capacity, itself -/
abbrev Pc := Nat × Nat × List Sp1
/-- the pieces put together -/
def all (Q : List Pc) : List Sp1 := Q.flatMap fun x => x.2.2
theorem all_take {Q : List Pc} {k : Nat} {x : Pc} (h : Q[k]? = some x) : all (Q.take (k + 1)) = all (Q.take k) ++ x.2.2 := by
  unfold all
  rw [List.take_add_one, h, List.flatMap_append]
  simp
theorem all_len_le (Q : List Pc) (k : Nat) : (all (Q.take k)).length ≤ (all Q).length := by
  conv => rhs; rw [← List.take_append_drop k Q]
  unfold all
  rw [List.flatMap_append, List.length_append]
  omega
/-- the block b holds the pieces -/
def RdQs (w : World) (b : Nat) (Q : List Pc) : Prop := ∀ j x, Q[j]? = some x → b < w.heap.size ∧ w.cell? ⟨b, j, none⟩ = some (.slice (some ⟨x.1, 0, none⟩) x.2.2.length x.2.1) ∧ x.1 < w.heap.size ∧ ∀ i u, (pcells x.2.2)[i]? = some u → w.cell? ⟨x.1, i, none⟩ = some u
theorem RdQs.kp {w w' : World} {b : Nat} {Q : List Pc} (h : RdQs w b Q) (hb : Kp w w') : RdQs w' b Q := by
  intro j x hx
  obtain ⟨h1, h2, h3, h4⟩ := h j x hx
  exact ⟨Nat.lt_of_lt_of_le h1 (ksz hb), (hb.cell (p := ⟨b, j, none⟩) h1).trans h2, Nat.lt_of_lt_of_le h3 (ksz hb), fun i u hu => (hb.cell (p := ⟨x.1, i, none⟩) h3).trans (h4 i u hu)⟩
theorem pc1 (L : List Sp1) : ∀ v ∈ pcells L, v.oneCell' = true := by
  intro v hv
  unfold pcells at hv
  obtain ⟨x, _, hx⟩ := List.mem_flatMap.1 hv
  simp at hx
  rcases hx with rfl | rfl | rfl <;> rfl
/-- what a slice that reads as spans has in its cells -/
theorem rd_cells {w : World} {g : Nat} {L : List Sp1} (h : RdSp w (some ⟨g, 0, none⟩) L) : ∀ i u, (pcells L)[i]? = some u → w.cell? ⟨g, i, none⟩ = some u := by
  intro i u hu
  have hi := (List.getElem?_eq_some_iff.1 hu).1
  rw [pcells_len] at hi
  have hj : i / 3 < L.length := by omega
  have hx := List.getElem?_eq_getElem hj
  obtain ⟨g', o, e, _, h0, h1, h2⟩ := h (i / 3) _ hx
  obtain ⟨e0, e1, e2⟩ := pcells_at hx
  cases e
  rw [Nat.zero_add] at h0 h1 h2
  have hm : i = i / 3 * 3 ∨ i = i / 3 * 3 + 1 ∨ i = i / 3 * 3 + 2 := by omega
  rcases hm with hm | hm | hm
  · rw [hm] at hu ⊢; rw [e0] at hu; cases hu; exact h0
  · rw [hm] at hu ⊢; rw [e1] at hu; cases hu; exact h1
  · rw [hm] at hu ⊢; rw [e2] at hu; cases hu; exact h2
def CcPost (L : List Sp1) (w : World) (e : Ending) (w' : World) : Prop := ∃ v, e = .returned v ∧ w'.ownsRow w.heap.size 70 3 v L.length (pcells L) ∧ Kp w w'
set_option maxRecDepth 100000 in
set_option maxHeartbeats 2000000 in
theorem concat_q (b m c : Nat) (Q : List Pc) (w : World) (h : RdQs w b Q) (hm : Q.length = m) (hs : (all Q).length ≤ 2097152) (hm2 : m ≤ 16) :
    Calls Try.prog 44 #[.slice (some ⟨b, 0, none⟩) m c] w (CcPost (all Q) w) := by
  obtain ⟨i0, hi, hz0, hz1, hz2⟩ := info_parts infoSp
  have H := Lib.hid h
  have HM := Lib.hid hm
  have HS := Lib.hid hs
  have HLe := Lib.hid (fun k => all_len_le Q k)
  clear h hm hs
  go_enter Try.func44, Try.ntmps44
  go_wp2_with fail
  go_loop [3, 11] (fun z i => ∃ k : Nat, k ≤ m ∧ i = .int .i64 k ∧ ∃ t : Nat, t ≤ 2097152 ∧ Hid ((all (Q.take k)).length = t) ∧ z = .int .i64 t) (fun _ i => m - (intOf i).toNat)
  case atStart => exact ⟨0, Nat.zero_le _, rfl, 0, Nat.zero_le _, Lib.hid rfl, rfl⟩
  case round =>
    obtain ⟨k, hk, rfl, t, ht, HT, rfl⟩ := hrel
    by_cases hlt : k < m
    · obtain ⟨x, hx⟩ : ∃ x, Q[k]? = some x := ⟨_, List.getElem?_eq_getElem (by rw [HM.out]; exact hlt)⟩
      obtain ⟨h1, h2, h3, _⟩ := H.out k x hx
      have HT2 := Lib.hid (all_take hx)
      have hle := HLe.out (k + 1)
      rw [HT2.out, List.length_append, HT.out] at hle
      have hs2 := HS.out
      have HT3 : Hid ((all (Q.take (k + 1))).length = t + x.2.2.length) := Lib.hid (by rw [HT2.out, List.length_append, HT.out])
      obtain ⟨g, cx, L⟩ := x
      dsimp only at h2 hle HT3
      generalize L.length = lx at *
      have hle2 : t + lx ≤ 2097152 := by omega
      clear hx HT2 hle hs2
      go_wp2_with fail
      go_round
      case rel => exact ⟨k + 1, by omega, by go_num, t + lx, hle2, HT3, by go_num⟩
      case measure => (simp [intOf] <;> omega)
    · obtain rfl : k = m := by omega
      have HTt : Hid ((all Q).length = t) := Lib.hid (by rw [← HT.out, List.take_of_length_le (by rw [HM.out]; exact Nat.le_refl _)])
      go_wp2_with (first | (go_at_call 63; refine (grow_nil t w ht).mono ?_; rintro e w1 ⟨v1, rfl, o1, b1⟩))
      have HO1 := Lib.hid o1
      clear o1
      go_loopw [6, 27] (fun v i wr => ∃ j : Nat, j ≤ k ∧ i = .int .i64 j ∧ Hid (wr.ownsRow w.heap.size 70 3 v (all (Q.take j)).length (pcells (all (Q.take j)))) ∧ Kp w wr) (fun _ i _ => k - (intOf i).toNat)
      case atStart => exact ⟨0, Nat.zero_le _, rfl, HO1, b1⟩
      case round =>
        obtain ⟨j, hj, rfl, HO, hb⟩ := hrel
        by_cases hlj : j < k
        · obtain ⟨x, hx⟩ : ∃ x, Q[j]? = some x := ⟨_, List.getElem?_eq_getElem (by rw [HM.out]; exact hlj)⟩
          obtain ⟨h1, h2, h3, h4⟩ := (H.out.kp hb) j x hx
          have HT2 := Lib.hid (all_take hx)
          have hle := HLe.out (j + 1)
          rw [HT2.out, List.length_append] at hle
          have hs2 := HS.out
          obtain ⟨g, cx, L⟩ := x
          dsimp only at h2 h3 h4 hle HT2
          have hsw := ksz hb
          have HC := Lib.hid (show ∀ i u, (pcells L)[i]? = some u → wr.cell? ((⟨g, 0, none⟩ : Addr).add i) = some u from fun i u hu => by rw [Go.WideShapes.add_plain, Nat.zero_add]; exact h4 i u hu)
          have hbd : (all (Q.take j)).length + L.length ≤ 2097152 := by omega
          clear hx hle hs2 h4
          obtain ⟨lx, hlx⟩ : ∃ lx, L.length = lx := ⟨_, rfl⟩
          have HLx := Lib.hid hlx
          rw [hlx] at h2 hbd
          clear hlx
          go_wp2_with (at_builtin; refine wpList_append_own _ rfl _ _ 36 rfl w.heap.size 70 i0 _ 3 24 Try.underlying36 hi hz0 hz1 hz2 rfl (by decide) _ _ _ rfl HO.out ⟨g, 0, none⟩ lx cx (pcells L) rfl (by rw [pcells_len, HLx.out]) HC.out (pc1 L) (by unfold maxLen; omega) (by omega) hsw ?_; intro v8 w8 hown hgrow hne)
          have HO8 : Hid (w8.ownsRow w.heap.size 70 3 v8 (all (Q.take (j + 1))).length (pcells (all (Q.take (j + 1))))) := Lib.hid (by rw [HT2.out, List.length_append, HLx.out, pcells_app]; exact hown)
          have hb8 : Kp w w8 := below_grown hb hgrow hsw (fun q hq => (HO.out.lt q hq).1)
          clear hown hgrow hne
          go_roundw
          case rel => exact ⟨j + 1, by omega, by go_num, HO8, hb8⟩
          case measure => (simp [intOf] <;> omega)
        · obtain rfl : j = k := by omega
          have HE : Hid (all (Q.take j) = all Q) := Lib.hid (by rw [List.take_of_length_le (by rw [HM.out]; exact Nat.le_refl _)])
          go_wp2_with fail
          go_ret
          exact ⟨_, rfl, by rw [← HE.out]; exact HO.out, hb⟩
end Go.Proofs.Ytljbbmefemfjpaa.SpCc
/-
  respelled, respellSpans and normalResult of the program.
-/
namespace Go.Proofs.Ytljbbmefemfjpaa.SpRs
open Go.RowKit SpPl Sp SpA SpB SpG SpNs SpNi SpN
set_option linter.unusedSimpArgs false
set_option linter.unusedVariables false

set_option maxHeartbeats 400000 in
theorem resp_any (l : ByteArray) (f b : Bool) (t : ByteArray) (w : World) :
    Calls Try.prog 62 #[spV l f b, .string t] w fun e w' => e = .returned (spV t f b) ∧ Below w.heap.size w w' := by
  go_enter Try.func62, Try.ntmps62
  go_wp2_with fail
  exact bodyPost_ret (v := spV t f b) (by simp [results, Try.results62, go_sem]) rfl ⟨rfl, by
    repeat (first | exact Below.refl _ _ | (refine Below.setCell ?_ (by simp) _) | (refine Below.alloc ?_ (by simp) _))⟩


/-- the spans with the bytes of a text from place o on -/
def rsp (t : ByteArray) : Nat → List Sp1 → List Sp1
  | _, [] => []
  | o, x :: r => ⟨t.extract o (o + x.l.size), x.f, x.t⟩ :: rsp t (o + x.l.size) r
theorem rsp_snoc (t : ByteArray) (o : Nat) (M : List Sp1) (x : Sp1) : rsp t o (M ++ [x]) = rsp t o M ++ [⟨t.extract (o + szL M) (o + szL M + x.l.size), x.f, x.t⟩] := by
  induction M generalizing o with
  | nil => simp [rsp, szL]
  | cons y r ih =>
    have e : szL (y :: r) = y.l.size + szL r := by simp [szL]
    rw [List.cons_append, rsp, rsp, ih, e, List.cons_append]
    rw [show o + y.l.size + szL r = o + (y.l.size + szL r) by omega]
theorem rsp_take {L : List Sp1} {k : Nat} {x : Sp1} (t : ByteArray) (o : Nat) (h : L[k]? = some x) : rsp t o (L.take (k + 1)) = rsp t o (L.take k) ++ [⟨t.extract (o + szL (L.take k)) (o + szL (L.take k) + x.l.size), x.f, x.t⟩] := by
  rw [List.take_add_one, h]
  exact rsp_snoc t o _ x
theorem rsp_len (t : ByteArray) (o : Nat) (L : List Sp1) : (rsp t o L).length = L.length := by
  induction L generalizing o with
  | nil => rfl
  | cons x r ih => rw [rsp, List.length_cons, ih, List.length_cons]
theorem rsp_sz (t : ByteArray) (o : Nat) (L : List Sp1) : szL (rsp t o L) ≤ szL L := by
  induction L generalizing o with
  | nil => exact Nat.le_refl _
  | cons x r ih =>
    have e : szL (x :: r) = x.l.size + szL r := by simp [szL]
    have e2 : szL (rsp t o (x :: r)) = (t.extract o (o + x.l.size)).size + szL (rsp t (o + x.l.size) r) := by rw [rsp]; simp [szL]
    have := ih (o + x.l.size)
    rw [e, e2, ByteArray.size_extract]
    omega
def RsPost (t : ByteArray) (L : List Sp1) (w : World) (e : Ending) (w' : World) : Prop := ∃ v, e = .returned v ∧ w'.ownsRow w.heap.size 70 3 v (rsp t 0 L).length (pcells (rsp t 0 L)) ∧ Below w.heap.size w w'

set_option maxRecDepth 100000 in
set_option maxHeartbeats 4000000 in
theorem respell_i (A : Option Addr) (c N : Nat) (L : List Sp1) (t : ByteArray) (w : World) (h : RdSp w A L) (hn : L.length = N) (hN : N ≤ 1048576) (hs : szL L ≤ t.size) (ht : t.size ≤ 1048576) :
    Calls Try.prog 43 #[.slice A N c, .string t] w (RsPost t L w) := by
  obtain ⟨i0, hi, hz0, hz1, hz2⟩ := info_parts infoSp
  have HR := Lib.hid h
  have HN := Lib.hid hn
  have HL := Lib.hid hs
  have HO0 : Hid ((w.alloc (.cells #[] 70)).ownsRow w.heap.size 70 3 (.slice (some ⟨w.heap.size, 0, none⟩) 0 0) 0 (pcells (rsp t 0 (L.take 0)))) := Lib.hid (own_nil0 w)
  have HB0 := Lib.hid (box_below w (.cells #[] 70))
  clear h hn hs
  go_enter Try.func43, Try.ntmps43
  go_wp2_with fail
  go_loopw [1, 5, 12] (fun u v q wr => ∃ k : Nat, k ≤ N ∧ q = .int .i64 k ∧ (∃ x : ByteArray, Hid (x = t.extract (szL (L.take k)) t.size) ∧ u = .string x) ∧ Hid (wr.ownsRow w.heap.size 70 3 v k (pcells (rsp t 0 (L.take k)))) ∧ Below w.heap.size w wr) (fun _ _ q _ => N - (intOf q).toNat)
  case atStart => exact ⟨0, Nat.zero_le _, rfl, ⟨t, Lib.hid (by simp [szL]), rfl⟩, HO0, HB0.out⟩
  case round =>
    obtain ⟨k, hk, rfl, ⟨u, HU, rfl⟩, HO, hb⟩ := hrel
    obtain ⟨A2, c2, rfl, _, RM, hc2⟩ := own_rdp HO.out
    by_cases hlt : k < N
    · have hkx : k < L.length := by rw [HN.out]; exact hlt
      have hx? := List.getElem?_eq_getElem hkx
      obtain ⟨g, o, rfl, hg, c0, c1, c3⟩ := (HR.out.below hb) k L[k] hx?
      have HF := Lib.hid (rsp_take t 0 hx?)
      have HZt := Lib.hid (szL_take hx?)
      have HZl := Lib.hid (szL_le L (k + 1))
      clear hx? RM
      generalize L[k] = x at *
      obtain ⟨l, f, b⟩ := x
      dsimp only at c0 c1 c3 HF HZt
      obtain ⟨p, hp⟩ : ∃ p, szL (L.take k) = p := ⟨_, rfl⟩
      rw [hp] at HF HZt HU
      obtain ⟨n, hln⟩ : ∃ n, l.size = n := ⟨_, rfl⟩
      have hle : p + n ≤ t.size := by have h1 := HZt.out; have h2 := HZl.out; have h3 := HL.out; omega
      have hus : u.size = t.size - p := by rw [HU.out, ByteArray.size_extract]; omega
      have hnu : n ≤ u.size := by omega
      have he1 : u.extract 0 n = t.extract (0 + p) (0 + p + n) := by rw [HU.out, ByteArray.extract_extract, Nat.min_eq_left (by omega)]; congr 1 <;> omega
      have he2 : u.extract n u.size = t.extract (szL (L.take (k + 1))) t.size := by rw [hus, HZt.out, HU.out, hln, ByteArray.extract_extract, Nat.min_eq_right (by omega)]
      rw [hln] at HF
      have HU2 := Lib.hid he2
      have HF2 := Lib.hid (show pcells (rsp t 0 (L.take (k + 1))) = pcells (rsp t 0 (L.take k)) ++ [.string (u.extract 0 n), .bool f, .bool b] by rw [HF.out, pcells_app, he1]; rfl)
      have HLn := Lib.hid hln
      have hul : u.size ≤ 1048576 := by omega
      clear he1 he2 hp HF HZt HZl hus hln
      have D5 := P3.new wr l f b 70
      have hb5 : Kp wr (wr.alloc (.cells #[.string l, .bool f, .bool b] 70)) := box_below _ _
      go_upto_region 6 with fail
      rw [HLn.out]
      generalize wr.alloc (.cells #[.string l, .bool f, .bool b] 70) = w5 at D5 hb5 ⊢
      generalize hB : wr.heap.size = B at D5 ⊢
      obtain ⟨p5, e0, e1, e2⟩ := D5
      have HO5 := Lib.hid (fun w' (h : Kp w5 w') => own_kept HO.out (Below.trans hb5 (h.mono hb5.size)))
      have hbw : Kp w w5 := hb.trans (Below.mono hb5 hb.size)
      have hrow : ∀ q, (Value.slice A2 k c2).ownBlock = some q → w.heap.size ≤ q ∧ q < B := fun q hq => by have := HO.out.lt q hq; omega
      have HRw := Lib.hid hrow
      have HSS : Hid (∀ w', Kp w5 w' → ((w'.cell? ⟨B, 0, none⟩ = some (.string l) ∧ w'.cell? ⟨B, 1, none⟩ = some (.bool f) ∧ w'.cell? ⟨B, 2, none⟩ = some (.bool b)) ∧ Kp w w')) := Lib.hid (fun w' h => ⟨⟨(h.cell (p := ⟨B, 0, none⟩) p5).trans e0, (h.cell (p := ⟨B, 1, none⟩) p5).trans e1, (h.cell (p := ⟨B, 2, none⟩) p5).trans e2⟩, Below.trans hbw (h.mono hbw.size)⟩)
      have HK0 := Lib.hid (Kp.drew w5)
      have hs5 := Below.size hbw
      clear c0 c1 c3 hB e0 e1 e2 hrow
      go_region_held3 (fun w' => (w'.cell? ⟨B, 0, none⟩ = some (.string l) ∧ w'.cell? ⟨B, 1, none⟩ = some (.bool f) ∧ w'.cell? ⟨B, 2, none⟩ = some (.bool b)) ∧ Kp w w')
        (first | exact HSS.out _ HK0.out | assumption | exact HSS.out _ (by repeat (first | assumption | exact Kp.refl' _ | refine kdr ?_ | refine kal ?_ _)))
        (first
          | (go_at_call 62; with_reducible refine (resp_any l f b _ _).mono ?_; rintro e w1 ⟨rfl, b1⟩; have hk1 : Kp w5 w1 := Kp.next HK0.out b1)
          | (refine step_own (by rfl) _ _ _ (by rfl) w.heap.size 70 i0 _ 3 24 Try.underlying36 hi hz0 hz1 hz2 rfl (by decide) _ k _ (by rfl) (HO5.out _ (by repeat (first | assumption | exact Kp.refl' _ | refine kdr ?_ | refine kal ?_ _))) ⟨_, 0, none⟩ 1 1 [.string (u.extract 0 n), .bool f, .bool b] (by rfl) rfl (cells3_heap (t := 70) (fr := (0, 0)) (by exact heap_alloc_new _ _)) (by simp [Value.oneCell']) (by unfold maxLen; omega) (by omega) (by have := ksz hk1; simp; omega) ?_; intro v8 w8 hown8 hgrow8 hne8; have hk8 := far3' (HSS.out _ (by repeat (first | assumption | exact Kp.refl' _ | refine kdr ?_ | refine kal ?_ _))) hgrow8 HRw.out (Nat.lt_of_lt_of_le p5 (ksz (W := w5) (by repeat (first | assumption | exact Kp.refl' _ | refine kdr ?_ | refine kal ?_ _)))))
          )
      have hbw8 := hk8.2
      have HO8 : Hid (w8.ownsRow w.heap.size 70 3 v8 (k + 1) (pcells (rsp t 0 (L.take (k + 1))))) := Lib.hid (by rw [HF2.out]; exact hown8)
      clear hown8 hgrow8 hne8 hk8 HSS HK0 HO5 hk1 b1
      (try clear hHeld)
      go_wp2_with fail
      go_roundw
      case rel => exact ⟨k + 1, by omega, by go_num, ⟨_, HU2, rfl⟩, HO8, hbw8⟩
      case measure => (simp [intOf] <;> omega)
    · obtain rfl : k = N := by omega
      have hE : L.take k = L := List.take_of_length_le (by rw [HN.out]; exact Nat.le_refl _)
      have HOf : Hid (wr.ownsRow w.heap.size 70 3 (.slice A2 k c2) (rsp t 0 L).length (pcells (rsp t 0 L))) := Lib.hid (by
        have := HO.out
        rw [hE] at this
        rw [rsp_len, HN.out]
        exact this)
      clear hE HO RM HU
      go_wp2_with fail
      go_ret
      exact ⟨_, rfl, HOf.out, hb⟩
/-- what normalResult answers -/
def nrR (L : List Sp1) : List Sp1 := if okS (nmL L) then nmL L else []
def NrPost (L : List Sp1) (w : World) (e : Ending) (w' : World) : Prop := ∃ v, e = .returned (.tuple #[v, .bool (okS (nmL L))]) ∧ w'.ownsRow w.heap.size 70 3 v (nrR L).length (pcells (nrR L)) ∧ Below w.heap.size w w'
set_option maxHeartbeats 1000000 in
theorem normres_i (A : Option Addr) (c N : Nat) (L : List Sp1) (w : World) (h : RdSp w A L) (hn : L.length = N) (hN : N ≤ 1048576) (hs : szL L ≤ 1048576) :
    Calls Try.prog 42 #[.slice A N c] w (NrPost L w) := by
  have HM := Lib.hid (normal_i A c N L w h hn hN hs)
  have hf := nm_facts L
  have HG := Lib.hid (fun (A : Option Addr) (c : Nat) (w' : World) (h : RdSp w' A (nmL L)) => good_i A c (nmL L).length (nmL L) (okS (nmL L)) w' h rfl (by omega) (by omega) rfl)
  unfold NrPost nrR
  generalize nmL L = M at HM HG ⊢
  cases hz : okS M with
  | false =>
    rw [hz] at HG
    clear h hn hs hf hz
    go_enter Try.func42, Try.ntmps42
    go_wp2_with fail
    refine HM.out.mono ?_
    rintro e w1 ⟨v1, rfl, o1, b1⟩
    obtain ⟨A1, c1, rfl, _, R1, _⟩ := own_rdp o1
    have HG1 := Lib.hid (HG.out A1 c1 w1 R1)
    clear o1 R1
    go_wp2_with fail
    refine HG1.out.mono ?_
    rintro e w2 ⟨rfl, b2⟩
    have hb := b1.trans (b2.mono b1.size)
    have ho := row_base' hb.size (own_nil0 w2)
    have hb3 := hb.trans ((box_below w2 (.cells #[] 70)).mono hb.size)
    clear b1 b2
    go_wp2_with fail
    go_ret2
    exact ⟨_, rfl, ho, hb3⟩
  | true =>
    rw [hz] at HG
    clear h hn hs hf hz
    go_enter Try.func42, Try.ntmps42
    go_wp2_with fail
    refine HM.out.mono ?_
    rintro e w1 ⟨v1, rfl, o1, b1⟩
    obtain ⟨A1, c1, rfl, _, R1, _⟩ := own_rdp o1
    have HG1 := Lib.hid (HG.out A1 c1 w1 R1)
    have HO1 := Lib.hid o1
    clear o1 R1
    go_wp2_with fail
    refine HG1.out.mono ?_
    rintro e w2 ⟨rfl, b2⟩
    have hb := b1.trans (b2.mono b1.size)
    have HO2 := Lib.hid (own_kept HO1.out b2)
    clear b1 b2 HO1
    go_wp2_with fail
    go_ret2
    exact ⟨_, rfl, HO2.out, hb⟩
end Go.Proofs.Ytljbbmefemfjpaa.SpRs
