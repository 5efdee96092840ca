/-
  Several texts of one claim in one file: TmL, Wds.
-/
import Derived.Test.YteccmlpibbchbaaGreatDoorGTo
import Derived.Test.YteccmlpibbchbaaGreatDoorLb
import Derived.Test.YteccmlpibbchbaaGreatDoorGLb
/-
  Marks written into a list of entries that is an argument: markEntryS, markLibrary.
-/
namespace Go.Proofs.YteccmlpibbchbaaGreatDoor.Tms
open Go.RowKit Strs Name Nms Ens
set_option linter.unusedVariables false
set_option linter.unusedSimpArgs false

/-- entries that lie between b0 and b1; es: their names' numbers of words -/
def Es (b0 b1 : Nat) (w : World) (A : Option Addr) (es : List (List Nat × List Nat)) : Prop := ∀ j p, es[j]? = some p → ∃ (g o : Nat) (e : En), A = some ⟨g, o, none⟩ ∧ b0 ≤ g ∧ g < b1 ∧ NF w g ∧ e.At w A j ∧ Ns b0 b1 w e.auA p.1 ∧ p.1.length = e.auN ∧ Ns b0 b1 w e.edA p.2 ∧ p.2.length = e.edN
theorem Es.tm {b0 b1 : Nat} {es : List (List Nat × List Nat)} {w w' : World} {A : Option Addr} (h : Es b0 b1 w A es) (ht : Tm b0 b1 w w') : Es b0 b1 w' A es := by
  intro j p hj
  obtain ⟨g, o, e, hA, h0, h1, hn, ⟨g', o', hA', hg, c0, c1, c2, c3, c4, c5, c6, c7, c8, c9, c10, c11, c12, c13⟩, n1, l1, n2, l2⟩ := h j p hj
  obtain ⟨x0, d0⟩ := ht.st _ _ _ c0
  obtain ⟨x1, d1⟩ := ht.it _ _ _ c1
  have d2 := ht.sl _ _ _ _ _ c2
  have d3 := ht.sl _ _ _ _ _ c3
  obtain ⟨x4, d4⟩ := ht.st _ _ _ c4
  obtain ⟨x5, d5⟩ := ht.st _ _ _ c5
  obtain ⟨x6, d6⟩ := ht.st _ _ _ c6
  obtain ⟨x7, d7⟩ := ht.it _ _ _ c7
  obtain ⟨x8, d8⟩ := ht.it _ _ _ c8
  obtain ⟨x9, d9⟩ := ht.it _ _ _ c9
  obtain ⟨x10, d10⟩ := ht.bo _ _ _ c10
  obtain ⟨x11, d11⟩ := ht.it _ _ _ c11
  obtain ⟨x12, d12⟩ := ht.st _ _ _ c12
  obtain ⟨x13, d13⟩ := ht.st _ _ _ c13
  exact ⟨g, o, ⟨x0, x1, e.auA, e.auN, e.auc, e.auL, e.edA, e.edN, e.edc, e.edL, x4, x5, x6, x7, x8, x9, x10, x11, x12, x13⟩, hA, h0, h1, ht.nf _ hn, ⟨g', o', hA', Nat.lt_of_lt_of_le hg ht.size, d0, d1, d2, d3, d4, d5, d6, d7, d8, d9, d10, d11, d12, d13⟩, n1.tm ht, l1, n2.tm ht, l2⟩
/-- the marks that an entry takes -/
def cntE (p : List Nat × List Nat) : Nat := cnt p.1 + cnt p.2 + 12
def cntL (es : List (List Nat × List Nat)) : Nat := (es.map cntE).sum
theorem cntL_take {es : List (List Nat × List Nat)} {k : Nat} {p : List Nat × List Nat} (h : es[k]? = some p) : cntL (es.take (k + 1)) = cntL (es.take k) + cntE p := by
  unfold cntL
  rw [List.take_add_one, h, List.map_append, List.sum_append]
  simp
theorem cntL_le (es : List (List Nat × List Nat)) (k : Nat) : cntL (es.take k) ≤ cntL es := by
  conv => rhs; rw [← List.take_append_drop k es]
  unfold cntL
  rw [List.map_append, List.sum_append]
  omega
theorem cntL_len (es : List (List Nat × List Nat)) : es.length ≤ cntL es := by
  induction es with
  | nil => simp [cntL]
  | cons n r ih =>
    have e : cntL (n :: r) = cntE n + cntL r := by simp [cntL]
    have : 12 ≤ cntE n := by unfold cntE; omega
    rw [e, List.length_cons]
    omega
/-- five stores behind each other, of numbers and a truth value -/
theorem Tm.put5 {b0 b1 g o : Nat} {w : World} {x7 x8 x9 x11 y7 y8 y9 y11 : Int} {x10 y10 : Bool} (h0 : b0 ≤ g) (h1 : g < b1) (c7 : w.cell? ⟨g, o + 7, none⟩ = some (.int .i64 x7)) (c8 : w.cell? ⟨g, o + 8, none⟩ = some (.int .i64 x8)) (c9 : w.cell? ⟨g, o + 9, none⟩ = some (.int .i64 x9)) (c10 : w.cell? ⟨g, o + 10, none⟩ = some (.bool x10)) (c11 : w.cell? ⟨g, o + 11, none⟩ = some (.int .i64 x11)) :
    Tm b0 b1 w (((((w.setCell ⟨g, o + 7, none⟩ (.int .i64 y7)).setCell ⟨g, o + 8, none⟩ (.int .i64 y8)).setCell ⟨g, o + 9, none⟩ (.int .i64 y9)).setCell ⟨g, o + 10, none⟩ (.bool y10)).setCell ⟨g, o + 11, none⟩ (.int .i64 y11)) := by
  have step : ∀ (w : World) (a b : Nat) (u v : Value), a ≠ b → w.cell? ⟨g, o + b, none⟩ = some v → (w.setCell ⟨g, o + a, none⟩ u).cell? ⟨g, o + b, none⟩ = some v := fun w a b u v hab hc => (World.cell?_setCell_other w _ _ _ (fun e => by injection e with _ e2 _; omega)).trans hc
  refine ((((Tm.put h0 h1 c7 rfl).trans (Tm.put h0 h1 (step _ _ _ _ _ (by omega) c8) rfl)).trans (Tm.put h0 h1 (step _ _ _ _ _ (by omega) (step _ _ _ _ _ (by omega) c9)) rfl)).trans (Tm.put h0 h1 (step _ _ _ _ _ (by omega) (step _ _ _ _ _ (by omega) (step _ _ _ _ _ (by omega) c10))) rfl)).trans (Tm.put h0 h1 (step _ _ _ _ _ (by omega) (step _ _ _ _ _ (by omega) (step _ _ _ _ _ (by omega) (step _ _ _ _ _ (by omega) c11)))) rfl)

set_option maxRecDepth 100000 in
set_option maxHeartbeats 16000000 in
theorem markEntryS_tm (b0 b1 : Nat) (A : Option Addr) (c N k0 q0 : Nat) (es : List (List Nat × List Nat)) (w : World) (h : Es b0 b1 w A es) (hn : es.length = N) (h0 : 0 < k0) (hl : k0 + cntL es ≤ 1073741824) (hq : k0 + cntL es = q0) :
    Calls Tryz.prog 37 #[.slice A N c, .int .i64 k0] w fun e w' => e = .returned (.int .i64 (q0 : Int)) ∧ Tm b0 b1 w w' := by
  have H := Lib.hid h
  have HN := Lib.hid hn
  have HQ := Lib.hid hq
  have HL0 := Lib.hid hl
  have hN : N ≤ 1073741824 := by have := cntL_len es; omega
  clear h hn hq hl
  go_enter Tryz.func37, Tryz.ntmps37
  go_wp2_with fail
  go_loopw [1, 5] (fun m i wr => ∃ j p : Nat, j ≤ N ∧ i = .int .i64 j ∧ m = .int .i64 p ∧ Hid (p = k0 + cntL (es.take j)) ∧ Hid (Tm b0 b1 w wr)) (fun _ i _ => N - (intOf i).toNat)
  case atStart => exact ⟨0, k0, Nat.zero_le _, rfl, rfl, Lib.hid rfl, Lib.hid (Tm.refl _ _ _)⟩
  case round =>
    obtain ⟨j, r, hj, rfl, rfl, HP, T0⟩ := hrel
    by_cases hlt : j < N
    · have hjx : j < es.length := by rw [HN.out]; exact hlt
      have HX := Lib.hid (List.getElem?_eq_getElem hjx)
      generalize es[j] = p at *
      obtain ⟨p1, p2⟩ := p
      have hq3 : r + cnt p1 + cnt p2 + 12 ≤ 1073741824 := by have h1 := cntL_take HX.out; have h2 := cntL_le es (j + 1); have := HP.out; have := HL0.out; unfold cntE at h1; dsimp only at h1; omega
      have hp0 : 0 < r := by have := HP.out; omega
      have HP' : Hid (r + cnt p1 + cnt p2 + 12 = k0 + cntL (es.take (j + 1))) := Lib.hid (by have h1 := cntL_take HX.out; have := HP.out; unfold cntE at h1; dsimp only at h1; omega)
      obtain ⟨s1, hs1⟩ : ∃ q, r + 1 + 1 + cnt p1 = q := ⟨_, rfl⟩
      obtain ⟨s2, hs2⟩ : ∃ q, s1 + cnt p2 = q := ⟨_, rfl⟩
      have hs3 : s2 + 10 ≤ 1073741824 := by omega
      have HP'' : Hid (s2 + 10 = k0 + cntL (es.take (j + 1))) := Lib.hid (by have := HP'.out; omega)
      have HS1 := Lib.hid hs1
      have HS2 := Lib.hid hs2
      have hle1 : r + 2 ≤ s1 := by omega
      have hle2 : s1 ≤ s2 := by omega
      clear hs1 hs2 HP' HP hq3
      obtain ⟨g, o, en0, rfl, hg0, hg1, -, -, -, -, -, -⟩ := (H.out.tm T0.out) j _ HX.out
      clear en0
      obtain ⟨g', o', ⟨key, kind, auA, auN, auc, auL, edA, edN, edc, edL, ti, co, pu, y, m, d, ci, vol, pa, cr⟩, e0, -, -, hn0, ⟨g2, o2, e2, -, x0, -, -, -, -, -, -, -, -, -, -, -, -, -⟩, -, -, -, -⟩ := (H.out.tm T0.out) j _ HX.out
      cases e0
      cases e2
      dsimp only at x0
      go_wp2_with fail
      refine (markText_i _ (r) _ (by omega) (by omega) (by omega)).mono ?_
      rintro e u0 ⟨rfl, b0'⟩
      have d0 := (b0'.cell (p := ⟨g, o + j * 14, none⟩) (lt_cell x0)).trans x0
      have f0 := (hn0.below b0').frozen (o + j * 14) none
      have T1 := Lib.hid ((T0.out.trans (Tm.of_below b0')).trans (Tm.put (v := .string (mkT (r))) hg0 hg1 d0 rfl))
      clear x0 b0' hn0 T0
      go_upto_region 5 with fail
      generalize u0.setCell ⟨g, o + j * 14, none⟩ (.string (mkT (r))) = v0 at T1 ⊢
      clear d0 f0
      obtain ⟨g', o', ⟨key, kind, auA, auN, auc, auL, edA, edN, edc, edL, ti, co, pu, y, m, d, ci, vol, pa, cr⟩, e0, -, -, hn0, ⟨g2, o2, e2, -, -, x1, x2, -, -, -, -, -, -, -, -, -, -, -⟩, N1, L1, N2, L2⟩ := (H.out.tm T1.out) j _ HX.out
      cases e0
      cases e2
      dsimp only at x1 x2 N1 L1 N2 L2
      have f1 := hn0.frozen (o + j * 14 + 1) none
      have T1' := Lib.hid (T1.out.trans (Tm.put (v := .int .i64 ((r : Int) + 1)) hg0 hg1 x1 rfl))
      have N1' := N1.tm (Tm.put (b0 := b0) (b1 := b1) (v := .int .i64 ((r : Int) + 1)) hg0 hg1 x1 rfl)
      have y2 := (World.cell?_setCell_other v0 ⟨g, o + j * 14 + 1, none⟩ ⟨g, o + j * 14 + 2, none⟩ (.int .i64 ((r : Int) + 1)) (fun e => by injection e with _ e2 _; omega)).trans x2
      have hk1 : ((r : Int) + 1 + 1) = ((r + 1 + 1 : Nat) : Int) := by omega
      have HC := Lib.hid (markNameS_tm b0 b1 auA auc auN (r + 1 + 1) s1 p1 _ N1' L1 (by omega) (by rw [HS1.out]; omega) HS1.out)
      rw [← hk1] at HC
      clear N1 N2 L1 L2 N1' hk1 T1
      go_wp2_with fail
      refine HC.out.mono ?_
      rintro e u1 ⟨rfl, t1⟩
      have T2 := Lib.hid (T1'.out.trans t1)
      clear HC T1' t1 x1 x2 y2 f1 hn0
      obtain ⟨g', o', ⟨key, kind, auA, auN, auc, auL, edA, edN, edc, edL, ti, co, pu, y, m, d, ci, vol, pa, cr⟩, e0, -, -, hn0, ⟨g2, o2, e2, -, -, -, -, x3, -, -, -, -, -, -, -, -, -, -⟩, N1, L1, N2, L2⟩ := (H.out.tm T2.out) j _ HX.out
      cases e0
      cases e2
      dsimp only at x3 N1 L1 N2 L2
      have HC := Lib.hid (markNameS_tm b0 b1 edA edc edN s1 s2 p2 _ N2 L2 (by omega) (by rw [HS2.out]; omega) HS2.out)
      clear N1 N2 L1 L2
      go_wp2_with fail
      refine HC.out.mono ?_
      rintro e u2 ⟨rfl, t1⟩
      have T3 := Lib.hid (T2.out.trans t1)
      clear HC t1 x3 hn0 T2
      obtain ⟨g', o', ⟨key, kind, auA, auN, auc, auL, edA, edN, edc, edL, ti, co, pu, y, m, d, ci, vol, pa, cr⟩, e0, -, -, hn0, ⟨g2, o2, e2, -, -, -, -, -, x4, -, -, -, -, -, -, -, -, -⟩, -, -, -, -⟩ := (H.out.tm T3.out) j _ HX.out
      cases e0
      cases e2
      dsimp only at x4
      go_wp2_with fail
      refine (markText_i _ (s2) _ (by omega) (by omega) (by omega)).mono ?_
      rintro e u3 ⟨rfl, b0'⟩
      have d0 := (b0'.cell (p := ⟨g, o + j * 14 + 4, none⟩) (lt_cell x4)).trans x4
      have f0 := (hn0.below b0').frozen (o + j * 14 + 4) none
      have T4 := Lib.hid ((T3.out.trans (Tm.of_below b0')).trans (Tm.put (v := .string (mkT (s2))) hg0 hg1 d0 rfl))
      clear x4 b0' hn0 T3
      go_upto_region 11 with fail
      generalize u3.setCell ⟨g, o + j * 14 + 4, none⟩ (.string (mkT (s2))) = v3 at T4 ⊢
      clear d0 f0
      obtain ⟨g', o', ⟨key, kind, auA, auN, auc, auL, edA, edN, edc, edL, ti, co, pu, y, m, d, ci, vol, pa, cr⟩, e0, -, -, hn0, ⟨g2, o2, e2, -, -, -, -, -, -, x5, -, -, -, -, -, -, -, -⟩, -, -, -, -⟩ := (H.out.tm T4.out) j _ HX.out
      cases e0
      cases e2
      dsimp only at x5
      go_wp2_with fail
      refine (markText_i _ (s2 + 1) _ (by omega) (by omega) (by omega)).mono ?_
      rintro e u4 ⟨rfl, b0'⟩
      have d0 := (b0'.cell (p := ⟨g, o + j * 14 + 5, none⟩) (lt_cell x5)).trans x5
      have f0 := (hn0.below b0').frozen (o + j * 14 + 5) none
      have T5 := Lib.hid ((T4.out.trans (Tm.of_below b0')).trans (Tm.put (v := .string (mkT (s2 + 1))) hg0 hg1 d0 rfl))
      clear x5 b0' hn0 T4
      go_upto_region 13 with fail
      generalize u4.setCell ⟨g, o + j * 14 + 5, none⟩ (.string (mkT (s2 + 1))) = v4 at T5 ⊢
      clear d0 f0
      obtain ⟨g', o', ⟨key, kind, auA, auN, auc, auL, edA, edN, edc, edL, ti, co, pu, y, m, d, ci, vol, pa, cr⟩, e0, -, -, hn0, ⟨g2, o2, e2, -, -, -, -, -, -, -, x6, -, -, -, -, -, -, -⟩, -, -, -, -⟩ := (H.out.tm T5.out) j _ HX.out
      cases e0
      cases e2
      dsimp only at x6
      go_wp2_with fail
      refine (markText_i _ (s2 + 1 + 1) _ (by omega) (by omega) (by omega)).mono ?_
      rintro e u5 ⟨rfl, b0'⟩
      have d0 := (b0'.cell (p := ⟨g, o + j * 14 + 6, none⟩) (lt_cell x6)).trans x6
      have f0 := (hn0.below b0').frozen (o + j * 14 + 6) none
      have T6 := Lib.hid ((T5.out.trans (Tm.of_below b0')).trans (Tm.put (v := .string (mkT (s2 + 1 + 1))) hg0 hg1 d0 rfl))
      clear x6 b0' hn0 T5
      go_upto_region 15 with fail
      generalize u5.setCell ⟨g, o + j * 14 + 6, none⟩ (.string (mkT (s2 + 1 + 1))) = v5 at T6 ⊢
      clear d0 f0
      obtain ⟨g', o', ⟨key, kind, auA, auN, auc, auL, edA, edN, edc, edL, ti, co, pu, y, m, d, ci, vol, pa, cr⟩, e0, -, -, hn0, ⟨g2, o2, e2, -, -, -, -, -, -, -, -, x7, x8, x9, x10, x11, -, -⟩, -, -, -, -⟩ := (H.out.tm T6.out) j _ HX.out
      cases e0
      cases e2
      dsimp only at x7 x8 x9 x10 x11
      have f7 := hn0.frozen (o + j * 14 + 7) none
      have f8 := hn0.frozen (o + j * 14 + 8) none
      have f9 := hn0.frozen (o + j * 14 + 9) none
      have f10 := hn0.frozen (o + j * 14 + 10) none
      have f11 := hn0.frozen (o + j * 14 + 11) none
      have T7 : Hid (Tm b0 b1 w (((((v5.setCell ⟨g, o + j * 14 + 7, none⟩ (.int .i64 ((s2 : Int) + 1 + 1 + 1))).setCell ⟨g, o + j * 14 + 7 + 1, none⟩ (.int .i64 ((s2 : Int) + 1 + 1 + 1 + 1))).setCell ⟨g, o + j * 14 + 7 + 2, none⟩ (.int .i64 ((s2 : Int) + 1 + 1 + 1 + 1 + 1))).setCell ⟨g, o + j * 14 + 7 + 3, none⟩ (.bool (((s2 : Int) + 1 + 1 + 1 + 1 + 1 + 1) % 3 == 0))).setCell ⟨g, o + j * 14 + 11, none⟩ (.int .i64 ((s2 : Int) + 1 + 1 + 1 + 1 + 1 + 1 + 1)))) := Lib.hid (T6.out.trans (Tm.put5 (o := o + j * 14) hg0 hg1 x7 x8 x9 x10 x11))
      go_upto_region 25 with fail
      generalize (((((v5.setCell ⟨g, o + j * 14 + 7, none⟩ (.int .i64 ((s2 : Int) + 1 + 1 + 1))).setCell ⟨g, o + j * 14 + 7 + 1, none⟩ (.int .i64 ((s2 : Int) + 1 + 1 + 1 + 1))).setCell ⟨g, o + j * 14 + 7 + 2, none⟩ (.int .i64 ((s2 : Int) + 1 + 1 + 1 + 1 + 1))).setCell ⟨g, o + j * 14 + 7 + 3, none⟩ (.bool (((s2 : Int) + 1 + 1 + 1 + 1 + 1 + 1) % 3 == 0))).setCell ⟨g, o + j * 14 + 11, none⟩ (.int .i64 ((s2 : Int) + 1 + 1 + 1 + 1 + 1 + 1 + 1))) = v6 at T7 ⊢
      clear x7 x8 x9 x10 x11 f7 f8 f9 f10 f11 hn0 T6
      obtain ⟨g', o', ⟨key, kind, auA, auN, auc, auL, edA, edN, edc, edL, ti, co, pu, y, m, d, ci, vol, pa, cr⟩, e0, -, -, hn0, ⟨g2, o2, e2, -, -, -, -, -, -, -, -, -, -, -, -, -, x12, -⟩, -, -, -, -⟩ := (H.out.tm T7.out) j _ HX.out
      cases e0
      cases e2
      dsimp only at x12
      go_wp2_with fail
      refine (markText_i _ (s2 + 1 + 1 + 1 + 1 + 1 + 1 + 1 + 1) _ (by omega) (by omega) (by omega)).mono ?_
      rintro e u6 ⟨rfl, b0'⟩
      have d0 := (b0'.cell (p := ⟨g, o + j * 14 + 12, none⟩) (lt_cell x12)).trans x12
      have f0 := (hn0.below b0').frozen (o + j * 14 + 12) none
      have T8 := Lib.hid ((T7.out.trans (Tm.of_below b0')).trans (Tm.put (v := .string (mkT (s2 + 1 + 1 + 1 + 1 + 1 + 1 + 1 + 1))) hg0 hg1 d0 rfl))
      clear x12 b0' hn0 T7
      go_upto_region 27 with fail
      generalize u6.setCell ⟨g, o + j * 14 + 12, none⟩ (.string (mkT (s2 + 1 + 1 + 1 + 1 + 1 + 1 + 1 + 1))) = v7 at T8 ⊢
      clear d0 f0
      obtain ⟨g', o', ⟨key, kind, auA, auN, auc, auL, edA, edN, edc, edL, ti, co, pu, y, m, d, ci, vol, pa, cr⟩, e0, -, -, hn0, ⟨g2, o2, e2, -, -, -, -, -, -, -, -, -, -, -, -, -, -, x13⟩, -, -, -, -⟩ := (H.out.tm T8.out) j _ HX.out
      cases e0
      cases e2
      dsimp only at x13
      go_wp2_with fail
      refine (markText_i _ (s2 + 1 + 1 + 1 + 1 + 1 + 1 + 1 + 1 + 1) _ (by omega) (by omega) (by omega)).mono ?_
      rintro e u7 ⟨rfl, b0'⟩
      have d0 := (b0'.cell (p := ⟨g, o + j * 14 + 13, none⟩) (lt_cell x13)).trans x13
      have f0 := (hn0.below b0').frozen (o + j * 14 + 13) none
      have T9 := Lib.hid ((T8.out.trans (Tm.of_below b0')).trans (Tm.put (v := .string (mkT (s2 + 1 + 1 + 1 + 1 + 1 + 1 + 1 + 1 + 1))) hg0 hg1 d0 rfl))
      clear x13 b0' hn0 T8
      go_upto_region 29 with fail
      generalize u7.setCell ⟨g, o + j * 14 + 13, none⟩ (.string (mkT (s2 + 1 + 1 + 1 + 1 + 1 + 1 + 1 + 1 + 1))) = v8 at T9 ⊢
      clear d0 f0
      go_wp2_with fail
      go_roundw
      case rel => exact ⟨j + 1, s2 + 10, by omega, by go_num, by go_num, HP'', T9⟩
      case measure => (simp [intOf] <;> omega)
    · obtain rfl : j = N := by omega
      have hp : r = q0 := by rw [HP.out, ← HQ.out, List.take_of_length_le (by rw [HN.out]; exact Nat.le_refl _)]
      go_wp2_with fail
      go_ret
      exact ⟨by rw [hp]; rfl, T0.out⟩
set_option maxRecDepth 100000 in
set_option maxHeartbeats 4000000 in
theorem markLib_tm (b0 b1 : Nat) (A : Option Addr) (c N k0 q0 : Nat) (es : List (List Nat × List Nat)) (w : World) (h : Es b0 b1 w A es) (hn : es.length = N) (h0 : 0 < k0) (hl : k0 + cntL es ≤ 1073741824) (hq : k0 + cntL es = q0) :
    Calls Tryz.prog 14 #[.agg #[.slice A N c], .int .i64 k0] w fun e w' => e = .returned (.int .i64 (q0 : Int)) ∧ Tm b0 b1 w w' := by
  have HB := Lib.hid ((Below.refl _ w).alloc (Nat.le_refl _) (.cells #[.slice A N c] 33))
  have hc0 : (w.alloc (.cells #[.slice A N c] 33)).cell? ⟨w.heap.size, 0, none⟩ = some (.slice A N c) := by simp
  have HM := Lib.hid (markEntryS_tm b0 b1 A c N k0 q0 es _ (h.tm (Tm.of_below HB.out)) hn h0 hl hq)
  clear h hn hl hq
  go_enter Tryz.func14, Tryz.ntmps14
  go_wp2_with fail
  generalize w.alloc _ = w0 at HB hc0 HM ⊢
  refine HM.out.mono ?_
  rintro e w1 ⟨rfl, t1⟩
  go_wp2_with fail
  go_ret
  exact ⟨rfl, (Tm.of_below HB.out).trans t1⟩
end Go.Proofs.YteccmlpibbchbaaGreatDoor.Tms
/-
  A fresh library's marks: the numbers of words of its names, and what they come to. (Parted from LaE.)
-/
namespace Go.Proofs.YteccmlpibbchbaaGreatDoor.La
open Go.RowKit Pl Strs Help Name Stands SplitPl NmPl Word Part NGood Nms Jn Ens Lbs
set_option linter.unusedSimpArgs false
set_option linter.unusedVariables false

/-- the numbers of words of a library's names -/
def wds (M : List En) : List (List Nat × List Nat) := M.map fun x => (x.auL.map Nm.n, x.edL.map Nm.n)
theorem fr_es {b0 b1 g : Nat} {w : World} {M : List En} (h : FrE w g M) (h0 : b0 ≤ g) (h1 : w.heap.size ≤ b1) : Tms.Es b0 b1 w (some ⟨g, 0, none⟩) (wds M) := by
  intro j p hj
  unfold wds at hj
  rw [List.getElem?_map] at hj
  obtain ⟨x, hx, rfl⟩ := Option.map_eq_some_iff.1 hj
  obtain ⟨g2, g3, e2, e3, l2, l3, f2, f3, n2, n3⟩ := h.2.1 x (List.mem_of_getElem? hx)
  refine ⟨g, 0, x, rfl, h0, Nat.lt_of_lt_of_le h.2.2.lt h1, h.2.2, (h.1 j x hx).2, ?_, by rw [List.length_map]; exact n2, ?_, by rw [List.length_map]; exact n3⟩
  · rw [e2]; exact Tms.fr_ns' f2 (by omega) h1
  · rw [e3]; exact Tms.fr_ns' f3 (by omega) h1
theorem wds_len (M : List En) : (wds M).length = M.length := by simp [wds]
theorem wds_cnt {w : World} {A : Option Addr} {M : List En} (h : RdE w A M) : Tms.cntL (wds M) ≤ 12 * M.length + 3 * szEs M := by
  have hx : ∀ x ∈ M, Tms.cntE (x.auL.map Nm.n, x.edL.map Nm.n) ≤ 12 + 3 * x.sz := fun x hx => by
    obtain ⟨k, hk, rfl⟩ := List.getElem_of_mem hx
    obtain ⟨r1, r2, r3, r4⟩ := (h k _ (List.getElem?_eq_getElem hk)).1
    have h1 := Tms.cnt_sz r1
    have h2 := Tms.cnt_sz r3
    unfold Tms.cntE En.sz
    dsimp only
    omega
  clear h
  unfold wds
  induction M with
  | nil => simp [Tms.cntL]
  | cons x r ih =>
    have h1 := ih (fun y hy => hx y (List.mem_cons_of_mem _ hy))
    have h2 := hx x (List.mem_cons_self ..)
    have e1 : Tms.cntL ((x :: r).map fun x => (x.auL.map Nm.n, x.edL.map Nm.n)) = Tms.cntE (x.auL.map Nm.n, x.edL.map Nm.n) + Tms.cntL (r.map fun x => (x.auL.map Nm.n, x.edL.map Nm.n)) := by simp [Tms.cntL]
    have e2 : szEs (x :: r) = x.sz + szEs r := by simp [szEs]
    rw [e1, e2, List.length_cons]
    omega
theorem szEs_kk {w w' : World} {A B : Option Addr} {L M : List En} (hM : RdE w B M) (hL : RdE w' A L) (h : M.map En.key4 = L.map En.key4) : szEs M = szEs L := by
  unfold szEs
  congr 1
  refine List.ext_getElem? fun j => ?_
  have hj := congrArg (fun l => l[j]?) h
  simp only [List.getElem?_map] at hj ⊢
  cases hx : M[j]? with
  | none => rw [hx] at hj; cases hy : L[j]? with
    | none => rfl
    | some y => rw [hy] at hj; cases hj
  | some x => rw [hx] at hj; cases hy : L[j]? with
    | none => rw [hy] at hj; cases hj
    | some y =>
      rw [hy] at hj
      simp only [Option.map_some, Option.some.injEq] at hj ⊢
      exact sz_k (hM j x hx).1 (hL j y hy).1 hj
end Go.Proofs.YteccmlpibbchbaaGreatDoor.La
