/-
  Several texts of one claim in one file: Ce, Ce2, Ce3.
-/
import Derived.Test.YtmopncojgkmkpaaGreatDoorGCm
import Derived.Test.YtmopncojgkmkpaaGreatDoorGDt
import Derived.Test.YtmopncojgkmkpaaGreatDoorGCl
import Derived.Test.YtmopncojgkmkpaaGreatDoorEn
import Derived.Test.YtmopncojgkmkpaaGreatDoorVei
/-
  Contracts of the main names of an entry, of the order of entries, and of CompareEntries of both.
-/
namespace Go.Proofs.YtmopncojgkmkpaaGreatDoor.Ce
open Go.RowKit Pl Strs Help Name Stands SplitPl NmPl Word Part NGood Nms Ens CeN Fo FoPl
open Cmp (cmpS)
set_option linter.unusedSimpArgs false
set_option linter.unusedVariables false

theorem dates_i (y m d : Int) (c : Bool) (y' m' d' : Int) (c' : Bool) (x : Int) (w : World) (ha : DtPl.okB y m d c = true) (hb : DtPl.okB y' m' d' c' = true) (hx : DtPl.cmpD y m d c y' m' d' c' = x) :
    Calls Tryz.prog 40 #[Dt.dtV y m d c, Dt.dtV y' m' d' c'] w fun e w' => e = .returned (.int .i64 x) ∧ Below w.heap.size w w' := by
  have bb := boxes w (.cells #[.int .i64 y, .int .i64 m, .int .i64 d, .bool c] 31) (.cells #[.int .i64 y', .int .i64 m', .int .i64 d', .bool c'] 31)
  have HB := Lib.hid bb
  have HC := Lib.hid (fun w => Dt.iCompareD y m d c y' m' d' c' true true x w ha hb (by simpa using hx))
  clear bb ha hb hx
  go_enter Tryz.func40, Tryz.ntmps40
  go_wp2_with fail
  refine (HC.out _).mono ?_
  rintro e w1 ⟨rfl, b1⟩
  go_wp2_with fail
  go_ret
  exact ⟨rfl, HB.out.trans (b1.mono HB.out.size)⟩
set_option maxHeartbeats 1000000 in
theorem main_i (key : ByteArray) (kind : Int) (auA : Option Addr) (auN : Nat) (auc : Nat) (auL : List Nm) (edA : Option Addr) (edN : Nat) (edc : Nat) (edL : List Nm) (ti : ByteArray) (co : ByteArray) (pu : ByteArray) (y : Int) (m : Int) (d : Int) (ci : Bool) (vol : Int) (pa : ByteArray) (cr : ByteArray) (mA : Option Addr) (mN mc : Nat) (w : World) (hm : (if 0 < auN then (auA, auN, auc) else (edA, edN, edc)) = (mA, mN, mc)) :
    Calls Tryz.prog 38 #[.agg #[.string key, .int .i64 kind, .slice auA auN auc, .slice edA edN edc, .string ti, .string co, .string pu, .int .i64 y, .int .i64 m, .int .i64 d, .bool ci, .int .i64 vol, .string pa, .string cr]] w fun e w' => e = .returned (.slice mA mN mc) ∧ Below w.heap.size w w' := by
  have HB := Lib.hid ((Below.refl _ w).alloc (Nat.le_refl _) (.cells #[.string key, .int .i64 kind, .slice auA auN auc, .slice edA edN edc, .string ti, .string co, .string pu, .int .i64 y, .int .i64 m, .int .i64 d, .bool ci, .int .i64 vol, .string pa, .string cr] 33))
  by_cases h : 0 < auN
  · rw [if_pos h] at hm
    simp only [Prod.mk.injEq] at hm
    obtain ⟨rfl, rfl, rfl⟩ := hm
    go_enter Tryz.func38, Tryz.ntmps38
    go_wp2_with fail
    go_ret
    exact ⟨rfl, HB.out⟩
  · rw [if_neg h] at hm
    simp only [Prod.mk.injEq] at hm
    obtain ⟨rfl, rfl, rfl⟩ := hm
    go_enter Tryz.func38, Tryz.ntmps38
    go_wp2_with fail
    go_ret
    exact ⟨rfl, HB.out⟩
set_option maxHeartbeats 1000000 in
theorem main_s (key : ByteArray) (kind : Int) (auA : Option Addr) (auN : Nat) (auc : Nat) (auL : List Nm) (edA : Option Addr) (edN : Nat) (edc : Nat) (edL : List Nm) (ti : ByteArray) (co : ByteArray) (pu : ByteArray) (y : Int) (m : Int) (d : Int) (ci : Bool) (vol : Int) (pa : ByteArray) (cr : ByteArray) (mA : Option Addr) (mN mc : Nat) (w : World) (hm : (if 0 < auN then (auA, auN, auc) else (edA, edN, edc)) = (mA, mN, mc)) :
    Calls Tryz.prog 25 #[.agg #[.string key, .int .i64 kind, .slice auA auN auc, .slice edA edN edc, .string ti, .string co, .string pu, .int .i64 y, .int .i64 m, .int .i64 d, .bool ci, .int .i64 vol, .string pa, .string cr]] w fun e w' => e = .returned (.slice mA mN mc) ∧ Below w.heap.size w w' := by
  have HB := Lib.hid ((Below.refl _ w).alloc (Nat.le_refl _) (.cells #[.string key, .int .i64 kind, .slice auA auN auc, .slice edA edN edc, .string ti, .string co, .string pu, .int .i64 y, .int .i64 m, .int .i64 d, .bool ci, .int .i64 vol, .string pa, .string cr] 33))
  by_cases h : 0 < auN
  · rw [if_pos h] at hm
    simp only [Prod.mk.injEq] at hm
    obtain ⟨rfl, rfl, rfl⟩ := hm
    go_enter Tryz.func25, Tryz.ntmps25
    go_wp2_with fail
    go_ret
    exact ⟨rfl, HB.out⟩
  · rw [if_neg h] at hm
    simp only [Prod.mk.injEq] at hm
    obtain ⟨rfl, rfl, rfl⟩ := hm
    go_enter Tryz.func25, Tryz.ntmps25
    go_wp2_with fail
    go_ret
    exact ⟨rfl, HB.out⟩
theorem sNames (A B : Option Addr) (c d N N' : Nat) (L M : List Nm) (r : Int) (w : World) (h1 : RdN0 w A L) (h2 : RdN0 w B M) (hn : L.length = N) (hm : M.length = N') (hN : N ≤ 4) (hN' : N' ≤ 4) (ok1 : ∀ x ∈ L, x.ok = true) (ok2 : ∀ x ∈ M, x.ok = true) (hr : cnL L M = r) :
    Calls Tryz.prog 24 #[.slice A N c, .slice B N' d] w fun e w' => e = .returned (.int .i64 r) ∧ Below w.heap.size w w' := by
  subst hr; exact names_s A B c d N N' L M w h1 h2 hn hm hN hN' ok1 ok2
theorem collS (a b : ByteArray) (r : Int) (w : World) (ha : a.size ≤ 1048576) (hb : b.size ≤ 1048576) (hr : colV a b = r) :
    Calls Tryz.prog 27 #[.string a, .string b] w fun e w' => e = .returned (.int .i64 r) ∧ Below w.heap.size w w' := by
  subst hr; exact collate_s a b w ha hb
theorem textS (a b : ByteArray) (r : Int) (w : World) (hr : cmpS a b = r) :
    Calls Tryz.prog 29 #[.string a, .string b] w fun e w' => e = .returned (.int .i64 r) ∧ w = w' := by
  subst hr; exact Cmp.l2Text_any a b w
theorem or_cons (a : Int) (l : List Int) : Dt.orL (a :: l) = if a = 0 then Dt.orL l else a := rfl
set_option maxRecDepth 100000 in
set_option maxHeartbeats 16000000 in
theorem compare_s (key : ByteArray) (kind : Int) (auA : Option Addr) (auN : Nat) (auc : Nat) (auL : List Nm) (edA : Option Addr) (edN : Nat) (edc : Nat) (edL : List Nm) (ti : ByteArray) (co : ByteArray) (pu : ByteArray) (y : Int) (m : Int) (d : Int) (ci : Bool) (vol : Int) (pa : ByteArray) (cr : ByteArray) (key2 : ByteArray) (kind2 : Int) (auA2 : Option Addr) (auN2 : Nat) (auc2 : Nat) (auL2 : List Nm) (edA2 : Option Addr) (edN2 : Nat) (edc2 : Nat) (edL2 : List Nm) (ti2 : ByteArray) (co2 : ByteArray) (pu2 : ByteArray) (y2 : Int) (m2 : Int) (d2' : Int) (ci2 : Bool) (vol2 : Int) (pa2 : ByteArray) (cr2 : ByteArray) (mA : Option Addr) (mN mc : Nat) (mL : List Nm) (mA2 : Option Addr) (mN2 mc2 : Nat) (mL2 : List Nm) (r1 r2 r3 r4 r5 : Int) (w : World)
    (hm : (if 0 < auN then (auA, auN, auc) else (edA, edN, edc)) = (mA, mN, mc)) (hm2 : (if 0 < auN2 then (auA2, auN2, auc2) else (edA2, edN2, edc2)) = (mA2, mN2, mc2))
    (q1 : RdN0 w mA mL) (q2 : RdN0 w mA2 mL2) (n1 : mL.length = mN) (n2 : mL2.length = mN2) (z1 : mN ≤ 4) (z2 : mN2 ≤ 4) (k1 : ∀ x ∈ mL, x.ok = true) (k2 : ∀ x ∈ mL2, x.ok = true)
    (d1 : DtPl.okB y m d ci = true) (d2 : DtPl.okB y2 m2 d2' ci2 = true) (t1 : ti.size ≤ 1048576) (t2 : ti2.size ≤ 1048576)
    (h1 : cnL mL mL2 = r1) (h2 : DtPl.cmpD y m d ci y2 m2 d2' ci2 = r2) (h3 : colV (ba (drA ti.data.toList)) (ba (drA ti2.data.toList)) = r3) (h4 : DtPl.cmpI vol vol2 = r4) (h5 : cmpS key key2 = r5) :
    Calls Tryz.prog 11 #[.agg #[.string key, .int .i64 kind, .slice auA auN auc, .slice edA edN edc, .string ti, .string co, .string pu, .int .i64 y, .int .i64 m, .int .i64 d, .bool ci, .int .i64 vol, .string pa, .string cr], .agg #[.string key2, .int .i64 kind2, .slice auA2 auN2 auc2, .slice edA2 edN2 edc2, .string ti2, .string co2, .string pu2, .int .i64 y2, .int .i64 m2, .int .i64 d2', .bool ci2, .int .i64 vol2, .string pa2, .string cr2]] w fun e w' => e = .returned (.int .i64 (Dt.orL [r1, r2, r3, r4, r5])) ∧ Below w.heap.size w w' := by
  obtain ⟨W0, hW0⟩ : ∃ W0, W0 = (w.alloc (.cells #[.string key, .int .i64 kind, .slice auA auN auc, .slice edA edN edc, .string ti, .string co, .string pu, .int .i64 y, .int .i64 m, .int .i64 d, .bool ci, .int .i64 vol, .string pa, .string cr] 33)).alloc (.cells #[.string key2, .int .i64 kind2, .slice auA2 auN2 auc2, .slice edA2 edN2 edc2, .string ti2, .string co2, .string pu2, .int .i64 y2, .int .i64 m2, .int .i64 d2', .bool ci2, .int .i64 vol2, .string pa2, .string cr2] 33) := ⟨_, rfl⟩
  have HB : Hid (Below w.heap.size w W0) := Lib.hid (by rw [hW0]; exact boxes _ _ _)
  have HC1 : Hid (E14 W0 w.heap.size (⟨key, kind, auA, auN, auc, auL, edA, edN, edc, edL, ti, co, pu, y, m, d, ci, vol, pa, cr⟩ : En)) := Lib.hid (by rw [hW0]; exact (E14.new w (⟨key, kind, auA, auN, auc, auL, edA, edN, edc, edL, ti, co, pu, y, m, d, ci, vol, pa, cr⟩ : En) 33).below ((Below.refl _ _).alloc (Nat.le_refl _) _))
  have HC2 : Hid (E14 W0 (w.heap.size + 1) (⟨key2, kind2, auA2, auN2, auc2, auL2, edA2, edN2, edc2, edL2, ti2, co2, pu2, y2, m2, d2', ci2, vol2, pa2, cr2⟩ : En)) := Lib.hid (by
    rw [hW0]
    have := E14.new (w.alloc (.cells #[.string key, .int .i64 kind, .slice auA auN auc, .slice edA edN edc, .string ti, .string co, .string pu, .int .i64 y, .int .i64 m, .int .i64 d, .bool ci, .int .i64 vol, .string pa, .string cr] 33)) (⟨key2, kind2, auA2, auN2, auc2, auL2, edA2, edN2, edc2, edL2, ti2, co2, pu2, y2, m2, d2', ci2, vol2, pa2, cr2⟩ : En) 33
    simpa using this)
  have HS : Hid (∀ w', Kept W0 w' → ((w'.cell? ⟨w.heap.size, 0, none⟩ = some (.string key) ∧ w'.cell? ⟨w.heap.size, 1, none⟩ = some (.int .i64 kind) ∧ w'.cell? ⟨w.heap.size, 2, none⟩ = some (.slice auA auN auc) ∧ w'.cell? ⟨w.heap.size, 3, none⟩ = some (.slice edA edN edc) ∧ w'.cell? ⟨w.heap.size, 4, none⟩ = some (.string ti) ∧ w'.cell? ⟨w.heap.size, 5, none⟩ = some (.string co) ∧ w'.cell? ⟨w.heap.size, 6, none⟩ = some (.string pu) ∧ w'.cell? ⟨w.heap.size, 7, none⟩ = some (.int .i64 y) ∧ w'.cell? ⟨w.heap.size, 8, none⟩ = some (.int .i64 m) ∧ w'.cell? ⟨w.heap.size, 9, none⟩ = some (.int .i64 d) ∧ w'.cell? ⟨w.heap.size, 10, none⟩ = some (.bool ci) ∧ w'.cell? ⟨w.heap.size, 11, none⟩ = some (.int .i64 vol) ∧ w'.cell? ⟨w.heap.size, 12, none⟩ = some (.string pa) ∧ w'.cell? ⟨w.heap.size, 13, none⟩ = some (.string cr)) ∧ (w'.cell? ⟨(w.heap.size + 1), 0, none⟩ = some (.string key2) ∧ w'.cell? ⟨(w.heap.size + 1), 1, none⟩ = some (.int .i64 kind2) ∧ w'.cell? ⟨(w.heap.size + 1), 2, none⟩ = some (.slice auA2 auN2 auc2) ∧ w'.cell? ⟨(w.heap.size + 1), 3, none⟩ = some (.slice edA2 edN2 edc2) ∧ w'.cell? ⟨(w.heap.size + 1), 4, none⟩ = some (.string ti2) ∧ w'.cell? ⟨(w.heap.size + 1), 5, none⟩ = some (.string co2) ∧ w'.cell? ⟨(w.heap.size + 1), 6, none⟩ = some (.string pu2) ∧ w'.cell? ⟨(w.heap.size + 1), 7, none⟩ = some (.int .i64 y2) ∧ w'.cell? ⟨(w.heap.size + 1), 8, none⟩ = some (.int .i64 m2) ∧ w'.cell? ⟨(w.heap.size + 1), 9, none⟩ = some (.int .i64 d2') ∧ w'.cell? ⟨(w.heap.size + 1), 10, none⟩ = some (.bool ci2) ∧ w'.cell? ⟨(w.heap.size + 1), 11, none⟩ = some (.int .i64 vol2) ∧ w'.cell? ⟨(w.heap.size + 1), 12, none⟩ = some (.string pa2) ∧ w'.cell? ⟨(w.heap.size + 1), 13, none⟩ = some (.string cr2)) ∧ Kept W0 w')) := Lib.hid (fun w' h => ⟨(HC1.out.below h).2, (HC2.out.below h).2, h⟩)
  have HK0 : Hid (Kept W0 W0.drew) := Lib.hid (Kept.drew W0)
  have HM1 := Lib.hid hm
  have HM2 := Lib.hid hm2
  have Q1 := Lib.hid (fun w' (hk : Kept W0 w') => q1.below (HB.out.trans (Below.mono hk HB.out.size)))
  have Q2 := Lib.hid (fun w' (hk : Kept W0 w') => q2.below (HB.out.trans (Below.mono hk HB.out.size)))
  have H1 := Lib.hid h1
  have HD1 := Lib.hid d1
  have HD2 := Lib.hid d2
  have H2 := Lib.hid h2
  have H3 := Lib.hid h3
  have H4 := Lib.hid h4
  have H5 := Lib.hid h5
  have HN1 := Lib.hid n1
  have HN2 := Lib.hid n2
  have HK1 := Lib.hid k1
  have HK2 := Lib.hid k2
  have HT1 := Lib.hid t1
  have HT2 := Lib.hid t2
  have L1 : Hid ((ba (drA ti.data.toList)).size ≤ 1048576) := Lib.hid (by have := drA_len ti.data.toList; rw [len_size] at this; rw [ba_size]; omega)
  have L2 : Hid ((ba (drA ti2.data.toList)).size ≤ 1048576) := Lib.hid (by have := drA_len ti2.data.toList; rw [len_size] at this; rw [ba_size]; omega)
  have HW0 := Lib.hid hW0
  obtain ⟨lt1, e0, e1, e2, e3, e4, e5, e6, e7, e8, e9, e10, e11, e12, e13⟩ := HC1.out
  obtain ⟨lt2, g0, g1, g2, g3, g4, g5, g6, g7, g8, g9, g10, g11, g12, g13⟩ := HC2.out
  dsimp only at e0 e1 e2 e3 e4 e5 e6 e7 e8 e9 e10 e11 e12 e13 g0 g1 g2 g3 g4 g5 g6 g7 g8 g9 g10 g11 g12 g13
  clear hm hm2 q1 q2 h1 h2 h3 h4 h5 n1 n2 k1 k2 d1 d2 t1 t2 hW0
  go_enter Tryz.func11, Tryz.ntmps11
  go_wp2_with fail
  rw [← HW0.out]
  clear e0 e1 e2 e3 e4 e5 e6 e7 e8 e9 e10 e11 e12 e13 g0 g1 g2 g3 g4 g5 g6 g7 g8 g9 g10 g11 g12 g13
  go_region_held3 (fun w' => (w'.cell? ⟨w.heap.size, 0, none⟩ = some (.string key) ∧ w'.cell? ⟨w.heap.size, 1, none⟩ = some (.int .i64 kind) ∧ w'.cell? ⟨w.heap.size, 2, none⟩ = some (.slice auA auN auc) ∧ w'.cell? ⟨w.heap.size, 3, none⟩ = some (.slice edA edN edc) ∧ w'.cell? ⟨w.heap.size, 4, none⟩ = some (.string ti) ∧ w'.cell? ⟨w.heap.size, 5, none⟩ = some (.string co) ∧ w'.cell? ⟨w.heap.size, 6, none⟩ = some (.string pu) ∧ w'.cell? ⟨w.heap.size, 7, none⟩ = some (.int .i64 y) ∧ w'.cell? ⟨w.heap.size, 8, none⟩ = some (.int .i64 m) ∧ w'.cell? ⟨w.heap.size, 9, none⟩ = some (.int .i64 d) ∧ w'.cell? ⟨w.heap.size, 10, none⟩ = some (.bool ci) ∧ w'.cell? ⟨w.heap.size, 11, none⟩ = some (.int .i64 vol) ∧ w'.cell? ⟨w.heap.size, 12, none⟩ = some (.string pa) ∧ w'.cell? ⟨w.heap.size, 13, none⟩ = some (.string cr)) ∧ (w'.cell? ⟨(w.heap.size + 1), 0, none⟩ = some (.string key2) ∧ w'.cell? ⟨(w.heap.size + 1), 1, none⟩ = some (.int .i64 kind2) ∧ w'.cell? ⟨(w.heap.size + 1), 2, none⟩ = some (.slice auA2 auN2 auc2) ∧ w'.cell? ⟨(w.heap.size + 1), 3, none⟩ = some (.slice edA2 edN2 edc2) ∧ w'.cell? ⟨(w.heap.size + 1), 4, none⟩ = some (.string ti2) ∧ w'.cell? ⟨(w.heap.size + 1), 5, none⟩ = some (.string co2) ∧ w'.cell? ⟨(w.heap.size + 1), 6, none⟩ = some (.string pu2) ∧ w'.cell? ⟨(w.heap.size + 1), 7, none⟩ = some (.int .i64 y2) ∧ w'.cell? ⟨(w.heap.size + 1), 8, none⟩ = some (.int .i64 m2) ∧ w'.cell? ⟨(w.heap.size + 1), 9, none⟩ = some (.int .i64 d2') ∧ w'.cell? ⟨(w.heap.size + 1), 10, none⟩ = some (.bool ci2) ∧ w'.cell? ⟨(w.heap.size + 1), 11, none⟩ = some (.int .i64 vol2) ∧ w'.cell? ⟨(w.heap.size + 1), 12, none⟩ = some (.string pa2) ∧ w'.cell? ⟨(w.heap.size + 1), 13, none⟩ = some (.string cr2)) ∧ Kept W0 w')
    (first | exact HS.out _ HK0.out | exact HS.out _ (by assumption))
    (first
      | (go_at_call 25; with_reducible refine (main_s key kind auA auN auc auL edA edN edc edL ti co pu y m d ci vol pa cr mA mN mc _ HM1.out).mono ?_; rintro e w1 ⟨rfl, b1⟩; have hk1 : Kept W0 w1 := Kept.next (by first | exact HK0.out | assumption) b1)
      | (go_at_call 25; with_reducible refine (main_s key2 kind2 auA2 auN2 auc2 auL2 edA2 edN2 edc2 edL2 ti2 co2 pu2 y2 m2 d2' ci2 vol2 pa2 cr2 mA2 mN2 mc2 _ HM2.out).mono ?_; rintro e w2 ⟨rfl, b2⟩; have hk2 : Kept W0 w2 := Kept.next (by first | exact HK0.out | assumption) b2)
      | (go_at_call 24; with_reducible refine (sNames mA mA2 mc mc2 mN mN2 mL mL2 r1 _ (Q1.out _ (by first | exact HK0.out | assumption)) (Q2.out _ (by first | exact HK0.out | assumption)) HN1.out HN2.out z1 z2 HK1.out HK2.out H1.out).mono ?_; rintro e w3 ⟨rfl, b3⟩; have hk3 : Kept W0 w3 := Kept.next (by first | exact HK0.out | assumption) b3))
  have HK3 : Hid (Kept W0 w3) := Lib.hid hk3
  clear hk1 hk2 hk3 b1 b2 b3 Q1 Q2
  (try clear hHeld)
  by_cases y1 : r1 = 0
  · obtain rfl := y1
    obtain ⟨⟨e0, e1, e2, e3, e4, e5, e6, e7, e8, e9, e10, e11, e12, e13⟩, ⟨g0, g1, g2, g3, g4, g5, g6, g7, g8, g9, g10, g11, g12, g13⟩, -⟩ := HS.out _ HK3.out
    go_wp2_with fail
    with_reducible refine (Dt.l3Compare y m d ci y2 m2 d2' ci2 r2 _ HD1.out HD2.out H2.out).mono ?_
    rintro e w4 ⟨rfl, b4⟩
    have HK4' : Hid (Kept W0 w4) := Lib.hid (Kept.next HK3.out b4)
    clear b4 e0 e1 e2 e3 e4 e5 e6 e7 e8 e9 e10 e11 e12 e13 g0 g1 g2 g3 g4 g5 g6 g7 g8 g9 g10 g11 g12 g13
    by_cases y2' : r2 = 0
    · obtain rfl := y2'
      have HK4 : Hid (Kept W0 w4.drew) := Lib.hid (Kept.next HK4'.out (Kept.drew w4))
      go_wp2_with fail
      go_region_held3 (fun w' => (w'.cell? ⟨w.heap.size, 0, none⟩ = some (.string key) ∧ w'.cell? ⟨w.heap.size, 1, none⟩ = some (.int .i64 kind) ∧ w'.cell? ⟨w.heap.size, 2, none⟩ = some (.slice auA auN auc) ∧ w'.cell? ⟨w.heap.size, 3, none⟩ = some (.slice edA edN edc) ∧ w'.cell? ⟨w.heap.size, 4, none⟩ = some (.string ti) ∧ w'.cell? ⟨w.heap.size, 5, none⟩ = some (.string co) ∧ w'.cell? ⟨w.heap.size, 6, none⟩ = some (.string pu) ∧ w'.cell? ⟨w.heap.size, 7, none⟩ = some (.int .i64 y) ∧ w'.cell? ⟨w.heap.size, 8, none⟩ = some (.int .i64 m) ∧ w'.cell? ⟨w.heap.size, 9, none⟩ = some (.int .i64 d) ∧ w'.cell? ⟨w.heap.size, 10, none⟩ = some (.bool ci) ∧ w'.cell? ⟨w.heap.size, 11, none⟩ = some (.int .i64 vol) ∧ w'.cell? ⟨w.heap.size, 12, none⟩ = some (.string pa) ∧ w'.cell? ⟨w.heap.size, 13, none⟩ = some (.string cr)) ∧ (w'.cell? ⟨(w.heap.size + 1), 0, none⟩ = some (.string key2) ∧ w'.cell? ⟨(w.heap.size + 1), 1, none⟩ = some (.int .i64 kind2) ∧ w'.cell? ⟨(w.heap.size + 1), 2, none⟩ = some (.slice auA2 auN2 auc2) ∧ w'.cell? ⟨(w.heap.size + 1), 3, none⟩ = some (.slice edA2 edN2 edc2) ∧ w'.cell? ⟨(w.heap.size + 1), 4, none⟩ = some (.string ti2) ∧ w'.cell? ⟨(w.heap.size + 1), 5, none⟩ = some (.string co2) ∧ w'.cell? ⟨(w.heap.size + 1), 6, none⟩ = some (.string pu2) ∧ w'.cell? ⟨(w.heap.size + 1), 7, none⟩ = some (.int .i64 y2) ∧ w'.cell? ⟨(w.heap.size + 1), 8, none⟩ = some (.int .i64 m2) ∧ w'.cell? ⟨(w.heap.size + 1), 9, none⟩ = some (.int .i64 d2') ∧ w'.cell? ⟨(w.heap.size + 1), 10, none⟩ = some (.bool ci2) ∧ w'.cell? ⟨(w.heap.size + 1), 11, none⟩ = some (.int .i64 vol2) ∧ w'.cell? ⟨(w.heap.size + 1), 12, none⟩ = some (.string pa2) ∧ w'.cell? ⟨(w.heap.size + 1), 13, none⟩ = some (.string cr2)) ∧ Kept W0 w')
        (first | exact HS.out _ HK4.out | exact HS.out _ (by assumption))
        (first
          | (go_at_call 28; with_reducible refine (drop_s ti _ HT1.out).mono ?_; rintro e w5 ⟨rfl, b5⟩; have hk5 : Kept W0 w5 := Kept.next (by first | exact HK4.out | assumption) b5)
          | (go_at_call 28; with_reducible refine (drop_s ti2 _ HT2.out).mono ?_; rintro e w6 ⟨rfl, b6⟩; have hk6 : Kept W0 w6 := Kept.next (by first | exact HK4.out | assumption) b6)
          | (go_at_call 27; with_reducible refine (collS _ _ r3 _ L1.out L2.out H3.out).mono ?_; rintro e w7 ⟨rfl, b7⟩; have hk7 : Kept W0 w7 := Kept.next (by first | exact HK4.out | assumption) b7))
      have HK7 : Hid (Kept W0 w7) := Lib.hid hk7
      clear hk5 hk6 hk7 b5 b6 b7
      (try clear hHeld)
      by_cases y3 : r3 = 0
      · obtain rfl := y3
        obtain ⟨⟨e0, e1, e2, e3, e4, e5, e6, e7, e8, e9, e10, e11, e12, e13⟩, ⟨g0, g1, g2, g3, g4, g5, g6, g7, g8, g9, g10, g11, g12, g13⟩, -⟩ := HS.out _ HK7.out
        rcases Int.lt_trichotomy vol vol2 with hv | hv | hv
        · have hr4 : r4 = -1 := by rw [← H4.out]; unfold DtPl.cmpI; rw [if_pos hv]
          have hlt : decide (vol < vol2) = true := by simpa using hv
          go_wp2_with fail
          go_ret
          exact ⟨ret_i (by rw [hr4]; rfl), HB.out.trans (Below.mono HK7.out HB.out.size)⟩
        · have hr4 : r4 = 0 := by rw [← H4.out, hv]; unfold DtPl.cmpI; rw [if_neg (Int.lt_irrefl _), if_neg (Int.lt_irrefl _)]
          have hlt : decide (vol < vol2) = false := by simp; omega
          have hgt : decide (vol2 < vol) = false := by simp; omega
          have HT5 := Lib.hid (fun w => textS key key2 r5 w H5.out)
          go_wp2_with fail
          refine (HT5.out _).mono ?_
          rintro e w8 ⟨rfl, rfl⟩
          go_wp2_with fail
          go_ret
          exact ⟨ret_i (by rw [hr4]; show (r5 : Int) = Dt.orL [0, 0, 0, 0, r5]; simp [or_cons]; try (unfold Dt.orL; simp); try omega), HB.out.trans (Below.mono HK7.out HB.out.size)⟩
        · have hr4 : r4 = 1 := by rw [← H4.out]; unfold DtPl.cmpI; rw [if_neg (by omega), if_pos hv]
          have hlt : decide (vol < vol2) = false := by simp; omega
          have hgt : decide (vol2 < vol) = true := by simpa using hv
          go_wp2_with fail
          go_ret
          exact ⟨ret_i (by rw [hr4]; rfl), HB.out.trans (Below.mono HK7.out HB.out.size)⟩
      · have hne : (r3 != 0) = true := by rw [bne_iff_ne]; exact y3
        go_wp2_with fail
        go_ret
        exact ⟨ret_i (by simp [or_cons, y3]), HB.out.trans (Below.mono HK7.out HB.out.size)⟩
    · have hne : (r2 != 0) = true := by rw [bne_iff_ne]; exact y2'
      go_wp2_with fail
      go_ret
      exact ⟨ret_i (by simp [or_cons, y2']), HB.out.trans (Below.mono HK4'.out HB.out.size)⟩
  · have hne : (r1 != 0) = true := by rw [bne_iff_ne]; exact y1
    go_wp2_with fail
    go_ret
    exact ⟨ret_i (by simp [or_cons, y1]), HB.out.trans (Below.mono HK3.out HB.out.size)⟩
end Go.Proofs.YtmopncojgkmkpaaGreatDoor.Ce
/-
  Contract of compareEntries of the program.
-/
namespace Go.Proofs.YtmopncojgkmkpaaGreatDoor.Ce
open Go.RowKit Pl Strs Help Name Stands SplitPl NmPl Word Part NGood Nms Ens CeN Fo FoPl
open Cmp (cmpS)
set_option linter.unusedSimpArgs false
set_option linter.unusedVariables false

theorem kept_box {W w : World} (h : Kept W w) (o : Obj) : Kept W (w.alloc o) := Kept.next h ((Below.refl _ w).alloc (Nat.le_refl _) o)
theorem kept_box' {W w : World} (h : Kept W w) (o : Obj) : Kept W (w.alloc o).drew := Kept.next h (Dt.box_drew1 w o)
theorem rdi_drew {w : World} {A : Option Addr} {xs : List Int} (h : Dt.RdI w A xs) : Dt.RdI w.drew A xs := h
theorem iNames (A B : Option Addr) (c d N N' : Nat) (L M : List Nm) (r : Int) (w : World) (h1 : RdN0 w A L) (h2 : RdN0 w B M) (hn : L.length = N) (hm : M.length = N') (hN : N ≤ 4) (hN' : N' ≤ 4) (ok1 : ∀ x ∈ L, x.ok = true) (ok2 : ∀ x ∈ M, x.ok = true) (cp1 : ∀ x ∈ L, x.n ≤ x.c) (cp2 : ∀ x ∈ M, x.n ≤ x.c) (hr : cnL L M = r) :
    Calls Tryz.prog 37 #[.slice A N c, .slice B N' d, .func (.func 39) #[] #[]] w fun e w' => e = .returned (.int .i64 r) ∧ Below w.heap.size w w' := by
  subst hr; exact names_i A B c d N N' L M w h1 h2 hn hm hN hN' ok1 ok2 cp1 cp2
theorem collI (a b : ByteArray) (r : Int) (w : World) (ha : a.size ≤ 1048576) (hb : b.size ≤ 1048576) (hr : colV a b = r) :
    Calls Tryz.prog 41 #[.string a, .string b] w fun e w' => e = .returned (.int .i64 r) ∧ Below w.heap.size w w' := by
  subst hr; exact collate_i a b w ha hb
theorem textI (a b : ByteArray) (r : Int) (w : World) (hr : cmpS a b = r) :
    Calls Tryz.prog 44 #[.string a, .string b] w fun e w' => e = .returned (.int .i64 r) ∧ w = w' := by
  subst hr; exact Or2.compare_i a b w
set_option maxRecDepth 100000 in
set_option maxHeartbeats 16000000 in
theorem compare_i (key : ByteArray) (kind : Int) (auA : Option Addr) (auN : Nat) (auc : Nat) (auL : List Nm) (edA : Option Addr) (edN : Nat) (edc : Nat) (edL : List Nm) (ti : ByteArray) (co : ByteArray) (pu : ByteArray) (y : Int) (m : Int) (d : Int) (ci : Bool) (vol : Int) (pa : ByteArray) (cr : ByteArray) (key2 : ByteArray) (kind2 : Int) (auA2 : Option Addr) (auN2 : Nat) (auc2 : Nat) (auL2 : List Nm) (edA2 : Option Addr) (edN2 : Nat) (edc2 : Nat) (edL2 : List Nm) (ti2 : ByteArray) (co2 : ByteArray) (pu2 : ByteArray) (y2 : Int) (m2 : Int) (d2' : Int) (ci2 : Bool) (vol2 : Int) (pa2 : ByteArray) (cr2 : ByteArray) (mA : Option Addr) (mN mc : Nat) (mL : List Nm) (mA2 : Option Addr) (mN2 mc2 : Nat) (mL2 : List Nm) (r1 r2 r3 r4 r5 : Int) (w : World)
    (hm : (if 0 < auN then (auA, auN, auc) else (edA, edN, edc)) = (mA, mN, mc)) (hm2 : (if 0 < auN2 then (auA2, auN2, auc2) else (edA2, edN2, edc2)) = (mA2, mN2, mc2))
    (q1 : RdN0 w mA mL) (q2 : RdN0 w mA2 mL2) (n1 : mL.length = mN) (n2 : mL2.length = mN2) (z1 : mN ≤ 4) (z2 : mN2 ≤ 4) (k1 : ∀ x ∈ mL, x.ok = true) (k2 : ∀ x ∈ mL2, x.ok = true) (p1 : ∀ x ∈ mL, x.n ≤ x.c) (p2 : ∀ x ∈ mL2, x.n ≤ x.c) (hca : CaT w)
    (d1 : DtPl.okB y m d ci = true) (d2 : DtPl.okB y2 m2 d2' ci2 = true) (t1 : ti.size ≤ 1048576) (t2 : ti2.size ≤ 1048576)
    (h1 : cnL mL mL2 = r1) (h2 : DtPl.cmpD y m d ci y2 m2 d2' ci2 = r2) (h3 : colV (ba (drA ti.data.toList)) (ba (drA ti2.data.toList)) = r3) (h4 : DtPl.cmpI vol vol2 = r4) (h5 : cmpS key key2 = r5) :
    Calls Tryz.prog 15 #[.agg #[.string key, .int .i64 kind, .slice auA auN auc, .slice edA edN edc, .string ti, .string co, .string pu, .int .i64 y, .int .i64 m, .int .i64 d, .bool ci, .int .i64 vol, .string pa, .string cr], .agg #[.string key2, .int .i64 kind2, .slice auA2 auN2 auc2, .slice edA2 edN2 edc2, .string ti2, .string co2, .string pu2, .int .i64 y2, .int .i64 m2, .int .i64 d2', .bool ci2, .int .i64 vol2, .string pa2, .string cr2]] w fun e w' => e = .returned (.int .i64 (Dt.orL [r1, r2, r3, r4, r5])) ∧ Below w.heap.size w w' := by
  obtain ⟨W0, hW0⟩ : ∃ W0, W0 = (w.alloc (.cells #[.string key, .int .i64 kind, .slice auA auN auc, .slice edA edN edc, .string ti, .string co, .string pu, .int .i64 y, .int .i64 m, .int .i64 d, .bool ci, .int .i64 vol, .string pa, .string cr] 33)).alloc (.cells #[.string key2, .int .i64 kind2, .slice auA2 auN2 auc2, .slice edA2 edN2 edc2, .string ti2, .string co2, .string pu2, .int .i64 y2, .int .i64 m2, .int .i64 d2', .bool ci2, .int .i64 vol2, .string pa2, .string cr2] 33) := ⟨_, rfl⟩
  have HB : Hid (Below w.heap.size w W0) := Lib.hid (by rw [hW0]; exact boxes _ _ _)
  have HC1 : Hid (E14 W0 w.heap.size (⟨key, kind, auA, auN, auc, auL, edA, edN, edc, edL, ti, co, pu, y, m, d, ci, vol, pa, cr⟩ : En)) := Lib.hid (by rw [hW0]; exact (E14.new w (⟨key, kind, auA, auN, auc, auL, edA, edN, edc, edL, ti, co, pu, y, m, d, ci, vol, pa, cr⟩ : En) 33).below ((Below.refl _ _).alloc (Nat.le_refl _) _))
  have HC2 : Hid (E14 W0 (w.heap.size + 1) (⟨key2, kind2, auA2, auN2, auc2, auL2, edA2, edN2, edc2, edL2, ti2, co2, pu2, y2, m2, d2', ci2, vol2, pa2, cr2⟩ : En)) := Lib.hid (by
    rw [hW0]
    have := E14.new (w.alloc (.cells #[.string key, .int .i64 kind, .slice auA auN auc, .slice edA edN edc, .string ti, .string co, .string pu, .int .i64 y, .int .i64 m, .int .i64 d, .bool ci, .int .i64 vol, .string pa, .string cr] 33)) (⟨key2, kind2, auA2, auN2, auc2, auL2, edA2, edN2, edc2, edL2, ti2, co2, pu2, y2, m2, d2', ci2, vol2, pa2, cr2⟩ : En) 33
    simpa using this)
  have HS : Hid (∀ w', Kept W0 w' → ((w'.cell? ⟨w.heap.size, 0, none⟩ = some (.string key) ∧ w'.cell? ⟨w.heap.size, 1, none⟩ = some (.int .i64 kind) ∧ w'.cell? ⟨w.heap.size, 2, none⟩ = some (.slice auA auN auc) ∧ w'.cell? ⟨w.heap.size, 3, none⟩ = some (.slice edA edN edc) ∧ w'.cell? ⟨w.heap.size, 4, none⟩ = some (.string ti) ∧ w'.cell? ⟨w.heap.size, 5, none⟩ = some (.string co) ∧ w'.cell? ⟨w.heap.size, 6, none⟩ = some (.string pu) ∧ w'.cell? ⟨w.heap.size, 7, none⟩ = some (.int .i64 y) ∧ w'.cell? ⟨w.heap.size, 8, none⟩ = some (.int .i64 m) ∧ w'.cell? ⟨w.heap.size, 9, none⟩ = some (.int .i64 d) ∧ w'.cell? ⟨w.heap.size, 10, none⟩ = some (.bool ci) ∧ w'.cell? ⟨w.heap.size, 11, none⟩ = some (.int .i64 vol) ∧ w'.cell? ⟨w.heap.size, 12, none⟩ = some (.string pa) ∧ w'.cell? ⟨w.heap.size, 13, none⟩ = some (.string cr)) ∧ (w'.cell? ⟨(w.heap.size + 1), 0, none⟩ = some (.string key2) ∧ w'.cell? ⟨(w.heap.size + 1), 1, none⟩ = some (.int .i64 kind2) ∧ w'.cell? ⟨(w.heap.size + 1), 2, none⟩ = some (.slice auA2 auN2 auc2) ∧ w'.cell? ⟨(w.heap.size + 1), 3, none⟩ = some (.slice edA2 edN2 edc2) ∧ w'.cell? ⟨(w.heap.size + 1), 4, none⟩ = some (.string ti2) ∧ w'.cell? ⟨(w.heap.size + 1), 5, none⟩ = some (.string co2) ∧ w'.cell? ⟨(w.heap.size + 1), 6, none⟩ = some (.string pu2) ∧ w'.cell? ⟨(w.heap.size + 1), 7, none⟩ = some (.int .i64 y2) ∧ w'.cell? ⟨(w.heap.size + 1), 8, none⟩ = some (.int .i64 m2) ∧ w'.cell? ⟨(w.heap.size + 1), 9, none⟩ = some (.int .i64 d2') ∧ w'.cell? ⟨(w.heap.size + 1), 10, none⟩ = some (.bool ci2) ∧ w'.cell? ⟨(w.heap.size + 1), 11, none⟩ = some (.int .i64 vol2) ∧ w'.cell? ⟨(w.heap.size + 1), 12, none⟩ = some (.string pa2) ∧ w'.cell? ⟨(w.heap.size + 1), 13, none⟩ = some (.string cr2)) ∧ Kept W0 w')) := Lib.hid (fun w' h => ⟨(HC1.out.below h).2, (HC2.out.below h).2, h⟩)
  have HK0 : Hid (Kept W0 W0.drew) := Lib.hid (Kept.drew W0)
  have HM1 := Lib.hid hm
  have HM2 := Lib.hid hm2
  have Q1 := Lib.hid (fun w' (hk : Kept W0 w') => q1.below (HB.out.trans (Below.mono hk HB.out.size)))
  have Q2 := Lib.hid (fun w' (hk : Kept W0 w') => q2.below (HB.out.trans (Below.mono hk HB.out.size)))
  have H1 := Lib.hid h1
  have HD1 := Lib.hid d1
  have HD2 := Lib.hid d2
  have H2 := Lib.hid h2
  have H3 := Lib.hid h3
  have H4 := Lib.hid h4
  have H5 := Lib.hid h5
  have HN1 := Lib.hid n1
  have HN2 := Lib.hid n2
  have HK1 := Lib.hid k1
  have HK2 := Lib.hid k2
  have HT1 := Lib.hid t1
  have HT2 := Lib.hid t2
  have L1 : Hid ((ba (drA ti.data.toList)).size ≤ 1048576) := Lib.hid (by have := drA_len ti.data.toList; rw [len_size] at this; rw [ba_size]; omega)
  have L2 : Hid ((ba (drA ti2.data.toList)).size ≤ 1048576) := Lib.hid (by have := drA_len ti2.data.toList; rw [len_size] at this; rw [ba_size]; omega)
  have HW0 := Lib.hid hW0
  obtain ⟨lt1, e0, e1, e2, e3, e4, e5, e6, e7, e8, e9, e10, e11, e12, e13⟩ := HC1.out
  obtain ⟨lt2, g0, g1, g2, g3, g4, g5, g6, g7, g8, g9, g10, g11, g12, g13⟩ := HC2.out
  dsimp only at e0 e1 e2 e3 e4 e5 e6 e7 e8 e9 e10 e11 e12 e13 g0 g1 g2 g3 g4 g5 g6 g7 g8 g9 g10 g11 g12 g13
  have HP1 := Lib.hid p1
  have HP2 := Lib.hid p2
  have HCa := Lib.hid (fun w' (hk : Kept W0 w') => hca.below (HB.out.trans (Below.mono hk HB.out.size)))
  clear hm hm2 q1 q2 h1 h2 h3 h4 h5 n1 n2 k1 k2 d1 d2 t1 t2 hW0 p1 p2 hca
  go_enter Tryz.func15, Tryz.ntmps15
  go_wp2_with fail
  rw [← HW0.out]
  clear e0 e1 e2 e3 e4 e5 e6 e7 e8 e9 e10 e11 e12 e13 g0 g1 g2 g3 g4 g5 g6 g7 g8 g9 g10 g11 g12 g13
  go_region_held3 (fun w' => (w'.cell? ⟨w.heap.size, 0, none⟩ = some (.string key) ∧ w'.cell? ⟨w.heap.size, 1, none⟩ = some (.int .i64 kind) ∧ w'.cell? ⟨w.heap.size, 2, none⟩ = some (.slice auA auN auc) ∧ w'.cell? ⟨w.heap.size, 3, none⟩ = some (.slice edA edN edc) ∧ w'.cell? ⟨w.heap.size, 4, none⟩ = some (.string ti) ∧ w'.cell? ⟨w.heap.size, 5, none⟩ = some (.string co) ∧ w'.cell? ⟨w.heap.size, 6, none⟩ = some (.string pu) ∧ w'.cell? ⟨w.heap.size, 7, none⟩ = some (.int .i64 y) ∧ w'.cell? ⟨w.heap.size, 8, none⟩ = some (.int .i64 m) ∧ w'.cell? ⟨w.heap.size, 9, none⟩ = some (.int .i64 d) ∧ w'.cell? ⟨w.heap.size, 10, none⟩ = some (.bool ci) ∧ w'.cell? ⟨w.heap.size, 11, none⟩ = some (.int .i64 vol) ∧ w'.cell? ⟨w.heap.size, 12, none⟩ = some (.string pa) ∧ w'.cell? ⟨w.heap.size, 13, none⟩ = some (.string cr)) ∧ (w'.cell? ⟨(w.heap.size + 1), 0, none⟩ = some (.string key2) ∧ w'.cell? ⟨(w.heap.size + 1), 1, none⟩ = some (.int .i64 kind2) ∧ w'.cell? ⟨(w.heap.size + 1), 2, none⟩ = some (.slice auA2 auN2 auc2) ∧ w'.cell? ⟨(w.heap.size + 1), 3, none⟩ = some (.slice edA2 edN2 edc2) ∧ w'.cell? ⟨(w.heap.size + 1), 4, none⟩ = some (.string ti2) ∧ w'.cell? ⟨(w.heap.size + 1), 5, none⟩ = some (.string co2) ∧ w'.cell? ⟨(w.heap.size + 1), 6, none⟩ = some (.string pu2) ∧ w'.cell? ⟨(w.heap.size + 1), 7, none⟩ = some (.int .i64 y2) ∧ w'.cell? ⟨(w.heap.size + 1), 8, none⟩ = some (.int .i64 m2) ∧ w'.cell? ⟨(w.heap.size + 1), 9, none⟩ = some (.int .i64 d2') ∧ w'.cell? ⟨(w.heap.size + 1), 10, none⟩ = some (.bool ci2) ∧ w'.cell? ⟨(w.heap.size + 1), 11, none⟩ = some (.int .i64 vol2) ∧ w'.cell? ⟨(w.heap.size + 1), 12, none⟩ = some (.string pa2) ∧ w'.cell? ⟨(w.heap.size + 1), 13, none⟩ = some (.string cr2)) ∧ Kept W0 w')
    (first | exact HS.out _ HK0.out | exact HS.out _ (by assumption) | exact HS.out _ (kept_box (by assumption) _) | exact HS.out _ (kept_box' (by assumption) _))
    (first
      | (go_at_call 38; with_reducible refine (main_i key kind auA auN auc auL edA edN edc edL ti co pu y m d ci vol pa cr mA mN mc _ HM1.out).mono ?_; rintro e w1 ⟨rfl, b1⟩; have hk1 : Kept W0 w1 := Kept.next (by first | exact HK0.out | assumption) b1)
      | (go_at_call 38; with_reducible refine (main_i key2 kind2 auA2 auN2 auc2 auL2 edA2 edN2 edc2 edL2 ti2 co2 pu2 y2 m2 d2' ci2 vol2 pa2 cr2 mA2 mN2 mc2 _ HM2.out).mono ?_; rintro e w2 ⟨rfl, b2⟩; have hk2 : Kept W0 w2 := Kept.next (by first | exact HK0.out | assumption) b2)
      | (go_at_call 37; with_reducible refine (iNames mA mA2 mc mc2 mN mN2 mL mL2 r1 _ (Q1.out _ (by first | exact HK0.out | assumption)) (Q2.out _ (by first | exact HK0.out | assumption)) HN1.out HN2.out z1 z2 HK1.out HK2.out HP1.out HP2.out H1.out).mono ?_; rintro e w3 ⟨rfl, b3⟩; have hk3 : Kept W0 w3 := Kept.next (by first | exact HK0.out | assumption) b3)
      | (go_at_call 40; with_reducible refine (dates_i y m d ci y2 m2 d2' ci2 r2 _ HD1.out HD2.out H2.out).mono ?_; rintro e w4 ⟨rfl, b4⟩; have hk4 : Kept W0 w4 := Kept.next (by first | exact HK0.out | assumption) b4)
      | (go_at_call 42; with_reducible refine (drop_i ti _ HT1.out (HCa.out _ (by first | exact HK0.out | assumption))).mono ?_; rintro e w5 ⟨rfl, b5⟩; have hk5 : Kept W0 w5 := Kept.next (by first | exact HK0.out | assumption) b5)
      | (go_at_call 42; with_reducible refine (drop_i ti2 _ HT2.out (HCa.out _ (by first | exact HK0.out | assumption))).mono ?_; rintro e w6 ⟨rfl, b6⟩; have hk6 : Kept W0 w6 := Kept.next (by first | exact HK0.out | assumption) b6)
      | (go_at_call 41; with_reducible refine (collI _ _ r3 _ L1.out L2.out H3.out).mono ?_; rintro e w7 ⟨rfl, b7⟩; have hk7 : Kept W0 w7 := Kept.next (by first | exact HK0.out | assumption) b7)
      | (go_at_call 43; with_reducible refine (Dt.compareInt_r vol vol2 r4 _ H4.out).mono ?_; rintro e w8 ⟨rfl, rfl⟩)
      | (go_at_call 44; with_reducible refine (textI key key2 r5 _ H5.out).mono ?_; rintro e w9 ⟨rfl, rfl⟩)
      | (go_at_call 36; refine (Dt.orInt _ 5 _ [r1, r2, r3, r4, r5] _ (by first | exact Dt.rdi_lit rfl | exact rdi_drew (Dt.rdi_lit rfl)) rfl (by omega)).mono ?_; rintro e w10 ⟨rfl, rfl⟩))
  go_wp2_with fail
  go_ret
  first
    | exact ⟨rfl, HB.out.trans (Below.mono (kept_box' hk7 _) HB.out.size)⟩
    | exact ⟨rfl, HB.out.trans (Below.mono (kept_box hk7 _) HB.out.size)⟩
end Go.Proofs.YtmopncojgkmkpaaGreatDoor.Ce
/-
  Contracts of CompareEntries of both.
-/
namespace Go.Proofs.YtmopncojgkmkpaaGreatDoor.Ce
open Go.RowKit Pl Strs Help Name Stands SplitPl NmPl Word Part NGood Nms Ens CeN Fo FoPl Jn
open Cmp (cmpS)
set_option linter.unusedSimpArgs false
set_option linter.unusedVariables false

/-- what CompareEntries answers -/
def ceV (o1 o2 : Bool) (r : Int) : Value := if (o1 && o2) = true then .tuple #[.int .i64 r, .bool true] else .tuple #[.int .i64 0, .bool false]
theorem ce_form (o1 o2 : Bool) (r : Int) : ∃ x y, ceV o1 o2 r = .tuple #[.int .i64 x, .bool y] := by unfold ceV; split <;> exact ⟨_, _, rfl⟩
theorem ok_parts {e : En} (h : okE e = true) : okL e.auL = true ∧ okL e.edL = true ∧ DtPl.okB e.y e.m e.d e.ci = true := by
  unfold okE at h
  simp only [Bool.and_eq_true] at h
  exact ⟨h.2.2.1, h.2.2.2.1, h.2.2.2.2.2.2.2.2.1⟩
/-- the main names -/
def mainL (e : En) : List Nm := if 0 < e.auN then e.auL else e.edL
theorem main_rd {e : En} {w : World} (h : e.Rd w) {mA : Option Addr} {mN mc : Nat} (hm : (if 0 < e.auN then (e.auA, e.auN, e.auc) else (e.edA, e.edN, e.edc)) = (mA, mN, mc)) : RdN0 w mA (mainL e) ∧ (mainL e).length = mN := by
  unfold mainL
  by_cases h0 : 0 < e.auN
  · rw [if_pos h0] at hm ⊢
    cases hm
    exact ⟨h.1, h.2.1⟩
  · rw [if_neg h0] at hm ⊢
    cases hm
    exact ⟨h.2.2.1, h.2.2.2⟩
theorem main_ok {e : En} (h : okE e = true) : (mainL e).length ≤ 4 ∧ ∀ x ∈ mainL e, x.ok = true := by
  obtain ⟨h1, h2, _⟩ := ok_parts h
  unfold mainL
  split
  · exact okL_yes h1
  · exact okL_yes h2
theorem main_pick (e : En) : ∃ mA mN mc, (if 0 < e.auN then (e.auA, e.auN, e.auc) else (e.edA, e.edN, e.edc)) = (mA, mN, mc) := ⟨_, _, _, rfl⟩
set_option maxRecDepth 100000 in
set_option maxHeartbeats 16000000 in
theorem entries_i (key : ByteArray) (kind : Int) (auA : Option Addr) (auN : Nat) (auc : Nat) (auL : List Nm) (edA : Option Addr) (edN : Nat) (edc : Nat) (edL : List Nm) (ti : ByteArray) (co : ByteArray) (pu : ByteArray) (y : Int) (m : Int) (d : Int) (ci : Bool) (vol : Int) (pa : ByteArray) (cr : ByteArray) (key2 : ByteArray) (kind2 : Int) (auA2 : Option Addr) (auN2 : Nat) (auc2 : Nat) (auL2 : List Nm) (edA2 : Option Addr) (edN2 : Nat) (edc2 : Nat) (edL2 : List Nm) (ti2 : ByteArray) (co2 : ByteArray) (pu2 : ByteArray) (y2 : Int) (m2 : Int) (d2' : Int) (ci2 : Bool) (vol2 : Int) (pa2 : ByteArray) (cr2 : ByteArray) (r1 r2 r3 r4 r5 : Int) (o1 o2 : Bool) (w : World) (R1 : (⟨key, kind, auA, auN, auc, auL, edA, edN, edc, edL, ti, co, pu, y, m, d, ci, vol, pa, cr⟩ : En).Rd w) (R2 : (⟨key2, kind2, auA2, auN2, auc2, auL2, edA2, edN2, edc2, edL2, ti2, co2, pu2, y2, m2, d2', ci2, vol2, pa2, cr2⟩ : En).Rd w) (s1 : (⟨key, kind, auA, auN, auc, auL, edA, edN, edc, edL, ti, co, pu, y, m, d, ci, vol, pa, cr⟩ : En).sz ≤ 1048576) (s2 : (⟨key2, kind2, auA2, auN2, auc2, auL2, edA2, edN2, edc2, edL2, ti2, co2, pu2, y2, m2, d2', ci2, vol2, pa2, cr2⟩ : En).sz ≤ 1048576) (ho1 : okE (⟨key, kind, auA, auN, auc, auL, edA, edN, edc, edL, ti, co, pu, y, m, d, ci, vol, pa, cr⟩ : En) = o1) (ho2 : okE (⟨key2, kind2, auA2, auN2, auc2, auL2, edA2, edN2, edc2, edL2, ti2, co2, pu2, y2, m2, d2', ci2, vol2, pa2, cr2⟩ : En) = o2) (p1 : ∀ x ∈ mainL (⟨key, kind, auA, auN, auc, auL, edA, edN, edc, edL, ti, co, pu, y, m, d, ci, vol, pa, cr⟩ : En), x.n ≤ x.c) (p2 : ∀ x ∈ mainL (⟨key2, kind2, auA2, auN2, auc2, auL2, edA2, edN2, edc2, edL2, ti2, co2, pu2, y2, m2, d2', ci2, vol2, pa2, cr2⟩ : En), x.n ≤ x.c) (hca : CaT w)
    (h1 : cnL (mainL (⟨key, kind, auA, auN, auc, auL, edA, edN, edc, edL, ti, co, pu, y, m, d, ci, vol, pa, cr⟩ : En)) (mainL (⟨key2, kind2, auA2, auN2, auc2, auL2, edA2, edN2, edc2, edL2, ti2, co2, pu2, y2, m2, d2', ci2, vol2, pa2, cr2⟩ : En)) = r1) (h2 : DtPl.cmpD y m d ci y2 m2 d2' ci2 = r2) (h3 : colV (ba (drA ti.data.toList)) (ba (drA ti2.data.toList)) = r3) (h4 : DtPl.cmpI vol vol2 = r4) (h5 : cmpS key key2 = r5) :
    Calls Tryz.prog 7 #[.agg #[.string key, .int .i64 kind, .slice auA auN auc, .slice edA edN edc, .string ti, .string co, .string pu, .int .i64 y, .int .i64 m, .int .i64 d, .bool ci, .int .i64 vol, .string pa, .string cr], .agg #[.string key2, .int .i64 kind2, .slice auA2 auN2 auc2, .slice edA2 edN2 edc2, .string ti2, .string co2, .string pu2, .int .i64 y2, .int .i64 m2, .int .i64 d2', .bool ci2, .int .i64 vol2, .string pa2, .string cr2]] w fun e w' => e = .returned (ceV o1 o2 (Dt.orL [r1, r2, r3, r4, r5])) ∧ Below w.heap.size w w' := by
  obtain ⟨W0, hW0⟩ : ∃ W0, W0 = (w.alloc (.cells #[.string key, .int .i64 kind, .slice auA auN auc, .slice edA edN edc, .string ti, .string co, .string pu, .int .i64 y, .int .i64 m, .int .i64 d, .bool ci, .int .i64 vol, .string pa, .string cr] 33)).alloc (.cells #[.string key2, .int .i64 kind2, .slice auA2 auN2 auc2, .slice edA2 edN2 edc2, .string ti2, .string co2, .string pu2, .int .i64 y2, .int .i64 m2, .int .i64 d2', .bool ci2, .int .i64 vol2, .string pa2, .string cr2] 33) := ⟨_, rfl⟩
  have HB : Hid (Below w.heap.size w W0) := Lib.hid (by rw [hW0]; exact boxes _ _ _)
  have HC1 : Hid (E14 W0 w.heap.size (⟨key, kind, auA, auN, auc, auL, edA, edN, edc, edL, ti, co, pu, y, m, d, ci, vol, pa, cr⟩ : En)) := Lib.hid (by rw [hW0]; exact (E14.new w (⟨key, kind, auA, auN, auc, auL, edA, edN, edc, edL, ti, co, pu, y, m, d, ci, vol, pa, cr⟩ : En) 33).below ((Below.refl _ _).alloc (Nat.le_refl _) _))
  have HC2 : Hid (E14 W0 (w.heap.size + 1) (⟨key2, kind2, auA2, auN2, auc2, auL2, edA2, edN2, edc2, edL2, ti2, co2, pu2, y2, m2, d2', ci2, vol2, pa2, cr2⟩ : En)) := Lib.hid (by
    rw [hW0]
    have := E14.new (w.alloc (.cells #[.string key, .int .i64 kind, .slice auA auN auc, .slice edA edN edc, .string ti, .string co, .string pu, .int .i64 y, .int .i64 m, .int .i64 d, .bool ci, .int .i64 vol, .string pa, .string cr] 33)) (⟨key2, kind2, auA2, auN2, auc2, auL2, edA2, edN2, edc2, edL2, ti2, co2, pu2, y2, m2, d2', ci2, vol2, pa2, cr2⟩ : En) 33
    simpa using this)
  have HS : Hid (∀ w', Kept W0 w' → ((w'.cell? ⟨w.heap.size, 0, none⟩ = some (.string key) ∧ w'.cell? ⟨w.heap.size, 1, none⟩ = some (.int .i64 kind) ∧ w'.cell? ⟨w.heap.size, 2, none⟩ = some (.slice auA auN auc) ∧ w'.cell? ⟨w.heap.size, 3, none⟩ = some (.slice edA edN edc) ∧ w'.cell? ⟨w.heap.size, 4, none⟩ = some (.string ti) ∧ w'.cell? ⟨w.heap.size, 5, none⟩ = some (.string co) ∧ w'.cell? ⟨w.heap.size, 6, none⟩ = some (.string pu) ∧ w'.cell? ⟨w.heap.size, 7, none⟩ = some (.int .i64 y) ∧ w'.cell? ⟨w.heap.size, 8, none⟩ = some (.int .i64 m) ∧ w'.cell? ⟨w.heap.size, 9, none⟩ = some (.int .i64 d) ∧ w'.cell? ⟨w.heap.size, 10, none⟩ = some (.bool ci) ∧ w'.cell? ⟨w.heap.size, 11, none⟩ = some (.int .i64 vol) ∧ w'.cell? ⟨w.heap.size, 12, none⟩ = some (.string pa) ∧ w'.cell? ⟨w.heap.size, 13, none⟩ = some (.string cr)) ∧ (w'.cell? ⟨(w.heap.size + 1), 0, none⟩ = some (.string key2) ∧ w'.cell? ⟨(w.heap.size + 1), 1, none⟩ = some (.int .i64 kind2) ∧ w'.cell? ⟨(w.heap.size + 1), 2, none⟩ = some (.slice auA2 auN2 auc2) ∧ w'.cell? ⟨(w.heap.size + 1), 3, none⟩ = some (.slice edA2 edN2 edc2) ∧ w'.cell? ⟨(w.heap.size + 1), 4, none⟩ = some (.string ti2) ∧ w'.cell? ⟨(w.heap.size + 1), 5, none⟩ = some (.string co2) ∧ w'.cell? ⟨(w.heap.size + 1), 6, none⟩ = some (.string pu2) ∧ w'.cell? ⟨(w.heap.size + 1), 7, none⟩ = some (.int .i64 y2) ∧ w'.cell? ⟨(w.heap.size + 1), 8, none⟩ = some (.int .i64 m2) ∧ w'.cell? ⟨(w.heap.size + 1), 9, none⟩ = some (.int .i64 d2') ∧ w'.cell? ⟨(w.heap.size + 1), 10, none⟩ = some (.bool ci2) ∧ w'.cell? ⟨(w.heap.size + 1), 11, none⟩ = some (.int .i64 vol2) ∧ w'.cell? ⟨(w.heap.size + 1), 12, none⟩ = some (.string pa2) ∧ w'.cell? ⟨(w.heap.size + 1), 13, none⟩ = some (.string cr2)) ∧ Kept W0 w')) := Lib.hid (fun w' h => ⟨(HC1.out.below h).2, (HC2.out.below h).2, h⟩)
  have RR1 := Lib.hid (fun w' (hk : Kept W0 w') => R1.below (HB.out.trans (Below.mono hk HB.out.size)))
  have RR2 := Lib.hid (fun w' (hk : Kept W0 w') => R2.below (HB.out.trans (Below.mono hk HB.out.size)))
  have HW0 := Lib.hid hW0
  have hz1' : key.size + (auN + szL auL) + (edN + szL edL) + ti.size + co.size + pu.size + pa.size + cr.size ≤ 1048576 := s1
  have hz2' : key2.size + (auN2 + szL auL2) + (edN2 + szL edL2) + ti2.size + co2.size + pu2.size + pa2.size + cr2.size ≤ 1048576 := s2
  have HV1 := Lib.hid (fun w' (hk : Kept W0 w') => isValidE_any key kind auA auN auc auL edA edN edc edL ti co pu y m d ci vol pa cr w' (RR1.out w' hk) s1)
  have HV2 := Lib.hid (fun w' (hk : Kept W0 w') => isValidE_any key2 kind2 auA2 auN2 auc2 auL2 edA2 edN2 edc2 edL2 ti2 co2 pu2 y2 m2 d2' ci2 vol2 pa2 cr2 w' (RR2.out w' hk) s2)
  rw [ho1] at HV1
  rw [ho2] at HV2
  have KR : Kept W0 W0 := Below.refl _ _
  cases o1 with
  | false =>
    clear hW0 R1 R2 s1 s2 h1 h2 h3 h4 h5 ho1 ho2 hz1' hz2' p1 p2 hca
    obtain ⟨⟨e0, e1, e2, e3, e4, e5, e6, e7, e8, e9, e10, e11, e12, e13⟩, ⟨g0, g1, g2, g3, g4, g5, g6, g7, g8, g9, g10, g11, g12, g13⟩, -⟩ := HS.out _ KR
    go_enter Tryz.func7, Tryz.ntmps7
    go_wp2_with fail
    rw [← HW0.out]
    refine (HV1.out _ KR).mono ?_
    rintro e w1 ⟨rfl, b1⟩
    go_wp2_with fail
    go_ret2
    exact ⟨rfl, HB.out.trans (b1.mono HB.out.size)⟩
  | true =>
    cases o2 with
    | false =>
      clear hW0 R1 R2 s1 s2 h1 h2 h3 h4 h5 ho1 ho2 hz1' hz2' p1 p2 hca
      obtain ⟨⟨e0, e1, e2, e3, e4, e5, e6, e7, e8, e9, e10, e11, e12, e13⟩, ⟨g0, g1, g2, g3, g4, g5, g6, g7, g8, g9, g10, g11, g12, g13⟩, -⟩ := HS.out _ KR
      go_enter Tryz.func7, Tryz.ntmps7
      go_wp2_with fail
      rw [← HW0.out]
      refine (HV1.out _ KR).mono ?_
      rintro e w1 ⟨rfl, b1⟩
      have k1 : Kept W0 w1 := b1
      clear b1 e0 e1 e2 e3 e4 e5 e6 e7 e8 e9 e10 e11 e12 e13 g0 g1 g2 g3 g4 g5 g6 g7 g8 g9 g10 g11 g12 g13
      obtain ⟨⟨e0, e1, e2, e3, e4, e5, e6, e7, e8, e9, e10, e11, e12, e13⟩, ⟨g0, g1, g2, g3, g4, g5, g6, g7, g8, g9, g10, g11, g12, g13⟩, -⟩ := HS.out _ k1
      go_wp2_with fail
      refine (HV2.out _ k1).mono ?_
      rintro e w2 ⟨rfl, b2⟩
      go_wp2_with fail
      go_ret2
      exact ⟨rfl, HB.out.trans (Below.mono (Kept.next k1 b2) HB.out.size)⟩
    | true =>
      obtain ⟨mA, mN, mc, hm⟩ := main_pick (⟨key, kind, auA, auN, auc, auL, edA, edN, edc, edL, ti, co, pu, y, m, d, ci, vol, pa, cr⟩ : En)
      obtain ⟨mA2, mN2, mc2, hm2⟩ := main_pick (⟨key2, kind2, auA2, auN2, auc2, auL2, edA2, edN2, edc2, edL2, ti2, co2, pu2, y2, m2, d2', ci2, vol2, pa2, cr2⟩ : En)
      obtain ⟨q1, n1⟩ := main_rd R1 hm
      obtain ⟨q2, n2⟩ := main_rd R2 hm2
      obtain ⟨z1, u1⟩ := main_ok ho1
      obtain ⟨z2, u2⟩ := main_ok ho2
      have HCm := Lib.hid (fun w' (hk : Kept W0 w') => compare_i key kind auA auN auc auL edA edN edc edL ti co pu y m d ci vol pa cr key2 kind2 auA2 auN2 auc2 auL2 edA2 edN2 edc2 edL2 ti2 co2 pu2 y2 m2 d2' ci2 vol2 pa2 cr2 mA mN mc (mainL (⟨key, kind, auA, auN, auc, auL, edA, edN, edc, edL, ti, co, pu, y, m, d, ci, vol, pa, cr⟩ : En)) mA2 mN2 mc2 (mainL (⟨key2, kind2, auA2, auN2, auc2, auL2, edA2, edN2, edc2, edL2, ti2, co2, pu2, y2, m2, d2', ci2, vol2, pa2, cr2⟩ : En)) r1 r2 r3 r4 r5 w' hm hm2 (q1.below (HB.out.trans (Below.mono hk HB.out.size))) (q2.below (HB.out.trans (Below.mono hk HB.out.size))) n1 n2 (by rw [← n1]; exact z1) (by rw [← n2]; exact z2) u1 u2 p1 p2 (hca.below (HB.out.trans (Below.mono hk HB.out.size))) (ok_parts ho1).2.2 (ok_parts ho2).2.2 (by omega) (by omega) h1 h2 h3 h4 h5)
      clear hW0 R1 R2 s1 s2 h1 h2 h3 h4 h5 ho1 ho2 hm hm2 q1 q2 n1 n2 z1 z2 u1 u2 hz1' hz2' p1 p2 hca
      generalize Dt.orL [r1, r2, r3, r4, r5] = r at *
      obtain ⟨⟨e0, e1, e2, e3, e4, e5, e6, e7, e8, e9, e10, e11, e12, e13⟩, ⟨g0, g1, g2, g3, g4, g5, g6, g7, g8, g9, g10, g11, g12, g13⟩, -⟩ := HS.out _ KR
      go_enter Tryz.func7, Tryz.ntmps7
      go_wp2_with fail
      rw [← HW0.out]
      refine (HV1.out _ KR).mono ?_
      rintro e w1 ⟨rfl, b1⟩
      have k1 : Kept W0 w1 := b1
      clear b1 e0 e1 e2 e3 e4 e5 e6 e7 e8 e9 e10 e11 e12 e13 g0 g1 g2 g3 g4 g5 g6 g7 g8 g9 g10 g11 g12 g13
      obtain ⟨⟨e0, e1, e2, e3, e4, e5, e6, e7, e8, e9, e10, e11, e12, e13⟩, ⟨g0, g1, g2, g3, g4, g5, g6, g7, g8, g9, g10, g11, g12, g13⟩, -⟩ := HS.out _ k1
      go_wp2_with fail
      refine (HV2.out _ k1).mono ?_
      rintro e w2 ⟨rfl, b2⟩
      have k2 : Kept W0 w2 := Kept.next k1 b2
      clear b2 e0 e1 e2 e3 e4 e5 e6 e7 e8 e9 e10 e11 e12 e13 g0 g1 g2 g3 g4 g5 g6 g7 g8 g9 g10 g11 g12 g13
      obtain ⟨⟨e0, e1, e2, e3, e4, e5, e6, e7, e8, e9, e10, e11, e12, e13⟩, ⟨g0, g1, g2, g3, g4, g5, g6, g7, g8, g9, g10, g11, g12, g13⟩, -⟩ := HS.out _ k2
      go_wp2_with fail
      refine (HCm.out _ k2).mono ?_
      rintro e w3 ⟨rfl, b3⟩
      have k3 : Kept W0 w3 := Kept.next k2 b3
      clear e0 e1 e2 e3 e4 e5 e6 e7 e8 e9 e10 e11 e12 e13 g0 g1 g2 g3 g4 g5 g6 g7 g8 g9 g10 g11 g12 g13
      go_wp2_with fail
      go_ret2
      exact ⟨rfl, HB.out.trans (Below.mono k3 HB.out.size)⟩
set_option maxRecDepth 100000 in
set_option maxHeartbeats 16000000 in
theorem entries_s (key : ByteArray) (kind : Int) (auA : Option Addr) (auN : Nat) (auc : Nat) (auL : List Nm) (edA : Option Addr) (edN : Nat) (edc : Nat) (edL : List Nm) (ti : ByteArray) (co : ByteArray) (pu : ByteArray) (y : Int) (m : Int) (d : Int) (ci : Bool) (vol : Int) (pa : ByteArray) (cr : ByteArray) (key2 : ByteArray) (kind2 : Int) (auA2 : Option Addr) (auN2 : Nat) (auc2 : Nat) (auL2 : List Nm) (edA2 : Option Addr) (edN2 : Nat) (edc2 : Nat) (edL2 : List Nm) (ti2 : ByteArray) (co2 : ByteArray) (pu2 : ByteArray) (y2 : Int) (m2 : Int) (d2' : Int) (ci2 : Bool) (vol2 : Int) (pa2 : ByteArray) (cr2 : ByteArray) (r1 r2 r3 r4 r5 : Int) (o1 o2 : Bool) (w : World) (R1 : (⟨key, kind, auA, auN, auc, auL, edA, edN, edc, edL, ti, co, pu, y, m, d, ci, vol, pa, cr⟩ : En).Rd w) (R2 : (⟨key2, kind2, auA2, auN2, auc2, auL2, edA2, edN2, edc2, edL2, ti2, co2, pu2, y2, m2, d2', ci2, vol2, pa2, cr2⟩ : En).Rd w) (s1 : (⟨key, kind, auA, auN, auc, auL, edA, edN, edc, edL, ti, co, pu, y, m, d, ci, vol, pa, cr⟩ : En).sz ≤ 1048576) (s2 : (⟨key2, kind2, auA2, auN2, auc2, auL2, edA2, edN2, edc2, edL2, ti2, co2, pu2, y2, m2, d2', ci2, vol2, pa2, cr2⟩ : En).sz ≤ 1048576) (ho1 : okE (⟨key, kind, auA, auN, auc, auL, edA, edN, edc, edL, ti, co, pu, y, m, d, ci, vol, pa, cr⟩ : En) = o1) (ho2 : okE (⟨key2, kind2, auA2, auN2, auc2, auL2, edA2, edN2, edc2, edL2, ti2, co2, pu2, y2, m2, d2', ci2, vol2, pa2, cr2⟩ : En) = o2)
    (h1 : cnL (mainL (⟨key, kind, auA, auN, auc, auL, edA, edN, edc, edL, ti, co, pu, y, m, d, ci, vol, pa, cr⟩ : En)) (mainL (⟨key2, kind2, auA2, auN2, auc2, auL2, edA2, edN2, edc2, edL2, ti2, co2, pu2, y2, m2, d2', ci2, vol2, pa2, cr2⟩ : En)) = r1) (h2 : DtPl.cmpD y m d ci y2 m2 d2' ci2 = r2) (h3 : colV (ba (drA ti.data.toList)) (ba (drA ti2.data.toList)) = r3) (h4 : DtPl.cmpI vol vol2 = r4) (h5 : cmpS key key2 = r5) :
    Calls Tryz.prog 5 #[.agg #[.string key, .int .i64 kind, .slice auA auN auc, .slice edA edN edc, .string ti, .string co, .string pu, .int .i64 y, .int .i64 m, .int .i64 d, .bool ci, .int .i64 vol, .string pa, .string cr], .agg #[.string key2, .int .i64 kind2, .slice auA2 auN2 auc2, .slice edA2 edN2 edc2, .string ti2, .string co2, .string pu2, .int .i64 y2, .int .i64 m2, .int .i64 d2', .bool ci2, .int .i64 vol2, .string pa2, .string cr2]] w fun e w' => e = .returned (ceV o1 o2 (Dt.orL [r1, r2, r3, r4, r5])) ∧ Below w.heap.size w w' := by
  obtain ⟨W0, hW0⟩ : ∃ W0, W0 = (w.alloc (.cells #[.string key, .int .i64 kind, .slice auA auN auc, .slice edA edN edc, .string ti, .string co, .string pu, .int .i64 y, .int .i64 m, .int .i64 d, .bool ci, .int .i64 vol, .string pa, .string cr] 33)).alloc (.cells #[.string key2, .int .i64 kind2, .slice auA2 auN2 auc2, .slice edA2 edN2 edc2, .string ti2, .string co2, .string pu2, .int .i64 y2, .int .i64 m2, .int .i64 d2', .bool ci2, .int .i64 vol2, .string pa2, .string cr2] 33) := ⟨_, rfl⟩
  have HB : Hid (Below w.heap.size w W0) := Lib.hid (by rw [hW0]; exact boxes _ _ _)
  have HC1 : Hid (E14 W0 w.heap.size (⟨key, kind, auA, auN, auc, auL, edA, edN, edc, edL, ti, co, pu, y, m, d, ci, vol, pa, cr⟩ : En)) := Lib.hid (by rw [hW0]; exact (E14.new w (⟨key, kind, auA, auN, auc, auL, edA, edN, edc, edL, ti, co, pu, y, m, d, ci, vol, pa, cr⟩ : En) 33).below ((Below.refl _ _).alloc (Nat.le_refl _) _))
  have HC2 : Hid (E14 W0 (w.heap.size + 1) (⟨key2, kind2, auA2, auN2, auc2, auL2, edA2, edN2, edc2, edL2, ti2, co2, pu2, y2, m2, d2', ci2, vol2, pa2, cr2⟩ : En)) := Lib.hid (by
    rw [hW0]
    have := E14.new (w.alloc (.cells #[.string key, .int .i64 kind, .slice auA auN auc, .slice edA edN edc, .string ti, .string co, .string pu, .int .i64 y, .int .i64 m, .int .i64 d, .bool ci, .int .i64 vol, .string pa, .string cr] 33)) (⟨key2, kind2, auA2, auN2, auc2, auL2, edA2, edN2, edc2, edL2, ti2, co2, pu2, y2, m2, d2', ci2, vol2, pa2, cr2⟩ : En) 33
    simpa using this)
  have HS : Hid (∀ w', Kept W0 w' → ((w'.cell? ⟨w.heap.size, 0, none⟩ = some (.string key) ∧ w'.cell? ⟨w.heap.size, 1, none⟩ = some (.int .i64 kind) ∧ w'.cell? ⟨w.heap.size, 2, none⟩ = some (.slice auA auN auc) ∧ w'.cell? ⟨w.heap.size, 3, none⟩ = some (.slice edA edN edc) ∧ w'.cell? ⟨w.heap.size, 4, none⟩ = some (.string ti) ∧ w'.cell? ⟨w.heap.size, 5, none⟩ = some (.string co) ∧ w'.cell? ⟨w.heap.size, 6, none⟩ = some (.string pu) ∧ w'.cell? ⟨w.heap.size, 7, none⟩ = some (.int .i64 y) ∧ w'.cell? ⟨w.heap.size, 8, none⟩ = some (.int .i64 m) ∧ w'.cell? ⟨w.heap.size, 9, none⟩ = some (.int .i64 d) ∧ w'.cell? ⟨w.heap.size, 10, none⟩ = some (.bool ci) ∧ w'.cell? ⟨w.heap.size, 11, none⟩ = some (.int .i64 vol) ∧ w'.cell? ⟨w.heap.size, 12, none⟩ = some (.string pa) ∧ w'.cell? ⟨w.heap.size, 13, none⟩ = some (.string cr)) ∧ (w'.cell? ⟨(w.heap.size + 1), 0, none⟩ = some (.string key2) ∧ w'.cell? ⟨(w.heap.size + 1), 1, none⟩ = some (.int .i64 kind2) ∧ w'.cell? ⟨(w.heap.size + 1), 2, none⟩ = some (.slice auA2 auN2 auc2) ∧ w'.cell? ⟨(w.heap.size + 1), 3, none⟩ = some (.slice edA2 edN2 edc2) ∧ w'.cell? ⟨(w.heap.size + 1), 4, none⟩ = some (.string ti2) ∧ w'.cell? ⟨(w.heap.size + 1), 5, none⟩ = some (.string co2) ∧ w'.cell? ⟨(w.heap.size + 1), 6, none⟩ = some (.string pu2) ∧ w'.cell? ⟨(w.heap.size + 1), 7, none⟩ = some (.int .i64 y2) ∧ w'.cell? ⟨(w.heap.size + 1), 8, none⟩ = some (.int .i64 m2) ∧ w'.cell? ⟨(w.heap.size + 1), 9, none⟩ = some (.int .i64 d2') ∧ w'.cell? ⟨(w.heap.size + 1), 10, none⟩ = some (.bool ci2) ∧ w'.cell? ⟨(w.heap.size + 1), 11, none⟩ = some (.int .i64 vol2) ∧ w'.cell? ⟨(w.heap.size + 1), 12, none⟩ = some (.string pa2) ∧ w'.cell? ⟨(w.heap.size + 1), 13, none⟩ = some (.string cr2)) ∧ Kept W0 w')) := Lib.hid (fun w' h => ⟨(HC1.out.below h).2, (HC2.out.below h).2, h⟩)
  have RR1 := Lib.hid (fun w' (hk : Kept W0 w') => R1.below (HB.out.trans (Below.mono hk HB.out.size)))
  have RR2 := Lib.hid (fun w' (hk : Kept W0 w') => R2.below (HB.out.trans (Below.mono hk HB.out.size)))
  have HW0 := Lib.hid hW0
  have hz1' : key.size + (auN + szL auL) + (edN + szL edL) + ti.size + co.size + pu.size + pa.size + cr.size ≤ 1048576 := s1
  have hz2' : key2.size + (auN2 + szL auL2) + (edN2 + szL edL2) + ti2.size + co2.size + pu2.size + pa2.size + cr2.size ≤ 1048576 := s2
  have HV1 := Lib.hid (fun w' (hk : Kept W0 w') => l4Entry_any key kind auA auN auc auL edA edN edc edL ti co pu y m d ci vol pa cr w' (RR1.out w' hk) s1)
  have HV2 := Lib.hid (fun w' (hk : Kept W0 w') => l4Entry_any key2 kind2 auA2 auN2 auc2 auL2 edA2 edN2 edc2 edL2 ti2 co2 pu2 y2 m2 d2' ci2 vol2 pa2 cr2 w' (RR2.out w' hk) s2)
  rw [ho1] at HV1
  rw [ho2] at HV2
  have KR : Kept W0 W0 := Below.refl _ _
  cases o1 with
  | false =>
    clear hW0 R1 R2 s1 s2 h1 h2 h3 h4 h5 ho1 ho2 hz1' hz2'
    obtain ⟨⟨e0, e1, e2, e3, e4, e5, e6, e7, e8, e9, e10, e11, e12, e13⟩, ⟨g0, g1, g2, g3, g4, g5, g6, g7, g8, g9, g10, g11, g12, g13⟩, -⟩ := HS.out _ KR
    go_enter Tryz.func5, Tryz.ntmps5
    go_wp2_with fail
    rw [← HW0.out]
    refine (HV1.out _ KR).mono ?_
    rintro e w1 ⟨rfl, b1⟩
    go_wp2_with fail
    go_ret2
    exact ⟨rfl, HB.out.trans (b1.mono HB.out.size)⟩
  | true =>
    cases o2 with
    | false =>
      clear hW0 R1 R2 s1 s2 h1 h2 h3 h4 h5 ho1 ho2 hz1' hz2'
      obtain ⟨⟨e0, e1, e2, e3, e4, e5, e6, e7, e8, e9, e10, e11, e12, e13⟩, ⟨g0, g1, g2, g3, g4, g5, g6, g7, g8, g9, g10, g11, g12, g13⟩, -⟩ := HS.out _ KR
      go_enter Tryz.func5, Tryz.ntmps5
      go_wp2_with fail
      rw [← HW0.out]
      refine (HV1.out _ KR).mono ?_
      rintro e w1 ⟨rfl, b1⟩
      have k1 : Kept W0 w1 := b1
      clear b1 e0 e1 e2 e3 e4 e5 e6 e7 e8 e9 e10 e11 e12 e13 g0 g1 g2 g3 g4 g5 g6 g7 g8 g9 g10 g11 g12 g13
      obtain ⟨⟨e0, e1, e2, e3, e4, e5, e6, e7, e8, e9, e10, e11, e12, e13⟩, ⟨g0, g1, g2, g3, g4, g5, g6, g7, g8, g9, g10, g11, g12, g13⟩, -⟩ := HS.out _ k1
      go_wp2_with fail
      refine (HV2.out _ k1).mono ?_
      rintro e w2 ⟨rfl, b2⟩
      go_wp2_with fail
      go_ret2
      exact ⟨rfl, HB.out.trans (Below.mono (Kept.next k1 b2) HB.out.size)⟩
    | true =>
      obtain ⟨mA, mN, mc, hm⟩ := main_pick (⟨key, kind, auA, auN, auc, auL, edA, edN, edc, edL, ti, co, pu, y, m, d, ci, vol, pa, cr⟩ : En)
      obtain ⟨mA2, mN2, mc2, hm2⟩ := main_pick (⟨key2, kind2, auA2, auN2, auc2, auL2, edA2, edN2, edc2, edL2, ti2, co2, pu2, y2, m2, d2', ci2, vol2, pa2, cr2⟩ : En)
      obtain ⟨q1, n1⟩ := main_rd R1 hm
      obtain ⟨q2, n2⟩ := main_rd R2 hm2
      obtain ⟨z1, u1⟩ := main_ok ho1
      obtain ⟨z2, u2⟩ := main_ok ho2
      have HCm := Lib.hid (fun w' (hk : Kept W0 w') => compare_s key kind auA auN auc auL edA edN edc edL ti co pu y m d ci vol pa cr key2 kind2 auA2 auN2 auc2 auL2 edA2 edN2 edc2 edL2 ti2 co2 pu2 y2 m2 d2' ci2 vol2 pa2 cr2 mA mN mc (mainL (⟨key, kind, auA, auN, auc, auL, edA, edN, edc, edL, ti, co, pu, y, m, d, ci, vol, pa, cr⟩ : En)) mA2 mN2 mc2 (mainL (⟨key2, kind2, auA2, auN2, auc2, auL2, edA2, edN2, edc2, edL2, ti2, co2, pu2, y2, m2, d2', ci2, vol2, pa2, cr2⟩ : En)) r1 r2 r3 r4 r5 w' hm hm2 (q1.below (HB.out.trans (Below.mono hk HB.out.size))) (q2.below (HB.out.trans (Below.mono hk HB.out.size))) n1 n2 (by rw [← n1]; exact z1) (by rw [← n2]; exact z2) u1 u2 (ok_parts ho1).2.2 (ok_parts ho2).2.2 (by omega) (by omega) h1 h2 h3 h4 h5)
      clear hW0 R1 R2 s1 s2 h1 h2 h3 h4 h5 ho1 ho2 hm hm2 q1 q2 n1 n2 z1 z2 u1 u2 hz1' hz2'
      generalize Dt.orL [r1, r2, r3, r4, r5] = r at *
      obtain ⟨⟨e0, e1, e2, e3, e4, e5, e6, e7, e8, e9, e10, e11, e12, e13⟩, ⟨g0, g1, g2, g3, g4, g5, g6, g7, g8, g9, g10, g11, g12, g13⟩, -⟩ := HS.out _ KR
      go_enter Tryz.func5, Tryz.ntmps5
      go_wp2_with fail
      rw [← HW0.out]
      refine (HV1.out _ KR).mono ?_
      rintro e w1 ⟨rfl, b1⟩
      have k1 : Kept W0 w1 := b1
      clear b1 e0 e1 e2 e3 e4 e5 e6 e7 e8 e9 e10 e11 e12 e13 g0 g1 g2 g3 g4 g5 g6 g7 g8 g9 g10 g11 g12 g13
      obtain ⟨⟨e0, e1, e2, e3, e4, e5, e6, e7, e8, e9, e10, e11, e12, e13⟩, ⟨g0, g1, g2, g3, g4, g5, g6, g7, g8, g9, g10, g11, g12, g13⟩, -⟩ := HS.out _ k1
      go_wp2_with fail
      refine (HV2.out _ k1).mono ?_
      rintro e w2 ⟨rfl, b2⟩
      have k2 : Kept W0 w2 := Kept.next k1 b2
      clear b2 e0 e1 e2 e3 e4 e5 e6 e7 e8 e9 e10 e11 e12 e13 g0 g1 g2 g3 g4 g5 g6 g7 g8 g9 g10 g11 g12 g13
      obtain ⟨⟨e0, e1, e2, e3, e4, e5, e6, e7, e8, e9, e10, e11, e12, e13⟩, ⟨g0, g1, g2, g3, g4, g5, g6, g7, g8, g9, g10, g11, g12, g13⟩, -⟩ := HS.out _ k2
      go_wp2_with fail
      refine (HCm.out _ k2).mono ?_
      rintro e w3 ⟨rfl, b3⟩
      have k3 : Kept W0 w3 := Kept.next k2 b3
      clear e0 e1 e2 e3 e4 e5 e6 e7 e8 e9 e10 e11 e12 e13 g0 g1 g2 g3 g4 g5 g6 g7 g8 g9 g10 g11 g12 g13
      go_wp2_with fail
      go_ret2
      exact ⟨rfl, HB.out.trans (Below.mono k3 HB.out.size)⟩
end Go.Proofs.YtmopncojgkmkpaaGreatDoor.Ce
