/-
  baseLabel and BaseLabel of both.
-/
import Derived.Test.YtllkmnifbnjdkaaGreatDoorBl3
import Derived.Test.YtllkmnifbnjdkaaGreatDoorVei
import Derived.Test.YtllkmnifbnjdkaaGreatDoorLbK
namespace Go.Proofs.YtllkmnifbnjdkaaGreatDoor.Bl
open Go.RowKit Pl NmPl Strs Name Nms Ens DtPl DtTx ReadPl Kpz LtI
open Num (Tab)
set_option linter.unusedSimpArgs false
set_option linter.unusedVariables false

theorem year_i (y : Int) (w : World) (h0 : 0 ≤ y) (h1 : y ≤ 9999) (ht : Tab w) :
    Calls Tryz.prog 54 #[.int .i64 y] w fun e w' => e = .returned (.string (ba (yrB y))) ∧ Kp w w' := by
  by_cases hy : y = 0
  · subst hy
    clear ht
    go_enter Tryz.func54, Tryz.ntmps54
    go_wp2_with fail
    go_ret
    exact ⟨rfl, kre _⟩
  · obtain ⟨u, rfl⟩ := Int.eq_ofNat_of_zero_le h0
    obtain ⟨v, hv⟩ : ∃ v, u % 100 = v := ⟨_, rfl⟩
    have hm : ((u : Nat) : Int).tmod 100 = (v : Int) := by rw [Int.tmod_eq_emod_of_nonneg (by omega)]; omega
    have hd : (((u : Nat) : Int) == 0) = false := by simp at hy ⊢; exact hy
    have HP := Lib.hid (DtF.padDecimal v 2 w (by omega) (by omega) ht)
    have HE : Hid (yrB ((u : Nat) : Int) = pad v 2) := Lib.hid (by unfold yrB; rw [if_neg (by simpa using hy), show ((u : Nat) : Int).toNat = u from rfl, hv])
    clear ht hy hv
    go_enter Tryz.func54, Tryz.ntmps54
    go_wp2_with fail
    refine HP.out.mono ?_
    rintro e w1 ⟨rfl, b1⟩
    go_wp2_with fail
    go_ret
    exact ⟨by rw [HE.out]; rfl, b1⟩
set_option maxRecDepth 100000 in
set_option maxHeartbeats 8000000 in
theorem base_i (key : ByteArray) (kind : Int) (auA : Option Addr) (auN : Nat) (auc : Nat) (auL : List Nm) (edA : Option Addr) (edN : Nat) (edc : Nat) (edL : List Nm) (ti : ByteArray) (co : ByteArray) (pu : ByteArray) (y : Int) (m : Int) (d : Int) (ci : Bool) (vol : Int) (pa : ByteArray) (cr : ByteArray) (w : World) (hr : (⟨key, kind, auA, auN, auc, auL, edA, edN, edc, edL, ti, co, pu, y, m, d, ci, vol, pa, cr⟩ : En).Rd w) (hti : ti.size ≤ 1048576) (hf : ∀ x ∈ auL, x.f.size ≤ 1048576) (hN : auN ≤ 1048576) (hy1 : 0 ≤ y) (hy2 : y ≤ 9999) (ht : Tab w) :
    Calls Tryz.prog 25 #[.agg #[.string key, .int .i64 kind, .slice auA auN auc, .slice edA edN edc, .string ti, .string co, .string pu, .int .i64 y, .int .i64 m, .int .i64 d, .bool ci, .int .i64 vol, .string pa, .string cr]] w fun e w' => e = .returned (.string (ba (baseL (⟨key, kind, auA, auN, auc, auL, edA, edN, edc, edL, ti, co, pu, y, m, d, ci, vol, pa, cr⟩ : En)))) ∧ Kp w w' := by
  have hb0 : Kp w (w.alloc (.cells #[.string key, .int .i64 kind, .slice auA auN auc, .slice edA edN edc, .string ti, .string co, .string pu, .int .i64 y, .int .i64 m, .int .i64 d, .bool ci, .int .i64 vol, .string pa, .string cr] 33)) := kal (kre _) _
  have HE0 := E14.new w (⟨key, kind, auA, auN, auc, auL, edA, edN, edc, edL, ti, co, pu, y, m, d, ci, vol, pa, cr⟩ : En) 33
  have hNBz := nm_size ti.data.toList auL
  rw [show auL.length = auN from hr.2.1] at hNBz
  have hYz : (ba (yrB y)).size ≤ 2 := by rw [ba_size]; exact yrB_len y
  have HF : Hid (ba (nmB ti.data.toList (fams auL)) ++ ba (yrB y) = ba (baseL (⟨key, kind, auA, auN, auc, auL, edA, edN, edc, edL, ti, co, pu, y, m, d, ci, vol, pa, cr⟩ : En))) := Lib.hid (by rw [ba_app]; rfl)
  have HC1 := Lib.hid (fun w' (h : Kp w w') => names_i key kind auA auN auc auL edA edN edc edL ti co pu y m d ci vol pa cr w' (hr.below h) hti hf hN)
  have HC2 := Lib.hid (fun w' (h : Kp w w') => year_i y w' hy1 hy2 (ht.below h))
  generalize ba (nmB ti.data.toList (fams auL)) = nb at *
  generalize ba (yrB y) = yb at *
  clear hr ht hf
  generalize hW : w.alloc (.cells #[.string key, .int .i64 kind, .slice auA auN auc, .slice edA edN edc, .string ti, .string co, .string pu, .int .i64 y, .int .i64 m, .int .i64 d, .bool ci, .int .i64 vol, .string pa, .string cr] 33) = w0 at *
  have hz : (nb ++ yb).size = nb.size + yb.size := ByteArray.size_append
  have hL1 : ¬ 9223372036854775807 < nb.size + yb.size := by omega
  have HSS : Hid (∀ w', Kp w0 w' → (w'.cell? ⟨w.heap.size, 0, none⟩ = some (.string key) ∧ w'.cell? ⟨w.heap.size, 1, none⟩ = some (.int .i64 kind) ∧ w'.cell? ⟨w.heap.size, 2, none⟩ = some (.slice auA auN auc) ∧ w'.cell? ⟨w.heap.size, 3, none⟩ = some (.slice edA edN edc) ∧ w'.cell? ⟨w.heap.size, 4, none⟩ = some (.string ti) ∧ w'.cell? ⟨w.heap.size, 5, none⟩ = some (.string co) ∧ w'.cell? ⟨w.heap.size, 6, none⟩ = some (.string pu) ∧ w'.cell? ⟨w.heap.size, 7, none⟩ = some (.int .i64 y) ∧ w'.cell? ⟨w.heap.size, 8, none⟩ = some (.int .i64 m) ∧ w'.cell? ⟨w.heap.size, 9, none⟩ = some (.int .i64 d) ∧ w'.cell? ⟨w.heap.size, 10, none⟩ = some (.bool ci) ∧ w'.cell? ⟨w.heap.size, 11, none⟩ = some (.int .i64 vol) ∧ w'.cell? ⟨w.heap.size, 12, none⟩ = some (.string pa) ∧ w'.cell? ⟨w.heap.size, 13, none⟩ = some (.string cr)) ∧ Kp w0 w') := Lib.hid (fun w' h => ⟨(HE0.below h).2, h⟩)
  have HK0 := Lib.hid (kdr (kre w0))
  have HB0 := Lib.hid hb0
  obtain ⟨hl, c0, c1, c2, c3, c4, c5, c6, c7, c8, c9, c10, c11, c12, c13⟩ := HE0
  dsimp only at c0 c1 c2 c3 c4 c5 c6 c7 c8 c9 c10 c11 c12 c13
  clear hb0
  go_enter Tryz.func25, Tryz.ntmps25
  go_wp2_with fail
  go_region_held3 (fun w' => (w'.cell? ⟨w.heap.size, 0, none⟩ = some (.string key) ∧ w'.cell? ⟨w.heap.size, 1, none⟩ = some (.int .i64 kind) ∧ w'.cell? ⟨w.heap.size, 2, none⟩ = some (.slice auA auN auc) ∧ w'.cell? ⟨w.heap.size, 3, none⟩ = some (.slice edA edN edc) ∧ w'.cell? ⟨w.heap.size, 4, none⟩ = some (.string ti) ∧ w'.cell? ⟨w.heap.size, 5, none⟩ = some (.string co) ∧ w'.cell? ⟨w.heap.size, 6, none⟩ = some (.string pu) ∧ w'.cell? ⟨w.heap.size, 7, none⟩ = some (.int .i64 y) ∧ w'.cell? ⟨w.heap.size, 8, none⟩ = some (.int .i64 m) ∧ w'.cell? ⟨w.heap.size, 9, none⟩ = some (.int .i64 d) ∧ w'.cell? ⟨w.heap.size, 10, none⟩ = some (.bool ci) ∧ w'.cell? ⟨w.heap.size, 11, none⟩ = some (.int .i64 vol) ∧ w'.cell? ⟨w.heap.size, 12, none⟩ = some (.string pa) ∧ w'.cell? ⟨w.heap.size, 13, none⟩ = some (.string cr)) ∧ Kp w0 w')
    (first | exact HSS.out _ HK0.out | exact HSS.out _ (by assumption))
    (first
      | (go_at_call 53; (with_reducible refine (HC1.out _ (ktr HB0.out (by first | assumption | exact HK0.out))).mono ?_); rintro e wa ⟨rfl, bka⟩; have hka : Kp w0 wa := ktr (by first | assumption | exact HK0.out) bka; clear bka)
      | (go_at_call 54; (with_reducible refine (HC2.out _ (ktr HB0.out (by first | assumption | exact HK0.out))).mono ?_); rintro e wb ⟨rfl, bkb⟩; have hkb : Kp w0 wb := ktr (by first | assumption | exact HK0.out) bkb; clear bkb))
  all_goals
    (try clear hHeld)
    have hkf : Kp w _ := ktr HB0.out (by assumption)
    (try clear hW)
    go_wp2_with fail
    go_ret
    exact ⟨by rw [← HF.out]; rfl, hkf⟩
/-- what BaseLabel answers -/
def btS (e : En) : ByteArray := if okE e then ba (baseL e) else ⟨#[]⟩
def btB (e : En) : Bool := okE e
theorem btS_kk {x y : En} (h : x.key4 = y.key4) : btS x = btS y := by
  unfold btS
  rw [Lbs.okE_k h]
  have hb : baseL x = baseL y := by
    simp only [En.key4, Prod.mk.injEq] at h
    obtain ⟨h1, h2, h3, h4, h5, h6, h7, ⟨h8, h9, h10, h11⟩, h12, h13, h14⟩ := h
    have e : ∀ K : List Nm, fams K = (K.map Nm.key).map fun k => k.2.2.1.data.toList := fun K => by rw [List.map_map]; rfl
    unfold baseL
    rw [h5, h8, e, e, h3]
  rw [hb]
theorem btB_kk {x y : En} (h : x.key4 = y.key4) : btB x = btB y := Lbs.okE_k h
theorem szL_kk {L M : List Nm} (h : L.map Nm.key = M.map Nm.key) : szL L = szL M := Lbs.szL_k4 h
theorem small {auL edL : List Nm} {auN edN : Nat} {key ti co pu pa cr : ByteArray} (hz : key.size + (auN + szL auL) + (edN + szL edL) + ti.size + co.size + pu.size + pa.size + cr.size ≤ 1048576) : ti.size ≤ 1048576 ∧ (∀ x ∈ auL, x.f.size ≤ 1048576) ∧ auN ≤ 1048576 := by
  refine ⟨by omega, fun x hx => ?_, by omega⟩
  have h1 := szL_mem hx
  unfold Nm.sz at h1
  omega
theorem year_of {x : En} (h : okE x = true) : 0 ≤ x.y ∧ x.y ≤ 9999 := by
  unfold okE at h
  simp only [Bool.and_eq_true] at h
  have := ok_bd h.2.2.2.2.2.2.2.2.1
  exact ⟨this.1, by omega⟩

set_option maxRecDepth 100000 in
set_option maxHeartbeats 4000000 in
theorem label_i (key : ByteArray) (kind : Int) (auA : Option Addr) (auN : Nat) (auc : Nat) (auL : List Nm) (edA : Option Addr) (edN : Nat) (edc : Nat) (edL : List Nm) (ti : ByteArray) (co : ByteArray) (pu : ByteArray) (y : Int) (m : Int) (d : Int) (ci : Bool) (vol : Int) (pa : ByteArray) (cr : ByteArray) (w : World) (hr : (⟨key, kind, auA, auN, auc, auL, edA, edN, edc, edL, ti, co, pu, y, m, d, ci, vol, pa, cr⟩ : En).Rd w) (hz : (⟨key, kind, auA, auN, auc, auL, edA, edN, edc, edL, ti, co, pu, y, m, d, ci, vol, pa, cr⟩ : En).sz ≤ 1048576) (ht : Tab w) :
    Calls Tryz.prog 8 #[.agg #[.string key, .int .i64 kind, .slice auA auN auc, .slice edA edN edc, .string ti, .string co, .string pu, .int .i64 y, .int .i64 m, .int .i64 d, .bool ci, .int .i64 vol, .string pa, .string cr]] w fun e w' => e = .returned (.tuple #[.string (btS (⟨key, kind, auA, auN, auc, auL, edA, edN, edc, edL, ti, co, pu, y, m, d, ci, vol, pa, cr⟩ : En)), .bool (btB (⟨key, kind, auA, auN, auc, auL, edA, edN, edc, edL, ti, co, pu, y, m, d, ci, vol, pa, cr⟩ : En))]) ∧ Kp w w' := by
  have HV := Lib.hid (fun w' (h : Kp w w') => isValidE_any key kind auA auN auc auL edA edN edc edL ti co pu y m d ci vol pa cr w' (hr.below h) hz)
  obtain ⟨s1, s2, s3⟩ := small (auL := auL) (edL := edL) (auN := auN) (edN := edN) (key := key) (ti := ti) (co := co) (pu := pu) (pa := pa) (cr := cr) hz
  have HB := Lib.hid (fun (hy : 0 ≤ y ∧ y ≤ 9999) w' (h : Kp w w') => base_i key kind auA auN auc auL edA edN edc edL ti co pu y m d ci vol pa cr w' (hr.below h) s1 s2 s3 hy.1 hy.2 (ht.below h))
  have HY := Lib.hid (fun h => year_of (x := (⟨key, kind, auA, auN, auc, auL, edA, edN, edc, edL, ti, co, pu, y, m, d, ci, vol, pa, cr⟩ : En)) h)
  have hb0 : Kp w (w.alloc (.cells #[.string key, .int .i64 kind, .slice auA auN auc, .slice edA edN edc, .string ti, .string co, .string pu, .int .i64 y, .int .i64 m, .int .i64 d, .bool ci, .int .i64 vol, .string pa, .string cr] 33)) := kal (kre _) _
  have HE0 := Lib.hid (E14.new w (⟨key, kind, auA, auN, auc, auL, edA, edN, edc, edL, ti, co, pu, y, m, d, ci, vol, pa, cr⟩ : En) 33)
  have HS1 : Hid (okE (⟨key, kind, auA, auN, auc, auL, edA, edN, edc, edL, ti, co, pu, y, m, d, ci, vol, pa, cr⟩ : En) = true → btS (⟨key, kind, auA, auN, auc, auL, edA, edN, edc, edL, ti, co, pu, y, m, d, ci, vol, pa, cr⟩ : En) = ba (baseL (⟨key, kind, auA, auN, auc, auL, edA, edN, edc, edL, ti, co, pu, y, m, d, ci, vol, pa, cr⟩ : En))) := Lib.hid (fun h => by unfold btS; rw [h]; rfl)
  have HS0 : Hid (okE (⟨key, kind, auA, auN, auc, auL, edA, edN, edc, edL, ti, co, pu, y, m, d, ci, vol, pa, cr⟩ : En) = false → btS (⟨key, kind, auA, auN, auc, auL, edA, edN, edc, edL, ti, co, pu, y, m, d, ci, vol, pa, cr⟩ : En) = ⟨#[]⟩) := Lib.hid (fun h => by unfold btS; rw [h]; rfl)
  have HBb : Hid (btB (⟨key, kind, auA, auN, auc, auL, edA, edN, edc, edL, ti, co, pu, y, m, d, ci, vol, pa, cr⟩ : En) = okE (⟨key, kind, auA, auN, auc, auL, edA, edN, edc, edL, ti, co, pu, y, m, d, ci, vol, pa, cr⟩ : En)) := Lib.hid rfl
  clear hr hz s1 s2 s3 ht
  generalize hW : w.alloc (.cells #[.string key, .int .i64 kind, .slice auA auN auc, .slice edA edN edc, .string ti, .string co, .string pu, .int .i64 y, .int .i64 m, .int .i64 d, .bool ci, .int .i64 vol, .string pa, .string cr] 33) = w0 at *
  rw [HBb.out]
  generalize baseL (⟨key, kind, auA, auN, auc, auL, edA, edN, edc, edL, ti, co, pu, y, m, d, ci, vol, pa, cr⟩ : En) = BL at *
  generalize btS (⟨key, kind, auA, auN, auc, auL, edA, edN, edc, edL, ti, co, pu, y, m, d, ci, vol, pa, cr⟩ : En) = T0 at *
  cases hok : okE (⟨key, kind, auA, auN, auc, auL, edA, edN, edc, edL, ti, co, pu, y, m, d, ci, vol, pa, cr⟩ : En) with
  | false =>
    have HV1 := Lib.hid (HV.out w0 hb0)
    rw [hok] at HV1
    have hT := HS0.out hok
    subst hT
    obtain ⟨hl, c0, c1, c2, c3, c4, c5, c6, c7, c8, c9, c10, c11, c12, c13⟩ := HE0.out
    dsimp only at c0 c1 c2 c3 c4 c5 c6 c7 c8 c9 c10 c11 c12 c13
    clear hok HS0 HS1 HBb HB HV HY
    go_enter Tryz.func8, Tryz.ntmps8
    go_wp2_with fail
    (try clear hW)
    refine HV1.out.mono ?_
    rintro e w1 ⟨rfl, b1⟩
    go_wp2_with fail
    go_ret2
    exact ⟨rfl, ktr hb0 b1⟩
  | true =>
    have HV1 := Lib.hid (HV.out w0 hb0)
    rw [hok] at HV1
    have hT := HS1.out hok
    subst hT
    have HB1 := Lib.hid (HB.out (HY.out hok))
    have HEb := Lib.hid (fun w' (h : Kp w0 w') => HE0.out.below h)
    obtain ⟨hl, c0, c1, c2, c3, c4, c5, c6, c7, c8, c9, c10, c11, c12, c13⟩ := HE0.out
    dsimp only at c0 c1 c2 c3 c4 c5 c6 c7 c8 c9 c10 c11 c12 c13
    clear hok HS0 HS1 HBb HB HV HY HE0
    go_enter Tryz.func8, Tryz.ntmps8
    go_wp2_with fail
    (try clear hW)
    refine HV1.out.mono ?_
    rintro e w1 ⟨rfl, b1⟩
    have hb1 := ktr hb0 b1
    clear c0 c1 c2 c3 c4 c5 c6 c7 c8 c9 c10 c11 c12 c13 hl
    obtain ⟨hl, c0, c1, c2, c3, c4, c5, c6, c7, c8, c9, c10, c11, c12, c13⟩ := HEb.out _ b1
    dsimp only at c0 c1 c2 c3 c4 c5 c6 c7 c8 c9 c10 c11 c12 c13
    go_wp2_with fail
    refine (HB1.out _ hb1).mono ?_
    rintro e w2 ⟨rfl, b2⟩
    go_wp2_with fail
    go_ret2
    exact ⟨rfl, ktr hb1 b2⟩

set_option maxRecDepth 100000 in
set_option maxHeartbeats 4000000 in
theorem label_s (key : ByteArray) (kind : Int) (auA : Option Addr) (auN : Nat) (auc : Nat) (auL : List Nm) (edA : Option Addr) (edN : Nat) (edc : Nat) (edL : List Nm) (ti : ByteArray) (co : ByteArray) (pu : ByteArray) (y : Int) (m : Int) (d : Int) (ci : Bool) (vol : Int) (pa : ByteArray) (cr : ByteArray) (w : World) (hr : (⟨key, kind, auA, auN, auc, auL, edA, edN, edc, edL, ti, co, pu, y, m, d, ci, vol, pa, cr⟩ : En).Rd w) (hz : (⟨key, kind, auA, auN, auc, auL, edA, edN, edc, edL, ti, co, pu, y, m, d, ci, vol, pa, cr⟩ : En).sz ≤ 1048576) :
    Calls Tryz.prog 6 #[.agg #[.string key, .int .i64 kind, .slice auA auN auc, .slice edA edN edc, .string ti, .string co, .string pu, .int .i64 y, .int .i64 m, .int .i64 d, .bool ci, .int .i64 vol, .string pa, .string cr]] w fun e w' => e = .returned (.tuple #[.string (btS (⟨key, kind, auA, auN, auc, auL, edA, edN, edc, edL, ti, co, pu, y, m, d, ci, vol, pa, cr⟩ : En)), .bool (btB (⟨key, kind, auA, auN, auc, auL, edA, edN, edc, edL, ti, co, pu, y, m, d, ci, vol, pa, cr⟩ : En))]) ∧ Kp w w' := by
  have HV := Lib.hid (fun w' (h : Kp w w') => l4Entry_any key kind auA auN auc auL edA edN edc edL ti co pu y m d ci vol pa cr w' (hr.below h) hz)
  obtain ⟨s1, s2, s3⟩ := small (auL := auL) (edL := edL) (auN := auN) (edN := edN) (key := key) (ti := ti) (co := co) (pu := pu) (pa := pa) (cr := cr) hz
  have HB := Lib.hid (fun (hy : 0 ≤ y ∧ y ≤ 9999) w' (h : Kp w w') => base_s key kind auA auN auc auL edA edN edc edL ti co pu y m d ci vol pa cr w' (hr.below h) s1 s2 s3 hy.1 hy.2)
  have HY := Lib.hid (fun h => year_of (x := (⟨key, kind, auA, auN, auc, auL, edA, edN, edc, edL, ti, co, pu, y, m, d, ci, vol, pa, cr⟩ : En)) h)
  have hb0 : Kp w (w.alloc (.cells #[.string key, .int .i64 kind, .slice auA auN auc, .slice edA edN edc, .string ti, .string co, .string pu, .int .i64 y, .int .i64 m, .int .i64 d, .bool ci, .int .i64 vol, .string pa, .string cr] 33)) := kal (kre _) _
  have HE0 := Lib.hid (E14.new w (⟨key, kind, auA, auN, auc, auL, edA, edN, edc, edL, ti, co, pu, y, m, d, ci, vol, pa, cr⟩ : En) 33)
  have HS1 : Hid (okE (⟨key, kind, auA, auN, auc, auL, edA, edN, edc, edL, ti, co, pu, y, m, d, ci, vol, pa, cr⟩ : En) = true → btS (⟨key, kind, auA, auN, auc, auL, edA, edN, edc, edL, ti, co, pu, y, m, d, ci, vol, pa, cr⟩ : En) = ba (baseL (⟨key, kind, auA, auN, auc, auL, edA, edN, edc, edL, ti, co, pu, y, m, d, ci, vol, pa, cr⟩ : En))) := Lib.hid (fun h => by unfold btS; rw [h]; rfl)
  have HS0 : Hid (okE (⟨key, kind, auA, auN, auc, auL, edA, edN, edc, edL, ti, co, pu, y, m, d, ci, vol, pa, cr⟩ : En) = false → btS (⟨key, kind, auA, auN, auc, auL, edA, edN, edc, edL, ti, co, pu, y, m, d, ci, vol, pa, cr⟩ : En) = ⟨#[]⟩) := Lib.hid (fun h => by unfold btS; rw [h]; rfl)
  have HBb : Hid (btB (⟨key, kind, auA, auN, auc, auL, edA, edN, edc, edL, ti, co, pu, y, m, d, ci, vol, pa, cr⟩ : En) = okE (⟨key, kind, auA, auN, auc, auL, edA, edN, edc, edL, ti, co, pu, y, m, d, ci, vol, pa, cr⟩ : En)) := Lib.hid rfl
  clear hr hz s1 s2 s3
  generalize hW : w.alloc (.cells #[.string key, .int .i64 kind, .slice auA auN auc, .slice edA edN edc, .string ti, .string co, .string pu, .int .i64 y, .int .i64 m, .int .i64 d, .bool ci, .int .i64 vol, .string pa, .string cr] 33) = w0 at *
  rw [HBb.out]
  generalize baseL (⟨key, kind, auA, auN, auc, auL, edA, edN, edc, edL, ti, co, pu, y, m, d, ci, vol, pa, cr⟩ : En) = BL at *
  generalize btS (⟨key, kind, auA, auN, auc, auL, edA, edN, edc, edL, ti, co, pu, y, m, d, ci, vol, pa, cr⟩ : En) = T0 at *
  cases hok : okE (⟨key, kind, auA, auN, auc, auL, edA, edN, edc, edL, ti, co, pu, y, m, d, ci, vol, pa, cr⟩ : En) with
  | false =>
    have HV1 := Lib.hid (HV.out w0 hb0)
    rw [hok] at HV1
    have hT := HS0.out hok
    subst hT
    obtain ⟨hl, c0, c1, c2, c3, c4, c5, c6, c7, c8, c9, c10, c11, c12, c13⟩ := HE0.out
    dsimp only at c0 c1 c2 c3 c4 c5 c6 c7 c8 c9 c10 c11 c12 c13
    clear hok HS0 HS1 HBb HB HV HY
    go_enter Tryz.func6, Tryz.ntmps6
    go_wp2_with fail
    (try clear hW)
    refine HV1.out.mono ?_
    rintro e w1 ⟨rfl, b1⟩
    go_wp2_with fail
    go_ret2
    exact ⟨rfl, ktr hb0 b1⟩
  | true =>
    have HV1 := Lib.hid (HV.out w0 hb0)
    rw [hok] at HV1
    have hT := HS1.out hok
    subst hT
    have HB1 := Lib.hid (HB.out (HY.out hok))
    have HEb := Lib.hid (fun w' (h : Kp w0 w') => HE0.out.below h)
    obtain ⟨hl, c0, c1, c2, c3, c4, c5, c6, c7, c8, c9, c10, c11, c12, c13⟩ := HE0.out
    dsimp only at c0 c1 c2 c3 c4 c5 c6 c7 c8 c9 c10 c11 c12 c13
    clear hok HS0 HS1 HBb HB HV HY HE0
    go_enter Tryz.func6, Tryz.ntmps6
    go_wp2_with fail
    (try clear hW)
    refine HV1.out.mono ?_
    rintro e w1 ⟨rfl, b1⟩
    have hb1 := ktr hb0 b1
    clear c0 c1 c2 c3 c4 c5 c6 c7 c8 c9 c10 c11 c12 c13 hl
    obtain ⟨hl, c0, c1, c2, c3, c4, c5, c6, c7, c8, c9, c10, c11, c12, c13⟩ := HEb.out _ b1
    dsimp only at c0 c1 c2 c3 c4 c5 c6 c7 c8 c9 c10 c11 c12 c13
    go_wp2_with fail
    refine (HB1.out _ hb1).mono ?_
    rintro e w2 ⟨rfl, b2⟩
    go_wp2_with fail
    go_ret2
    exact ⟨rfl, ktr hb1 b2⟩
end Go.Proofs.YtllkmnifbnjdkaaGreatDoor.Bl
