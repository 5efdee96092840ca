/-
  Proved: for every entry the law FnExactIsValidEntry returns true: IsValidEntry answers as its model and writes into no argument; the argument reads as before. No further condition.
-/
import Derived.Test.YtjdnkjobccnmlaaRows
import Derived.Test.YtjdnkjobccnmlaaVei
import Derived.Test.YtjdnkjobccnmlaaEn2
import Derived.Test.YtjdnkjobccnmlaaEn3
import Derived.Test.YtjdnkjobccnmlaaOpenE
import Derived.Deep.RegionHeld3
import Derived.Deep.DeepCutAuto
import Derived.WalkKit
import Derived.ProofKit
import Derived.OpenShut
import Derived.ShutString
import Derived.ChangeOld
import Derived.Below
import Derived.Lib.SmallJoins
namespace Go.Proofs.Ytjdnkjobccnmlaa.fnExactIsValidEntry
open Go.ChangeShapes Go.WideShapes Go.ChangeAt Go.RowKit
open Go.ChangeMaps (open_string shut_string)
open Strs Help Name NGood OpenN Nms Jn Ens OpenE
set_option linter.unusedVariables false
set_option linter.unusedSimpArgs false

theorem all_key' (L : List Nm) : L.all Nm.ok = (L.map Nm.key).all fun k => okN k.1 k.2.1 k.2.2.1 k.2.2.2 := by
  rw [List.all_map]; rfl
theorem okL_k' {L M : List Nm} (h : L.map Nm.key = M.map Nm.key) : okL L = okL M := by
  unfold okL
  rw [all_key', all_key', h, len_of_key h]
theorem szL_k' {L M : List Nm} (h : L.map Nm.key = M.map Nm.key) : szL L = szL M := by
  have e : ∀ K : List Nm, K.map Nm.sz = (K.map Nm.key).map fun k => k.1.length + lens k.1 + k.2.1.size + k.2.2.1.size + k.2.2.2.size := fun K => by rw [List.map_map]; rfl
  unfold szL
  rw [e, e, h]
set_option maxRecDepth 100000 in
set_option maxHeartbeats 2000000 in
theorem specValidE (key : ByteArray) (kind : Int) (auA : Option Addr) (auN auc : Nat) (auL : List Nm) (edA : Option Addr) (edN edc : Nat) (edL : List Nm) (ti : ByteArray) (co : ByteArray) (pu : ByteArray) (y : Int) (m : Int) (d : Int) (ci : Bool) (vol : Int) (pa : ByteArray) (cr : ByteArray) (w : World) (hr : (⟨key, kind, auA, auN, auc, auL, edA, edN, edc, edL, ti, co, pu, y, m, d, ci, vol, pa, cr⟩ : En).Rd w) (hz : (⟨key, kind, auA, auN, auc, auL, edA, edN, edc, edL, ti, co, pu, y, m, d, ci, vol, pa, cr⟩ : En).sz ≤ 1048576) :
    Calls Try.prog 17 #[.agg #[.string key, .int .i64 kind, .slice auA auN auc, .slice edA edN edc, .string ti, .string co, .string pu, .int .i64 y, .int .i64 m, .int .i64 d, .bool ci, .int .i64 vol, .string pa, .string cr]] w fun e w' => e = .returned (.bool (okE (⟨key, kind, auA, auN, auc, auL, edA, edN, edc, edL, ti, co, pu, y, m, d, ci, vol, pa, cr⟩ : En))) ∧ Below w.heap.size w w' := by
  have HB := Lib.hid ((Below.refl _ w).alloc (Nat.le_refl _) (.cells #[.string key, .int .i64 kind, .slice auA auN auc, .slice edA edN edc, .string ti, .string co, .string pu, .int .i64 y, .int .i64 m, .int .i64 d, .bool ci, .int .i64 vol, .string pa, .string cr] 46))
  have HV := Lib.hid (l4Entry_any key kind auA auN auc auL edA edN edc edL ti co pu y m d ci vol pa cr _ (hr.below HB.out) hz)
  clear hr hz
  generalize okE (⟨key, kind, auA, auN, auc, auL, edA, edN, edc, edL, ti, co, pu, y, m, d, ci, vol, pa, cr⟩ : En) = r at *
  go_enter Try.func17, Try.ntmps17
  go_wp2_with fail
  refine HV.out.mono ?_
  rintro e w1 ⟨rfl, b1⟩
  go_wp2_with fail
  go_ret
  exact ⟨rfl, HB.out.trans (b1.mono HB.out.size)⟩

set_option maxRecDepth 100000 in
set_option maxHeartbeats 16000000 in
theorem walk (key : ByteArray) (kind : Int) (auA : Option Addr) (auN auc : Nat) (auL : List Nm) (edA : Option Addr) (edN edc : Nat) (edL : List Nm) (ti : ByteArray) (co : ByteArray) (pu : ByteArray) (y : Int) (m : Int) (d : Int) (ci : Bool) (vol : Int) (pa : ByteArray) (cr : ByteArray) (w : World) (hr : (⟨key, kind, auA, auN, auc, auL, edA, edN, edc, edL, ti, co, pu, y, m, d, ci, vol, pa, cr⟩ : En).Rd w) (hl : (⟨key, kind, auA, auN, auc, auL, edA, edN, edc, edL, ti, co, pu, y, m, d, ci, vol, pa, cr⟩ : En).Lim) :
    Calls Try.prog 5 #[.agg #[.string key, .int .i64 kind, .slice auA auN auc, .slice edA edN edc, .string ti, .string co, .string pu, .int .i64 y, .int .i64 m, .int .i64 d, .bool ci, .int .i64 vol, .string pa, .string cr]] w fun e w' => e = .returned (.bool true) ∧ Below w.heap.size w w' := by
  have HB := Lib.hid ((Below.refl _ w).alloc (Nat.le_refl _) (.cells #[.string key, .int .i64 kind, .slice auA auN auc, .slice edA edN edc, .string ti, .string co, .string pu, .int .i64 y, .int .i64 m, .int .i64 d, .bool ci, .int .i64 vol, .string pa, .string cr] 41))
  have HE0 := Lib.hid (E14.new w (⟨key, kind, auA, auN, auc, auL, edA, edN, edc, edL, ti, co, pu, y, m, d, ci, vol, pa, cr⟩ : En) 41)
  have HR := Lib.hid hr
  have HS := Lib.hid (szEntry_any key kind auA auN auc auL edA edN edc edL ti co pu y m d ci vol pa cr 1048576 _ (hr.below HB.out) hl (Nat.le_refl _))
  by_cases hfit : (⟨key, kind, auA, auN, auc, auL, edA, edN, edc, edL, ti, co, pu, y, m, d, ci, vol, pa, cr⟩ : En).sz ≤ 1048576
  · obtain ⟨t, ht⟩ : ∃ t : Nat, szE 1048576 (⟨key, kind, auA, auN, auc, auL, edA, edN, edc, edL, ti, co, pu, y, m, d, ci, vol, pa, cr⟩ : En) = (t : Int) := ⟨1048576 - (⟨key, kind, auA, auN, auc, auL, edA, edN, edc, edL, ti, co, pu, y, m, d, ci, vol, pa, cr⟩ : En).sz, by unfold szE; rw [if_pos hfit]; omega⟩
    rw [ht] at HS
    have hz' : key.size + (auN + szL auL) + (edN + szL edL) + ti.size + co.size + pu.size + pa.size + cr.size ≤ 1048576 := hfit
    have ha : auN ≤ 1048576 := by omega
    have he : edN ≤ 1048576 := by omega
    have lim : ∀ (K : List Nm) (C : Option Addr), RdN0 w C K → szL K ≤ 1048576 → ∀ x ∈ K, x.n ≤ 1048576 := fun K C h hz x hx => by
      have h1 := szL_mem hx
      obtain ⟨k, hk, rfl⟩ := List.getElem_of_mem hx
      have h2 := (h k _ (List.getElem?_eq_getElem hk)).1.2.2
      unfold Nm.sz at h1
      omega
    have HLa := Lib.hid (lim auL auA hr.1 (by omega))
    have HLe := Lib.hid (lim edL edA hr.2.2.1 (by omega))
    have HZ := Lib.hid hz'
    generalize hres : okE (⟨key, kind, auA, auN, auc, auL, edA, edN, edc, edL, ti, co, pu, y, m, d, ci, vol, pa, cr⟩ : En) = res
    have HRes := Lib.hid hres
    clear hr hl hfit ht hz' lim hres
    go_enter Try.func5, Try.ntmps5
    go_wp2_with fail
    refine HS.out.mono ?_
    rintro e w1 ⟨rfl, b1⟩
    have k1 := HB.out.trans (b1.mono HB.out.size)
    have E1 := Lib.hid (HE0.out.below b1)
    clear b1 HS
    obtain ⟨hl, c0, c1, c2, c3, c4, c5, c6, c7, c8, c9, c10, c11, c12, c13⟩ := E1.out
    dsimp only at c0 c1 c2 c3 c4 c5 c6 c7 c8 c9 c10 c11 c12 c13
    go_wp2_with fail
    refine (toEntry_any key kind auA auN auc auL edA edN edc edL ti co pu y m d ci vol pa cr _ (HR.out.below k1) ha he HLa.out HLe.out).mono ?_
    rintro e w2 ⟨A2, M2, A3, M3, rfl, R2, K2, K3, n2, n3, b2⟩
    have k2 := k1.trans (b2.mono k1.size)
    have E2 := Lib.hid (E1.out.below b2)
    have HV := Lib.hid (specValidE key kind A2 auN auN M2 A3 edN edN M3 ti co pu y m d ci vol pa cr w2 R2 (by show key.size + (auN + szL M2) + (edN + szL M3) + ti.size + co.size + pu.size + pa.size + cr.size ≤ 1048576; rw [szL_k' K2, szL_k' K3]; exact HZ.out))
    have hrs : okE (⟨key, kind, A2, auN, auN, M2, A3, edN, edN, M3, ti, co, pu, y, m, d, ci, vol, pa, cr⟩ : En) = res := by rw [← HRes.out]; unfold okE; dsimp only; rw [okL_k' K2, okL_k' K3]
    rw [hrs] at HV
    clear b2 R2 K2 K3 n2 n3 k1 E1 hrs hl c0 c1 c2 c3 c4 c5 c6 c7 c8 c9 c10 c11 c12 c13
    go_wp2_with fail
    refine HV.out.mono ?_
    rintro e w3 ⟨rfl, b3⟩
    have k3 := k2.trans (b3.mono k2.size)
    have E3 := Lib.hid (E2.out.below b3)
    clear b3 k2 E2 HV
    obtain ⟨hl, c0, c1, c2, c3, c4, c5, c6, c7, c8, c9, c10, c11, c12, c13⟩ := E3.out
    dsimp only at c0 c1 c2 c3 c4 c5 c6 c7 c8 c9 c10 c11 c12 c13
    go_wp2_with fail
    refine (toEntry_any key kind auA auN auc auL edA edN edc edL ti co pu y m d ci vol pa cr _ (HR.out.below k3) ha he HLa.out HLe.out).mono ?_
    rintro e w4 ⟨A4, M4, A5, M5, rfl, R4, K4, K5, n4, n5, b4⟩
    have k4 := k3.trans (b4.mono k3.size)
    have B5 := (Below.refl _ w4).alloc (Nat.le_refl _) (.cells #[.string key, .int .i64 kind, .slice A4 auN auN, .slice A5 edN edN, .string ti, .string co, .string pu, .int .i64 y, .int .i64 m, .int .i64 d, .bool ci, .int .i64 vol, .string pa, .string cr] 46)
    have E5 := Lib.hid ((E3.out.below b4).below B5)
    have X5 := Lib.hid (E14.new w4 (⟨key, kind, A4, auN, auN, M4, A5, edN, edN, M5, ti, co, pu, y, m, d, ci, vol, pa, cr⟩ : En) 46)
    have R5 := Lib.hid (R4.below B5)
    have k5 := k4.trans (B5.mono k4.size)
    have hsz : (⟨key, kind, A4, auN, auN, M4, A5, edN, edN, M5, ti, co, pu, y, m, d, ci, vol, pa, cr⟩ : En).sz ≤ 1048576 := by show key.size + (auN + szL M4) + (edN + szL M5) + ti.size + co.size + pu.size + pa.size + cr.size ≤ 1048576; rw [szL_k' K4, szL_k' K5]; exact HZ.out
    have HV := Lib.hid (isValidE_any key kind A4 auN auN M4 A5 edN edN M5 ti co pu y m d ci vol pa cr _ R5.out hsz)
    have hrs : okE (⟨key, kind, A4, auN, auN, M4, A5, edN, edN, M5, ti, co, pu, y, m, d, ci, vol, pa, cr⟩ : En) = res := by rw [← HRes.out]; unfold okE; dsimp only; rw [okL_k' K4, okL_k' K5]
    rw [hrs] at HV
    have HK4 := Lib.hid K4
    have HK5 := Lib.hid K5
    have Hn4 := Lib.hid n4
    have Hn5 := Lib.hid n5
    clear b4 R4 K4 K5 n4 n5 k3 k4 E3 hrs hsz B5 hl c0 c1 c2 c3 c4 c5 c6 c7 c8 c9 c10 c11 c12 c13
    go_upto_region 7 with fail
    generalize hW : w4.alloc _ = w5 at E5 X5 R5 k5 HV ⊢
    clear hW
    generalize w4.heap.size = bx at *
    obtain ⟨hl, c0, c1, c2, c3, c4, c5, c6, c7, c8, c9, c10, c11, c12, c13⟩ := X5.out
    dsimp only at c0 c1 c2 c3 c4 c5 c6 c7 c8 c9 c10 c11 c12 c13
    go_wp2_with fail
    refine HV.out.mono ?_
    rintro e w8 ⟨rfl, b8⟩
    have k8 := k5.trans (b8.mono k5.size)
    have E8 := Lib.hid (E5.out.below b8)
    have X8 := Lib.hid (X5.out.below b8)
    have R8 := Lib.hid (R5.out.below b8)
    clear b8 k5 E5 X5 R5 HV hl c0 c1 c2 c3 c4 c5 c6 c7 c8 c9 c10 c11 c12 c13
    have HSt : Hid (∀ w', Kept w8 w' → ((w'.cell? ⟨bx, 0, none⟩ = some (.string key) ∧ w'.cell? ⟨bx, 1, none⟩ = some (.int .i64 kind) ∧ w'.cell? ⟨bx, 2, none⟩ = some (.slice A4 auN auN) ∧ w'.cell? ⟨bx, 3, none⟩ = some (.slice A5 edN edN) ∧ w'.cell? ⟨bx, 4, none⟩ = some (.string ti) ∧ w'.cell? ⟨bx, 5, none⟩ = some (.string co) ∧ w'.cell? ⟨bx, 6, none⟩ = some (.string pu) ∧ w'.cell? ⟨bx, 7, none⟩ = some (.int .i64 y) ∧ w'.cell? ⟨bx, 8, none⟩ = some (.int .i64 m) ∧ w'.cell? ⟨bx, 9, none⟩ = some (.int .i64 d) ∧ w'.cell? ⟨bx, 10, none⟩ = some (.bool ci) ∧ w'.cell? ⟨bx, 11, none⟩ = some (.int .i64 vol) ∧ w'.cell? ⟨bx, 12, none⟩ = some (.string pa) ∧ w'.cell? ⟨bx, 13, none⟩ = some (.string cr)) ∧ (w'.cell? ⟨w.heap.size, 0, none⟩ = some (.string key) ∧ w'.cell? ⟨w.heap.size, 1, none⟩ = some (.int .i64 kind) ∧ w'.cell? ⟨w.heap.size, 2, none⟩ = some (.slice auA auN auc) ∧ w'.cell? ⟨w.heap.size, 3, none⟩ = some (.slice edA edN edc) ∧ w'.cell? ⟨w.heap.size, 4, none⟩ = some (.string ti) ∧ w'.cell? ⟨w.heap.size, 5, none⟩ = some (.string co) ∧ w'.cell? ⟨w.heap.size, 6, none⟩ = some (.string pu) ∧ w'.cell? ⟨w.heap.size, 7, none⟩ = some (.int .i64 y) ∧ w'.cell? ⟨w.heap.size, 8, none⟩ = some (.int .i64 m) ∧ w'.cell? ⟨w.heap.size, 9, none⟩ = some (.int .i64 d) ∧ w'.cell? ⟨w.heap.size, 10, none⟩ = some (.bool ci) ∧ w'.cell? ⟨w.heap.size, 11, none⟩ = some (.int .i64 vol) ∧ w'.cell? ⟨w.heap.size, 12, none⟩ = some (.string pa) ∧ w'.cell? ⟨w.heap.size, 13, none⟩ = some (.string cr)) ∧ Kept w8 w')) := Lib.hid (fun w' h => ⟨(X8.out.below h).2, (E8.out.below h).2, h⟩)
    have HK0 := Lib.hid (Kept.drew w8)
    go_wp2_with fail
    go_region_held3 (fun w' => ((w'.cell? ⟨bx, 0, none⟩ = some (.string key) ∧ w'.cell? ⟨bx, 1, none⟩ = some (.int .i64 kind) ∧ w'.cell? ⟨bx, 2, none⟩ = some (.slice A4 auN auN) ∧ w'.cell? ⟨bx, 3, none⟩ = some (.slice A5 edN edN) ∧ w'.cell? ⟨bx, 4, none⟩ = some (.string ti) ∧ w'.cell? ⟨bx, 5, none⟩ = some (.string co) ∧ w'.cell? ⟨bx, 6, none⟩ = some (.string pu) ∧ w'.cell? ⟨bx, 7, none⟩ = some (.int .i64 y) ∧ w'.cell? ⟨bx, 8, none⟩ = some (.int .i64 m) ∧ w'.cell? ⟨bx, 9, none⟩ = some (.int .i64 d) ∧ w'.cell? ⟨bx, 10, none⟩ = some (.bool ci) ∧ w'.cell? ⟨bx, 11, none⟩ = some (.int .i64 vol) ∧ w'.cell? ⟨bx, 12, none⟩ = some (.string pa) ∧ w'.cell? ⟨bx, 13, none⟩ = some (.string cr)) ∧ (w'.cell? ⟨w.heap.size, 0, none⟩ = some (.string key) ∧ w'.cell? ⟨w.heap.size, 1, none⟩ = some (.int .i64 kind) ∧ w'.cell? ⟨w.heap.size, 2, none⟩ = some (.slice auA auN auc) ∧ w'.cell? ⟨w.heap.size, 3, none⟩ = some (.slice edA edN edc) ∧ w'.cell? ⟨w.heap.size, 4, none⟩ = some (.string ti) ∧ w'.cell? ⟨w.heap.size, 5, none⟩ = some (.string co) ∧ w'.cell? ⟨w.heap.size, 6, none⟩ = some (.string pu) ∧ w'.cell? ⟨w.heap.size, 7, none⟩ = some (.int .i64 y) ∧ w'.cell? ⟨w.heap.size, 8, none⟩ = some (.int .i64 m) ∧ w'.cell? ⟨w.heap.size, 9, none⟩ = some (.int .i64 d) ∧ w'.cell? ⟨w.heap.size, 10, none⟩ = some (.bool ci) ∧ w'.cell? ⟨w.heap.size, 11, none⟩ = some (.int .i64 vol) ∧ w'.cell? ⟨w.heap.size, 12, none⟩ = some (.string pa) ∧ w'.cell? ⟨w.heap.size, 13, none⟩ = some (.string cr)) ∧ Kept w8 w'))
      (first | exact HSt.out _ HK0.out | exact HSt.out _ (by assumption))
      (first
        | (go_at_call 20; refine (eqEntry_same key kind A4 auN auN M4 A5 edN edN M5 ti co pu y m d ci vol pa cr A6 A7 auN edN M6 M7 _ (R8.out.below hk6) R6 (HK4.out.trans K6.symm) (HK5.out.trans K7.symm) ha he Hn4.out Hn5.out).mono ?_; rintro e w7 ⟨rfl, b7⟩; have hk7 : Kept w8 w7 := Kept.next hk6 b7)
        | (go_at_call 18; refine (toEntry_any key kind auA auN auc auL edA edN edc edL ti co pu y m d ci vol pa cr _ ((HR.out.below k8).below HK0.out) ha he HLa.out HLe.out).mono ?_; rintro e w6 ⟨A6, M6, A7, M7, rfl, R6, K6, K7, n6, n7, b6⟩; have hk6 : Kept w8 w6 := Kept.next HK0.out b6))
    go_wp2_with fail
    go_ret
    exact ⟨rfl, k8.trans (Below.mono hk7 k8.size)⟩
  · have ht : szE 1048576 (⟨key, kind, auA, auN, auc, auL, edA, edN, edc, edL, ti, co, pu, y, m, d, ci, vol, pa, cr⟩ : En) = -1 := by unfold szE; rw [if_neg hfit]
    rw [ht] at HS
    clear hr hl hfit ht
    go_enter Try.func5, Try.ntmps5
    go_wp2_with fail
    refine HS.out.mono ?_
    rintro e w1 ⟨rfl, b1⟩
    go_wp2_with fail
    go_ret
    exact ⟨rfl, HB.out.trans (b1.mono HB.out.size)⟩

set_option maxRecDepth 100000 in
set_option maxHeartbeats 2000000 in
theorem lifted (os : Os) (started : os.Started) (H : Type) (enc : TypeId × Value → H) :
    ReturnsInHanded {} Try.checked os 5 .any (Rows.fnExactIsValidEntrySpec.pre6 enc Try.prog Try.f5 Rows.fnExactIsValidEntryRow.domain false) (Rows.fnExactIsValidEntrySpec.post enc Try.prog Try.f5 false true false false) := by
  refine returnsInHanded_of_change (C := Try.checked) own started (by kernel_rfl) Try.func5
    (ChangeSpec.witness6 (enc := enc) (C := Try.checked) false ⟨#[], #[.agg #[.string ByteArray.empty, .int .i64 0, .slice none 0 0, .slice none 0 0, .string ByteArray.empty, .string ByteArray.empty, .string ByteArray.empty, .int .i64 0, .int .i64 0, .int .i64 0, .bool false, .int .i64 0, .string ByteArray.empty, .string ByteArray.empty]], []⟩ 8 (by kernel_rfl) (by kernel_rfl) (by kernel_rfl) (by kernel_rfl)) ?_
  intro W base args ds gs before hval0 hW hcnd _
  have hval : ∀ (j : Nat) t v, Try.f5.params[j]? = some t → args[j]? = some v → Value.okWide Try.prog W .any base t v := hval0
  have hW' := hW
  obtain ⟨p, q, hA0, hV, rfl, hfz, hnd⟩ := hW
  have hA : DataW.TrodAll enc Try.prog W 0 (fun _ => true) true Try.f5.params.toList args.toList ds p := hA0
  rw [Try.params5] at hA hval
  obtain ⟨v0, vs0, d0, ds0, p0, q0, hargs, rfl, rfl, h0, r0⟩ := trodAll_cons hA
  obtain ⟨rfl, rfl, rfl⟩ := trodAll_nil r0
  obtain rfl : args = #[v0] := by cases args; simp_all
  obtain ⟨rfl, rfl⟩ := trodVars_none hV
  have k0 := h0
  have lt0 : ∀ x ∈ p0, x.block < W.heap.size := by obtain ⟨m, hm⟩ := k0; exact DataW.trod_lt m _ _ _ hm
  obtain ⟨⟨key, kind, auA, auN, auc, auL, edA, edN, edc, edL, ti, co, pu, y, m, d, ci, vol, pa, cr⟩, rfl, hr0, hl0⟩ := open_entry (hval 0 41 v0 rfl rfl) h0
  clear hA0 hval0
  refine (walk key kind auA auN auc auL edA edN edc edL ti co pu y m d ci vol pa cr W hr0 hl0 ).mono fun e W' ⟨he, bel⟩ => ?_
  subst he
  exact ⟨_, rfl, _, _, _, [], _, [], hW', trodAll_mk1 (shut_bool Try.underlying4 _), (trodAll_cons_mk (Below.trod laidOut (by kernel_rfl) (of_decide_eq_true (by kernel_rfl)) k0 bel lt0) trodAll_mk0), rfl, bel.frame _, fun h => by cases h⟩

theorem over : Rows.fnExactIsValidEntryRow.holds Try.pinned (OpenSpec.ofChange Rows.fnExactIsValidEntrySpec) :=
  OpenClaim.holds_of_wide 5 Try.f5 rfl rfl rfl rfl rfl rfl rfl ⟨rfl, rfl, rfl, rfl, rfl⟩ rfl rfl rfl rfl rfl (by kernel_rfl) Try.func5 (by kernel_rfl)
    (of_decide_eq_true (by kernel_rfl)) (by unfold Func.isWrapper; first | (rw [if_pos (by decide +kernel)]; kernel_rfl) | (rw [if_neg (by decide +kernel)]; exact ⟨rfl, rfl⟩))
    (fun os started H enc _ => lifted os started H enc)

theorem proved : Rows.FnExactIsValidEntrySaid :=
  over
#print axioms proved
end Go.Proofs.Ytjdnkjobccnmlaa.fnExactIsValidEntry
