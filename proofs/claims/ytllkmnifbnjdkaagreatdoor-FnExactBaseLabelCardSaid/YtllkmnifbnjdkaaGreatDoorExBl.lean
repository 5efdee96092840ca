/-
  Proved: for every entry the law FnExactBaseLabel returns true: BaseLabel answers as its model and writes into no argument; the argument reads as before. The library's tables lie as the program's text and the pinned constants lay them (the card ties them). No further condition.
-/
import Derived.Test.YtllkmnifbnjdkaaGreatDoorRows
import Derived.Test.YtllkmnifbnjdkaaGreatDoorBl4
import Derived.Test.YtllkmnifbnjdkaaGreatDoorEn2
import Derived.Test.YtllkmnifbnjdkaaGreatDoorEn3
import Derived.Test.YtllkmnifbnjdkaaGreatDoorOpenE
import Derived.Test.YtllkmnifbnjdkaaGreatDoorLaid
import Derived.Deep.RegionHeld3
import Derived.Deep.DeepCutAuto
import Derived.WalkKit
import Derived.ProofKit
import Derived.OpenShut
import Derived.ShutString
import Derived.ChangeOld
import Derived.Below
import Derived.Lib.SmallJoins
import Derived.Test.YtllkmnifbnjdkaaGreatDoorCards
import Derived.Test.YtllkmnifbnjdkaaGreatDoorTie
import Derived.LaidMore
import Derived.Lay
import Derived.SevenTiedAt
import Derived.Stop.Joined
namespace Go.Proofs.YtllkmnifbnjdkaaGreatDoor.fnExactBaseLabel
open Go.ChangeShapes Go.WideShapes Go.ChangeAt Go.RowKit
open Go.ChangeMaps (open_string shut_string)
open Strs Help Name NGood OpenN Nms Jn Ens OpenE
open Laid (tab_of)
set_option linter.unusedVariables false
set_option linter.unusedSimpArgs false

set_option maxRecDepth 100000 in
set_option maxHeartbeats 32000000 in
theorem inner (key : ByteArray) (kind : Int) (auA : Option Addr) (auN auc : Nat) (auL : List Nm) (edA : Option Addr) (edN edc : Nat) (edL : List Nm) (ti : ByteArray) (co : ByteArray) (pu : ByteArray) (y : Int) (m : Int) (d : Int) (ci : Bool) (vol : Int) (pa : ByteArray) (cr : ByteArray) (w : World) (hr : (⟨key, kind, auA, auN, auc, auL, edA, edN, edc, edL, ti, co, pu, y, m, d, ci, vol, pa, cr⟩ : En).Rd w) (hl : (⟨key, kind, auA, auN, auc, auL, edA, edN, edc, edL, ti, co, pu, y, m, d, ci, vol, pa, cr⟩ : En).Lim) (ht : Num.Tab w) :
    Calls Tryz.prog 3 #[.agg #[.string key, .int .i64 kind, .slice auA auN auc, .slice edA edN edc, .string ti, .string co, .string pu, .int .i64 y, .int .i64 m, .int .i64 d, .bool ci, .int .i64 vol, .string pa, .string cr]] w fun e w' => e = .returned (.bool true) ∧ Below w.heap.size w w' := by
  have HB := Lib.hid ((Below.refl _ w).alloc (Nat.le_refl _) (.cells #[.string key, .int .i64 kind, .slice auA auN auc, .slice edA edN edc, .string ti, .string co, .string pu, .int .i64 y, .int .i64 m, .int .i64 d, .bool ci, .int .i64 vol, .string pa, .string cr] 26))
  have HE0 := Lib.hid (E14.new w (⟨key, kind, auA, auN, auc, auL, edA, edN, edc, edL, ti, co, pu, y, m, d, ci, vol, pa, cr⟩ : En) 26)
  have HR := Lib.hid hr
  have hw0 : w.heap.size < (w.alloc (.cells #[.string key, .int .i64 kind, .slice auA auN auc, .slice edA edN edc, .string ti, .string co, .string pu, .int .i64 y, .int .i64 m, .int .i64 d, .bool ci, .int .i64 vol, .string pa, .string cr] 26)).heap.size := by simp
  have HS := Lib.hid (szEntry_any key kind auA auN auc auL edA edN edc edL ti co pu y m d ci vol pa cr 1048576 _ (hr.below HB.out) hl (Nat.le_refl _))
  by_cases hfit : (⟨key, kind, auA, auN, auc, auL, edA, edN, edc, edL, ti, co, pu, y, m, d, ci, vol, pa, cr⟩ : En).sz ≤ 1048576
  · obtain ⟨t, ht'⟩ : ∃ t : Nat, szE 1048576 (⟨key, kind, auA, auN, auc, auL, edA, edN, edc, edL, ti, co, pu, y, m, d, ci, vol, pa, cr⟩ : En) = (t : Int) := ⟨1048576 - (⟨key, kind, auA, auN, auc, auL, edA, edN, edc, edL, ti, co, pu, y, m, d, ci, vol, pa, cr⟩ : En).sz, by unfold szE; rw [if_pos hfit]; omega⟩
    rw [ht'] at HS
    have hz' : key.size + (auN + szL auL) + (edN + szL edL) + ti.size + co.size + pu.size + pa.size + cr.size ≤ 1048576 := hfit
    have ha : auN ≤ 1048576 := by omega
    have he : edN ≤ 1048576 := by omega
    have lim : ∀ (K : List Nm) (C : Option Addr), RdN0 w C K → szL K ≤ 1048576 → ∀ x ∈ K, x.n ≤ 1048576 := fun K C h hz x hx => by
      have h1 := szL_mem hx
      obtain ⟨k, hk, rfl⟩ := List.getElem_of_mem hx
      have h2 := (h k _ (List.getElem?_eq_getElem hk)).1.2.2
      unfold Nm.sz at h1
      omega
    have HLa := Lib.hid (lim auL auA hr.1 (by omega))
    have HLe := Lib.hid (lim edL edA hr.2.2.1 (by omega))
    have HZ := Lib.hid hz'
    have HT := Lib.hid ht
    obtain ⟨t0, Ht0⟩ : ∃ t, Hid (Bl.btS (⟨key, kind, auA, auN, auc, auL, edA, edN, edc, edL, ti, co, pu, y, m, d, ci, vol, pa, cr⟩ : En) = t) := ⟨_, Lib.hid rfl⟩
    obtain ⟨r0, Hr0⟩ : ∃ r, Hid (Bl.btB (⟨key, kind, auA, auN, auc, auL, edA, edN, edc, edL, ti, co, pu, y, m, d, ci, vol, pa, cr⟩ : En) = r) := ⟨_, Lib.hid rfl⟩
    skip
    clear hr hl hfit ht' hz' lim ht
    go_enter Tryz.func3, Tryz.ntmps3
    go_wp2_with fail
    generalize w.alloc (.cells #[.string key, .int .i64 kind, .slice auA auN auc, .slice edA edN edc, .string ti, .string co, .string pu, .int .i64 y, .int .i64 m, .int .i64 d, .bool ci, .int .i64 vol, .string pa, .string cr] 26) = w0 at HB HE0 HS hw0 ⊢
    refine HS.out.mono ?_
    rintro e w1 ⟨rfl, k1⟩
    clear HS
    obtain ⟨hl, c0, c1, c2, c3, c4, c5, c6, c7, c8, c9, c10, c11, c12, c13⟩ := HE0.out.below k1
    dsimp only at c0 c1 c2 c3 c4 c5 c6 c7 c8 c9 c10 c11 c12 c13
    have bw0 := HB.out
    go_wp2_with fail
    refine (toEntry_any key kind auA auN auc auL edA edN edc edL ti co pu y m d ci vol pa cr _ (HR.out.below (bw0.trans (k1.mono bw0.size))) ha he HLa.out HLe.out).mono ?_
    rintro e w2 ⟨A2, M2, A3, M3, rfl, R2, K2, K3, n2, n3, b2⟩
    have k2 := k1.trans (b2.mono k1.size)
    have HV := Lib.hid (Bl.label_s key kind A2 auN auN M2 A3 edN edN M3 ti co pu y m d ci vol pa cr w2 R2 (by show key.size + (auN + szL M2) + (edN + szL M3) + ti.size + co.size + pu.size + pa.size + cr.size ≤ 1048576; rw [Bl.szL_kk K2, Bl.szL_kk K3]; exact HZ.out))
    rw [Bl.btS_kk (show (⟨key, kind, A2, auN, auN, M2, A3, edN, edN, M3, ti, co, pu, y, m, d, ci, vol, pa, cr⟩ : En).key4 = (⟨key, kind, auA, auN, auc, auL, edA, edN, edc, edL, ti, co, pu, y, m, d, ci, vol, pa, cr⟩ : En).key4 by unfold En.key4; dsimp only; rw [K2, K3]), Bl.btB_kk (show (⟨key, kind, A2, auN, auN, M2, A3, edN, edN, M3, ti, co, pu, y, m, d, ci, vol, pa, cr⟩ : En).key4 = (⟨key, kind, auA, auN, auc, auL, edA, edN, edc, edL, ti, co, pu, y, m, d, ci, vol, pa, cr⟩ : En).key4 by unfold En.key4; dsimp only; rw [K2, K3]), Ht0.out, Hr0.out] at HV
    clear b2 R2 K2 K3 n2 n3 k1 hl c0 c1 c2 c3 c4 c5 c6 c7 c8 c9 c10 c11 c12 c13
    go_wp2_with fail
    refine HV.out.mono ?_
    rintro e w3 ⟨rfl, b3⟩
    have k3 := k2.trans (b3.mono k2.size)
    clear b3 k2
    clear HV
    obtain ⟨hl, c0, c1, c2, c3, c4, c5, c6, c7, c8, c9, c10, c11, c12, c13⟩ := HE0.out.below k3
    dsimp only at c0 c1 c2 c3 c4 c5 c6 c7 c8 c9 c10 c11 c12 c13
    go_wp2_with fail
    refine (toEntry_far key kind auA auN auc auL edA edN edc edL ti co pu y m d ci vol pa cr _ (HR.out.below (bw0.trans (k3.mono bw0.size))) ha he HLa.out HLe.out).mono ?_
    rintro e w4 ⟨g4, M4, g5, M5, rfl, F4, F5, lg4, lg5, K4, K5, n4, n5, b4⟩
    have k4 := k3.trans (b4.mono k3.size)
    have hl4 : M4.length = auN := (len_of_key K4).trans HR.out.2.1
    have hl5 : M5.length = edN := (len_of_key K5).trans HR.out.2.2.2
    have B5 := (Below.refl _ w4).alloc (Nat.le_refl _) (.cells #[.string key, .int .i64 kind, .slice (some ⟨g4, 0, none⟩) auN auN, .slice (some ⟨g5, 0, none⟩) edN edN, .string ti, .string co, .string pu, .int .i64 y, .int .i64 m, .int .i64 d, .bool ci, .int .i64 vol, .string pa, .string cr] 33)
    have k5 := k4.trans (B5.mono k4.size)
    have X5 := Lib.hid (E14.new w4 (⟨key, kind, (some ⟨g4, 0, none⟩), auN, auN, M4, (some ⟨g5, 0, none⟩), edN, edN, M5, ti, co, pu, y, m, d, ci, vol, pa, cr⟩ : En) 33)
    have R5 : Hid ((⟨key, kind, (some ⟨g4, 0, none⟩), auN, auN, M4, (some ⟨g5, 0, none⟩), edN, edN, M5, ti, co, pu, y, m, d, ci, vol, pa, cr⟩ : En).Rd (w4.alloc (.cells #[.string key, .int .i64 kind, .slice (some ⟨g4, 0, none⟩) auN auN, .slice (some ⟨g5, 0, none⟩) edN edN, .string ti, .string co, .string pu, .int .i64 y, .int .i64 m, .int .i64 d, .bool ci, .int .i64 vol, .string pa, .string cr] 33))) := Lib.hid ⟨(F4.below B5).1, hl4, (F5.below B5).1, hl5⟩
    have HV := Lib.hid (Bl.label_i key kind (some ⟨g4, 0, none⟩) auN auN M4 (some ⟨g5, 0, none⟩) edN edN M5 ti co pu y m d ci vol pa cr _ R5.out (by show key.size + (auN + szL M4) + (edN + szL M5) + ti.size + co.size + pu.size + pa.size + cr.size ≤ 1048576; rw [Bl.szL_kk K4, Bl.szL_kk K5]; exact HZ.out) (HT.out.below (bw0.trans (k5.mono bw0.size))))
    rw [Bl.btS_kk (show (⟨key, kind, (some ⟨g4, 0, none⟩), auN, auN, M4, (some ⟨g5, 0, none⟩), edN, edN, M5, ti, co, pu, y, m, d, ci, vol, pa, cr⟩ : En).key4 = (⟨key, kind, auA, auN, auc, auL, edA, edN, edc, edL, ti, co, pu, y, m, d, ci, vol, pa, cr⟩ : En).key4 by unfold En.key4; dsimp only; rw [K4, K5]), Bl.btB_kk (show (⟨key, kind, (some ⟨g4, 0, none⟩), auN, auN, M4, (some ⟨g5, 0, none⟩), edN, edN, M5, ti, co, pu, y, m, d, ci, vol, pa, cr⟩ : En).key4 = (⟨key, kind, auA, auN, auc, auL, edA, edN, edc, edL, ti, co, pu, y, m, d, ci, vol, pa, cr⟩ : En).key4 by unfold En.key4; dsimp only; rw [K4, K5]), Ht0.out, Hr0.out] at HV
    have HK4 := Lib.hid K4
    have HK5 := Lib.hid K5
    have Hn4 := Lib.hid n4
    have Hn5 := Lib.hid n5
    have hb34 := b4.size
    have hb45 := B5.size
    clear b4 F4 F5 K4 K5 n4 n5 k4 B5 hl c0 c1 c2 c3 c4 c5 c6 c7 c8 c9 c10 c11 c12 c13
    go_upto_region 7 with fail
    generalize hW : w4.alloc _ = w5 at k5 X5 R5 hb45 HV ⊢
    clear hW
    generalize w4.heap.size = bx at *
    obtain ⟨hl, c0, c1, c2, c3, c4, c5, c6, c7, c8, c9, c10, c11, c12, c13⟩ := X5.out
    dsimp only at c0 c1 c2 c3 c4 c5 c6 c7 c8 c9 c10 c11 c12 c13
    go_wp2_with fail
    refine HV.out.mono ?_
    rintro e w8 ⟨rfl, k58⟩
    have k8 := k5.trans (k58.mono k5.size)
    clear HV hl c0 c1 c2 c3 c4 c5 c6 c7 c8 c9 c10 c11 c12 c13
    have HSt : Hid (∀ w', Kept w8 w' → ((w'.cell? ⟨bx, 0, none⟩ = some (.string key) ∧ w'.cell? ⟨bx, 1, none⟩ = some (.int .i64 kind) ∧ w'.cell? ⟨bx, 2, none⟩ = some (.slice (some ⟨g4, 0, none⟩) auN auN) ∧ w'.cell? ⟨bx, 3, none⟩ = some (.slice (some ⟨g5, 0, none⟩) edN edN) ∧ w'.cell? ⟨bx, 4, none⟩ = some (.string ti) ∧ w'.cell? ⟨bx, 5, none⟩ = some (.string co) ∧ w'.cell? ⟨bx, 6, none⟩ = some (.string pu) ∧ w'.cell? ⟨bx, 7, none⟩ = some (.int .i64 y) ∧ w'.cell? ⟨bx, 8, none⟩ = some (.int .i64 m) ∧ w'.cell? ⟨bx, 9, none⟩ = some (.int .i64 d) ∧ w'.cell? ⟨bx, 10, none⟩ = some (.bool ci) ∧ w'.cell? ⟨bx, 11, none⟩ = some (.int .i64 vol) ∧ w'.cell? ⟨bx, 12, none⟩ = some (.string pa) ∧ w'.cell? ⟨bx, 13, none⟩ = some (.string cr)) ∧ (w'.cell? ⟨w.heap.size, 0, none⟩ = some (.string key) ∧ w'.cell? ⟨w.heap.size, 1, none⟩ = some (.int .i64 kind) ∧ w'.cell? ⟨w.heap.size, 2, none⟩ = some (.slice auA auN auc) ∧ w'.cell? ⟨w.heap.size, 3, none⟩ = some (.slice edA edN edc) ∧ w'.cell? ⟨w.heap.size, 4, none⟩ = some (.string ti) ∧ w'.cell? ⟨w.heap.size, 5, none⟩ = some (.string co) ∧ w'.cell? ⟨w.heap.size, 6, none⟩ = some (.string pu) ∧ w'.cell? ⟨w.heap.size, 7, none⟩ = some (.int .i64 y) ∧ w'.cell? ⟨w.heap.size, 8, none⟩ = some (.int .i64 m) ∧ w'.cell? ⟨w.heap.size, 9, none⟩ = some (.int .i64 d) ∧ w'.cell? ⟨w.heap.size, 10, none⟩ = some (.bool ci) ∧ w'.cell? ⟨w.heap.size, 11, none⟩ = some (.int .i64 vol) ∧ w'.cell? ⟨w.heap.size, 12, none⟩ = some (.string pa) ∧ w'.cell? ⟨w.heap.size, 13, none⟩ = some (.string cr)) ∧ Kept w8 w')) := Lib.hid (fun w' h => ⟨((X5.out.below k58).below h).2, (HE0.out.below (k8.trans (h.mono k8.size))).2, h⟩)
    have HK0 := Lib.hid (Kept.drew w8)
    have HR8 := Lib.hid (HR.out.below (bw0.trans (k8.mono bw0.size)))
    have HX8 := Lib.hid (R5.out.below k58)
    go_wp2_with fail
    go_region_held3 (fun w' => ((w'.cell? ⟨bx, 0, none⟩ = some (.string key) ∧ w'.cell? ⟨bx, 1, none⟩ = some (.int .i64 kind) ∧ w'.cell? ⟨bx, 2, none⟩ = some (.slice (some ⟨g4, 0, none⟩) auN auN) ∧ w'.cell? ⟨bx, 3, none⟩ = some (.slice (some ⟨g5, 0, none⟩) edN edN) ∧ w'.cell? ⟨bx, 4, none⟩ = some (.string ti) ∧ w'.cell? ⟨bx, 5, none⟩ = some (.string co) ∧ w'.cell? ⟨bx, 6, none⟩ = some (.string pu) ∧ w'.cell? ⟨bx, 7, none⟩ = some (.int .i64 y) ∧ w'.cell? ⟨bx, 8, none⟩ = some (.int .i64 m) ∧ w'.cell? ⟨bx, 9, none⟩ = some (.int .i64 d) ∧ w'.cell? ⟨bx, 10, none⟩ = some (.bool ci) ∧ w'.cell? ⟨bx, 11, none⟩ = some (.int .i64 vol) ∧ w'.cell? ⟨bx, 12, none⟩ = some (.string pa) ∧ w'.cell? ⟨bx, 13, none⟩ = some (.string cr)) ∧ (w'.cell? ⟨w.heap.size, 0, none⟩ = some (.string key) ∧ w'.cell? ⟨w.heap.size, 1, none⟩ = some (.int .i64 kind) ∧ w'.cell? ⟨w.heap.size, 2, none⟩ = some (.slice auA auN auc) ∧ w'.cell? ⟨w.heap.size, 3, none⟩ = some (.slice edA edN edc) ∧ w'.cell? ⟨w.heap.size, 4, none⟩ = some (.string ti) ∧ w'.cell? ⟨w.heap.size, 5, none⟩ = some (.string co) ∧ w'.cell? ⟨w.heap.size, 6, none⟩ = some (.string pu) ∧ w'.cell? ⟨w.heap.size, 7, none⟩ = some (.int .i64 y) ∧ w'.cell? ⟨w.heap.size, 8, none⟩ = some (.int .i64 m) ∧ w'.cell? ⟨w.heap.size, 9, none⟩ = some (.int .i64 d) ∧ w'.cell? ⟨w.heap.size, 10, none⟩ = some (.bool ci) ∧ w'.cell? ⟨w.heap.size, 11, none⟩ = some (.int .i64 vol) ∧ w'.cell? ⟨w.heap.size, 12, none⟩ = some (.string pa) ∧ w'.cell? ⟨w.heap.size, 13, none⟩ = some (.string cr)) ∧ Kept w8 w'))
      (first | exact HSt.out _ HK0.out | exact HSt.out _ (by assumption))
      (first
        | (go_at_call 9; refine (eqEntry_same key kind (some ⟨g4, 0, none⟩) auN auN M4 (some ⟨g5, 0, none⟩) edN edN M5 ti co pu y m d ci vol pa cr A6 A7 auN edN M6 M7 _ (HX8.out.below hk6) R6 (HK4.out.trans K6.symm) (HK5.out.trans K7.symm) ha he Hn4.out Hn5.out).mono ?_; rintro e w7 ⟨rfl, b7⟩; have hk7 : Kept w8 w7 := Kept.next hk6 b7)
        | (go_at_call 7; refine (toEntry_any key kind auA auN auc auL edA edN edc edL ti co pu y m d ci vol pa cr _ (HR8.out.below HK0.out) ha he HLa.out HLe.out).mono ?_; rintro e w6 ⟨A6, M6, A7, M7, rfl, R6, K6, K7, n6, n7, b6⟩; have hk6 : Kept w8 w6 := Kept.next HK0.out b6))
    go_wp2_with fail
    go_ret
    exact ⟨rfl, bw0.trans (Below.mono (k8.trans (Below.mono hk7 k8.size)) bw0.size)⟩
  · have ht' : szE 1048576 (⟨key, kind, auA, auN, auc, auL, edA, edN, edc, edL, ti, co, pu, y, m, d, ci, vol, pa, cr⟩ : En) = -1 := by unfold szE; rw [if_neg hfit]
    rw [ht'] at HS
    clear hr hl hfit ht'
    go_enter Tryz.func3, Tryz.ntmps3
    go_wp2_with fail
    refine HS.out.mono ?_
    rintro e w1 ⟨rfl, b1⟩
    go_wp2_with fail
    go_ret
    exact ⟨rfl, HB.out.trans (b1.mono HB.out.size)⟩

theorem walk (key : ByteArray) (kind : Int) (auA : Option Addr) (auN auc : Nat) (auL : List Nm) (edA : Option Addr) (edN edc : Nat) (edL : List Nm) (ti : ByteArray) (co : ByteArray) (pu : ByteArray) (y : Int) (m : Int) (d : Int) (ci : Bool) (vol : Int) (pa : ByteArray) (cr : ByteArray) (w : World) (hr : (⟨key, kind, auA, auN, auc, auL, edA, edN, edc, edL, ti, co, pu, y, m, d, ci, vol, pa, cr⟩ : En).Rd w) (hl : (⟨key, kind, auA, auN, auc, auL, edA, edN, edc, edL, ti, co, pu, y, m, d, ci, vol, pa, cr⟩ : En).Lim) (ht : Num.Tab w) :
    Calls Tryz.prog 3 #[.agg #[.string key, .int .i64 kind, .slice auA auN auc, .slice edA edN edc, .string ti, .string co, .string pu, .int .i64 y, .int .i64 m, .int .i64 d, .bool ci, .int .i64 vol, .string pa, .string cr]] w fun e w' => e = .returned (.bool true) ∧ Below w.heap.size w w' := inner key kind auA auN auc auL edA edN edc edL ti co pu y m d ci vol pa cr w hr hl ht

set_option maxRecDepth 100000 in
theorem lifted (os : Os) (started : os.Started) (H : Type) (enc : TypeId × Value → H) :
    ReturnsInHanded {} Tryz.checked os 3 .any (fun w args => (Rows.fnExactBaseLabelSpec.pre enc Tryz.prog Tryz.f3 Rows.fnExactBaseLabelRow.domain false w args ∧ laidMetH Tryz.prog Rows.fnExactBaseLabelRow.laid w) ∧ sizedMet enc Tryz.prog Tryz.f3 (OpenSpec.ofChange Rows.fnExactBaseLabelSpec) false w args)
      (Rows.fnExactBaseLabelSpec.post enc Tryz.prog Tryz.f3 false true false false) := by
  refine returnsInHanded_of_change_and (C := Tryz.checked) (X := fun w _ => laidMetH Tryz.prog Rows.fnExactBaseLabelRow.laid w) (fun _ _ _ hh h => h.of_heap hh) own started (by kernel_rfl) Tryz.func3
    (ChangeSpec.witness_shaped (enc := enc) (C := Tryz.checked) (os := os) (X := fun w _ => laidMetH Tryz.prog Rows.fnExactBaseLabelRow.laid w) false (World.laidAll Tryz.prog os Rows.fnExactBaseLabelRow.laid) #[.agg #[.string ByteArray.empty, .int .i64 0, .slice none 0 0, .slice none 0 0, .string ByteArray.empty, .string ByteArray.empty, .string ByteArray.empty, .int .i64 0, .int .i64 0, .int .i64 0, .bool false, .int .i64 0, .string ByteArray.empty, .string ByteArray.empty]] 8 (World.laidAll_os _ _ _)
      (World.shaped_of_ZipB (by kernel_rfl) (by kernel_rfl)) (by kernel_rfl) (by kernel_rfl) (by kernel_rfl)
      (by rw [MakeChecks.laidMetH_plain _ _ _ (by kernel_rfl)]; exact laidMet_laidAll _ (by kernel_rfl) (by kernel_rfl))) ?_
  intro W base args ds gs before hval0 hW hcnd _ hL _
  rw [MakeChecks.laidMetH_plain _ _ _ (by kernel_rfl)] at hL
  have hval : ∀ (j : Nat) t v, Tryz.f3.params[j]? = some t → args[j]? = some v → Value.okWide Tryz.prog W .any base t v := hval0
  have hW' := hW
  obtain ⟨p, q, hA0, hV, rfl, hfz, hnd⟩ := hW
  have hA : DataW.TrodAll enc Tryz.prog W 0 (fun _ => true) true Tryz.f3.params.toList args.toList ds p := hA0
  rw [Tryz.params3] at hA hval
  obtain ⟨v0, vs0, d0, ds0, p0, q0, hargs, rfl, rfl, h0, r0⟩ := trodAll_cons hA
  obtain ⟨rfl, rfl, rfl⟩ := trodAll_nil r0
  obtain rfl : args = #[v0] := by cases args; simp_all
  obtain ⟨rfl, rfl⟩ := trodVars_none hV
  have k0 := h0
  have lt0 : ∀ x ∈ p0, x.block < W.heap.size := by obtain ⟨m, hm⟩ := k0; exact DataW.trod_lt m _ _ _ hm
  obtain ⟨⟨key, kind, auA, auN, auc, auL, edA, edN, edc, edL, ti, co, pu, y, m, d, ci, vol, pa, cr⟩, rfl, hr0, hl0⟩ := open_entry (hval 0 26 v0 rfl rfl) h0
  clear hA0 hval0
  refine (walk key kind auA auN auc auL edA edN edc edL ti co pu y m d ci vol pa cr W hr0 hl0 (tab_of hL)).mono fun e W' ⟨he, bel⟩ => ?_
  subst he
  exact ⟨_, rfl, _, _, _, [], _, [], hW', trodAll_mk1 (shut_bool Tryz.underlying4 _), (trodAll_cons_mk (Below.trod laidOut (by kernel_rfl) (of_decide_eq_true (by kernel_rfl)) k0 bel lt0) trodAll_mk0), rfl, bel.frame _, fun h => by cases h⟩

theorem closed : joinedFacts Tryz.pinned.checked.prog 3 Tryz.f3 Rows.fnExactBaseLabelSpec Rows.fnExactBaseLabelRow = true := by kernel_rfl
theorem over : Rows.fnExactBaseLabelRow.holds Tryz.pinned (OpenSpec.ofChange Rows.fnExactBaseLabelSpec) :=
  OpenClaim.holds_of_wide 3 Tryz.f3 rfl rfl rfl rfl rfl rfl rfl ⟨rfl, rfl, rfl, rfl, rfl⟩ rfl rfl rfl rfl rfl (by kernel_rfl) Tryz.func3 closed
    (of_decide_eq_true (by kernel_rfl)) (by unfold Func.isWrapper; first | (rw [if_pos (by decide +kernel)]; kernel_rfl) | (rw [if_neg (by decide +kernel)]; exact ⟨rfl, rfl⟩))
    (fun os started H enc _ => lifted os started H enc)

theorem plain (f : FuncId) (fn : Func) (hf : Tryz.pinned.checked.prog.funcNamed "loop.example/g00896/laws.FnExactBaseLabel" = some f) (hfn : Tryz.pinned.checked.prog.funcs[f]? = some fn) :
    false = Tryz.pinned.checked.prog.looks [] ∧ ∀ (j : Nat) t, fn.params[j]? = some t → Tryz.pinned.checked.prog.wantsStandIn t = false := by
  obtain rfl : f = 3 := Option.some.inj ((show Tryz.prog.funcNamed "loop.example/g00896/laws.FnExactBaseLabel" = some 3 by kernel_rfl).symm.trans hf) |>.symm
  obtain rfl : fn = Tryz.f3 := (Option.some.inj (Tryz.func3.symm.trans hfn)).symm
  refine ⟨by kernel_rfl, fun j t ht => ?_⟩
  rw [Tryz.params3] at ht
  obtain rfl : t = 26 := by simpa using Array.mem_of_getElem? ht
  exact (show Tryz.prog.wantsStandIn 26 = false by kernel_rfl)

theorem card : Rows.FnExactBaseLabelCardSaid :=
  Claim7.holds_tied_plain_at .later [] _ _ _ _ over (fun _ h => by cases h) (by kernel_rfl) (fun _ h => by cases h) fnExactBaseLabel_row_tie rfl ⟨rfl, rfl⟩ (by kernel_rfl) rfl plain (by kernel_rfl)
#print axioms card
end Go.Proofs.YtllkmnifbnjdkaaGreatDoor.fnExactBaseLabel
