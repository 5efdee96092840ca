/-
  Contracts of the model's l4Missing and MissingFields.
-/
import Derived.Test.YthndeflimmlcaaaGreatDoorMsf
import Derived.Deep.RegionHeld3
namespace Go.Proofs.YthndeflimmlcaaaGreatDoor.Fld
open Go.RowKit Pl Strs Help Name Stands SplitPl NmPl Word Part NGood Forms Nms Jn Kt Ens Aps
open Num (Tab Tab.below)
set_option linter.unusedSimpArgs false
set_option linter.unusedVariables false

theorem row_le {w : World} {b b' : Nat} {e : TypeId} {size : Nat} {v : Value} {n : Nat} {xs : List Value} (h : b' ≤ b) (ho : w.ownsRow b e size v n xs) : w.ownsRow b' e size v n xs := by
  refine ⟨ho.1, ?_⟩
  rcases ho.2 with h' | ⟨g, cap, cur, e1, e2, e3⟩
  · exact .inl h'
  · exact .inr ⟨g, cap, cur, e1, Nat.le_trans h e2, e3⟩
set_option maxRecDepth 100000 in
set_option maxHeartbeats 16000000 in
theorem l4Missing_any (key : ByteArray) (kind : Int) (auA : Option Addr) (auN auc : Nat) (auL : List Nm) (edA : Option Addr) (edN edc : Nat) (edL : List Nm) (ti : ByteArray) (co : ByteArray) (pu : ByteArray) (y : Int) (m : Int) (d : Int) (ci : Bool) (vol : Int) (pa : ByteArray) (cr : ByteArray) (w : World) (hr : (⟨key, kind, auA, auN, auc, auL, edA, edN, edc, edL, ti, co, pu, y, m, d, ci, vol, pa, cr⟩ : En).Rd w) (hok : okE (⟨key, kind, auA, auN, auc, auL, edA, edN, edc, edL, ti, co, pu, y, m, d, ci, vol, pa, cr⟩ : En) = true) :
    Calls Tryz.prog 55 #[.agg #[.string key, .int .i64 kind, .slice auA auN auc, .slice edA edN edc, .string ti, .string co, .string pu, .int .i64 y, .int .i64 m, .int .i64 d, .bool ci, .int .i64 vol, .string pa, .string cr]] w fun e w' => ∃ v, e = .returned v ∧ w'.ownsRow w.heap.size 9 1 v ((need kind).filter (misB (⟨key, kind, auA, auN, auc, auL, edA, edN, edc, edL, ti, co, pu, y, m, d, ci, vol, pa, cr⟩ : En))).length (((need kind).filter (misB (⟨key, kind, auA, auN, auc, auL, edA, edN, edc, edL, ti, co, pu, y, m, d, ci, vol, pa, cr⟩ : En))).map Value.string) ∧ Below w.heap.size w w' := by
  have HB := Lib.hid ((Below.refl _ w).alloc (Nat.le_refl _) (.cells #[.string key, .int .i64 kind, .slice auA auN auc, .slice edA edN edc, .string ti, .string co, .string pu, .int .i64 y, .int .i64 m, .int .i64 d, .bool ci, .int .i64 vol, .string pa, .string cr] 34))
  have HX := Lib.hid (E14.new w (⟨key, kind, auA, auN, auc, auL, edA, edN, edc, edL, ti, co, pu, y, m, d, ci, vol, pa, cr⟩ : En) 34)
  have HW := Lib.hid (fun f w' (hk : Below w.heap.size w w') => l4Field_any key kind auA auN auc auL edA edN edc edL ti co pu y m d ci vol pa cr f w' (hr.below hk) hok)
  have HRq := Lib.hid (fun w' => l4Needed kind w')
  have HLn := Lib.hid (need_len kind)
  clear hr hok
  obtain ⟨ws, HWs⟩ : ∃ ws, Hid (need kind = ws) := ⟨_, Lib.hid rfl⟩
  rw [HWs.out] at HRq HLn ⊢
  clear HWs
  obtain ⟨i0, hi, hz0, hz1, hz2⟩ := info_parts Split.infoStr
  go_enter Tryz.func55, Tryz.ntmps55
  go_upto_region 2 with fail
  generalize hw0 : w.alloc (.cells #[.string key, .int .i64 kind, .slice auA auN auc, .slice edA edN edc, .string ti, .string co, .string pu, .int .i64 y, .int .i64 m, .int .i64 d, .bool ci, .int .i64 vol, .string pa, .string cr] 34) = w0 at HB HX ⊢
  have hz0' : w0.heap.size = w.heap.size + 1 := by rw [← hw0]; simp
  clear hw0
  have HX1 := Lib.hid (HX.out.below ((Below.refl _ w0).alloc (Nat.le_refl _) (.cells #[] 9)))
  have HO1 := Lib.hid (World.ownsRow_lit (base := w.heap.size) (e := 9) (size := 1) w0 #[] 0 (HB.out.size) (Nat.zero_le _) rfl)
  have k2 := Lib.hid (HB.out.trans ((Below.refl _ w0).alloc HB.out.size (.cells #[] 9)))
  generalize hwa : w0.alloc (.cells #[] 9) = wa at k2 HX1 HO1 ⊢
  have hwa' : w.heap.size + 1 < wa.heap.size := by rw [← hwa]; simp; omega
  have hbw : w.heap.size < w.heap.size + 1 := Nat.lt_succ_self _
  clear hwa
  rw [hz0'] at HO1
  obtain ⟨hl, c0, c1, c2, c3, c4, c5, c6, c7, c8, c9, c10, c11, c12, c13⟩ := HX1.out
  dsimp only at c0 c1 c2 c3 c4 c5 c6 c7 c8 c9 c10 c11 c12 c13
  go_wp2_with fail
  refine (HRq.out _).mono ?_
  rintro e w2 ⟨g, rfl, hrd, hga, hg, b2⟩
  have kk2 := Lib.hid (k2.out.trans (b2.mono k2.out.size))
  have HX2 := Lib.hid (HX1.out.below b2)
  have HO2 := Lib.hid (own_kept HO1.out b2)
  have HRd := Lib.hid hrd
  have h12 : w.heap.size + 1 < w2.heap.size := Nat.lt_of_lt_of_le hwa' b2.size
  clear hz0'
  clear hrd HX HX1 HO1 k2 b2 hl c0 c1 c2 c3 c4 c5 c6 c7 c8 c9 c10 c11 c12 c13
  have h5 := HLn.out
  go_wp2_with fail
  go_loopw [3, 5] (fun v i wr => ∃ k : Nat, k ≤ ws.length ∧ i = .int .i64 k ∧ Hid (wr.ownsRow w.heap.size 9 1 v ((ws.take k).filter (misB (⟨key, kind, auA, auN, auc, auL, edA, edN, edc, edL, ti, co, pu, y, m, d, ci, vol, pa, cr⟩ : En))).length (((ws.take k).filter (misB (⟨key, kind, auA, auN, auc, auL, edA, edN, edc, edL, ti, co, pu, y, m, d, ci, vol, pa, cr⟩ : En))).map Value.string)) ∧ Hid (Rw w2 (some (w.heap.size + 1)) wr v)) (fun _ i _ => ws.length - (intOf i).toNat)
  case atStart => exact ⟨0, Nat.zero_le _, rfl, Lib.hid HO2.out, Lib.hid (Rw.start w2 (.slice (some ⟨w.heap.size + 1, 0, none⟩) 0 0))⟩
  case round =>
    obtain ⟨k, hk, rfl, hown, hrw⟩ := hrel
    have hb := Lib.hid (kk2.out.trans (hrw.out.toBelow (B := w.heap.size) kk2.out.size (fun k' e => by cases e; exact Nat.le_of_lt hbw)))
    by_cases hlt : k < ws.length
    · have hx? := List.getElem?_eq_getElem hlt
      have HT := Lib.hid (filter_take (misB (⟨key, kind, auA, auN, auc, auL, edA, edN, edc, edL, ti, co, pu, y, m, d, ci, vol, pa, cr⟩ : En)) hx?)
      have hgr : wr.heap[g]? = w2.heap[g]? := hrw.out.block hg (fun e => by have e' : w.heap.size + 1 = g := Option.some.inj e; omega)
      obtain ⟨g', o', e0, hc⟩ := (HRd.out.of (w' := wr) (fun _ a ha => by cases ha; exact hgr)) k _ hx?
      cases e0
      rw [Nat.zero_add] at hc
      have HTl : ((ws.take k).filter (misB (⟨key, kind, auA, auN, auc, auL, edA, edN, edc, edL, ti, co, pu, y, m, d, ci, vol, pa, cr⟩ : En))).length ≤ 5 := Nat.le_trans (List.length_filter_le _ _) (by rw [List.length_take]; have := HLn.out; omega)
      have hgw : g < wr.heap.size := Nat.lt_of_lt_of_le hg hrw.out.gr.size
      clear hx? hgr
      generalize ws[k] = f at *
      generalize (ws.take k).filter (misB (⟨key, kind, auA, auN, auc, auL, edA, edN, edc, edL, ti, co, pu, y, m, d, ci, vol, pa, cr⟩ : En)) = fs at *
      have HXr := Lib.hid (HX2.out.blk (w' := wr) (hrw.out.block HX2.out.1 (fun e => by have e' : w.heap.size + 1 = w.heap.size := Option.some.inj e; omega)))
      have HM : Hid (misB (⟨key, kind, auA, auN, auc, auL, edA, edN, edc, edL, ti, co, pu, y, m, d, ci, vol, pa, cr⟩ : En) f = (((fldS (⟨key, kind, auA, auN, auc, auL, edA, edN, edc, edL, ti, co, pu, y, m, d, ci, vol, pa, cr⟩ : En) f).toList == []) && (!(f.toList == [97, 117, 116, 104, 111, 114, 115]) || (!(kind == 1) || (edN == 0))))) := Lib.hid rfl
      have HK0 := Lib.hid (Kept.drew wr)
      have HF := Lib.hid (fun W (h : Kept wr W) => HW.out f W (hb.out.trans (Below.mono h hb.out.size)))
      obtain ⟨yy, HY⟩ : ∃ t, Hid (fldS (⟨key, kind, auA, auN, auc, auL, edA, edN, edc, edL, ti, co, pu, y, m, d, ci, vol, pa, cr⟩ : En) f = t) := ⟨_, Lib.hid rfl⟩
      obtain ⟨rr, HR2⟩ : ∃ t, Hid (isFld f = t) := ⟨_, Lib.hid rfl⟩
      rw [HY.out, HR2.out] at HF
      rw [HY.out] at HM
      have hcell := Lib.hid hc
      clear hc
      have HSt : Hid (∀ W, Kept wr W → ((W.cell? ⟨w.heap.size, 0, none⟩ = some (.string key) ∧ W.cell? ⟨w.heap.size, 1, none⟩ = some (.int .i64 kind) ∧ W.cell? ⟨w.heap.size, 2, none⟩ = some (.slice auA auN auc) ∧ W.cell? ⟨w.heap.size, 3, none⟩ = some (.slice edA edN edc) ∧ W.cell? ⟨w.heap.size, 4, none⟩ = some (.string ti) ∧ W.cell? ⟨w.heap.size, 5, none⟩ = some (.string co) ∧ W.cell? ⟨w.heap.size, 6, none⟩ = some (.string pu) ∧ W.cell? ⟨w.heap.size, 7, none⟩ = some (.int .i64 y) ∧ W.cell? ⟨w.heap.size, 8, none⟩ = some (.int .i64 m) ∧ W.cell? ⟨w.heap.size, 9, none⟩ = some (.int .i64 d) ∧ W.cell? ⟨w.heap.size, 10, none⟩ = some (.bool ci) ∧ W.cell? ⟨w.heap.size, 11, none⟩ = some (.int .i64 vol) ∧ W.cell? ⟨w.heap.size, 12, none⟩ = some (.string pa) ∧ W.cell? ⟨w.heap.size, 13, none⟩ = some (.string cr)) ∧ W.cell? ⟨g, k, none⟩ = some (.string f) ∧ Kept wr W)) := Lib.hid (fun W h => ⟨(HXr.out.below h).2, (Below.cell (p := ⟨g, k, none⟩) h hgw).trans hcell.out, h⟩)
      go_wp2_with fail
      go_region_held3 (fun W => ((W.cell? ⟨w.heap.size, 0, none⟩ = some (.string key) ∧ W.cell? ⟨w.heap.size, 1, none⟩ = some (.int .i64 kind) ∧ W.cell? ⟨w.heap.size, 2, none⟩ = some (.slice auA auN auc) ∧ W.cell? ⟨w.heap.size, 3, none⟩ = some (.slice edA edN edc) ∧ W.cell? ⟨w.heap.size, 4, none⟩ = some (.string ti) ∧ W.cell? ⟨w.heap.size, 5, none⟩ = some (.string co) ∧ W.cell? ⟨w.heap.size, 6, none⟩ = some (.string pu) ∧ W.cell? ⟨w.heap.size, 7, none⟩ = some (.int .i64 y) ∧ W.cell? ⟨w.heap.size, 8, none⟩ = some (.int .i64 m) ∧ W.cell? ⟨w.heap.size, 9, none⟩ = some (.int .i64 d) ∧ W.cell? ⟨w.heap.size, 10, none⟩ = some (.bool ci) ∧ W.cell? ⟨w.heap.size, 11, none⟩ = some (.int .i64 vol) ∧ W.cell? ⟨w.heap.size, 12, none⟩ = some (.string pa) ∧ W.cell? ⟨w.heap.size, 13, none⟩ = some (.string cr)) ∧ W.cell? ⟨g, k, none⟩ = some (.string f) ∧ Kept wr W))
        (first | exact HSt.out _ HK0.out | exact HSt.out _ (by assumption))
        ((go_at_call 79; refine (HF.out _ HK0.out).mono ?_; rintro e w6 ⟨rfl, b6'⟩; have b6 : Kept wr w6 := Kept.next HK0.out b6'))
      obtain ⟨hl, c0, c1, c2, c3, c4, c5, c6, c7, c8, c9, c10, c11, c12, c13⟩ := HXr.out.below b6
      dsimp only at c0 c1 c2 c3 c4 c5 c6 c7 c8 c9 c10 c11 c12 c13
      have hc := (Below.cell (p := ⟨g, k, none⟩) b6 hgw).trans hcell.out
      clear HSt HXr hcell
      cases hp : (yy.toList == []) with
      | false =>
        have HT2 : Hid ((ws.take (k + 1)).filter (misB (⟨key, kind, auA, auN, auc, auL, edA, edN, edc, edL, ti, co, pu, y, m, d, ci, vol, pa, cr⟩ : En)) = fs) := Lib.hid (by rw [HT.out, HM.out, hp]; simp)
        clear HT HM
        have own3 := own_kept hown.out b6
        have rw3 := Lib.hid (hrw.out.below b6)
        clear b6 hown hrw HF
        go_wp2_with fail
        go_roundw
        case rel => exact ⟨k + 1, by omega, by go_num, by rw [HT2.out]; exact own3, rw3⟩
        case measure => simp [intOf]; omega
      | true =>
        cases ha : (f.toList == [97, 117, 116, 104, 111, 114, 115]) with
        | false =>
          have ha' : (f.toList != [97, 117, 116, 104, 111, 114, 115]) = true := by simp [bne, ha]
          have HT2 : Hid ((ws.take (k + 1)).filter (misB (⟨key, kind, auA, auN, auc, auL, edA, edN, edc, edL, ti, co, pu, y, m, d, ci, vol, pa, cr⟩ : En)) = fs ++ [f]) := Lib.hid (by rw [HT.out, HM.out, hp, ha]; rfl)
          clear HT HM
          have own3 := own_kept hown.out b6
          have rw3 := Lib.hid (hrw.out.below b6)
          have hs3 : w.heap.size ≤ w6.heap.size := Nat.le_trans hb.out.size b6.size
          clear b6 hown hrw HF
          go_wp2_with (first
            | (at_builtin; refine wpList_append_own_at _ rfl _ _ 28 rfl w.heap.size 9 i0 (.string ByteArray.empty) 1 16 Tryz.underlying28 hi hz0 hz1 hz2 rfl (by decide) _ _ _ rfl (own3.alloc _) ⟨w6.heap.size, 0, none⟩ 1 1 [.string f] rfl rfl (cell_one_new _ _ _) (by simp [Value.oneCell']) (by unfold maxLen; omega) (by omega) (by simp; omega) ?_; intro v' w4 hown' hgrow _ hat)
            | go_in)
          go_roundw
          case rel =>
            refine ⟨k + 1, by omega, by go_num, ?_, Lib.hid ((rw3.out.below ((Below.refl _ w6).alloc (Nat.le_refl _) _)).appended hgrow hat)⟩
            rw [HT2.out]
            refine Lib.hid ?_
            simpa using hown'
          case measure => simp [intOf]; omega
        | true =>
          have ha' : (f.toList != [97, 117, 116, 104, 111, 114, 115]) = false := by simp [bne, ha]
          by_cases hk1 : kind = 1
          · have hkb : (kind == 1) = true := by simp [hk1]
            have hkc : (kind != 1) = false := by simp [hk1]
            by_cases hd : edN = 0
            · have hdb : (edN == 0) = true := by simp [hd]
              have hdc : ((edN : Int) == 0) = true := by simp [hd]
              have HQ := Lib.hid (And.intro hk1 hd)
              clear hk1 hd
              have HT2 : Hid ((ws.take (k + 1)).filter (misB (⟨key, kind, auA, auN, auc, auL, edA, edN, edc, edL, ti, co, pu, y, m, d, ci, vol, pa, cr⟩ : En)) = fs ++ [f]) := Lib.hid (by rw [HT.out, HM.out, hp, ha, hkb, hdb]; rfl)
              clear HT HM
              have own3 := own_kept hown.out b6
              have rw3 := Lib.hid (hrw.out.below b6)
              have hs3 : w.heap.size ≤ w6.heap.size := Nat.le_trans hb.out.size b6.size
              clear b6 hown hrw HF
              go_wp2_with (first
                | (at_builtin; refine wpList_append_own_at _ rfl _ _ 28 rfl w.heap.size 9 i0 (.string ByteArray.empty) 1 16 Tryz.underlying28 hi hz0 hz1 hz2 rfl (by decide) _ _ _ rfl (own3.alloc _) ⟨w6.heap.size, 0, none⟩ 1 1 [.string f] rfl rfl (cell_one_new _ _ _) (by simp [Value.oneCell']) (by unfold maxLen; omega) (by omega) (by simp; omega) ?_; intro v' w4 hown' hgrow _ hat)
                | go_in)
              go_roundw
              case rel =>
                refine ⟨k + 1, by omega, by go_num, ?_, Lib.hid ((rw3.out.below ((Below.refl _ w6).alloc (Nat.le_refl _) _)).appended hgrow hat)⟩
                rw [HT2.out]
                refine Lib.hid ?_
                simpa using hown'
              case measure => simp [intOf]; omega
            · have hdb : (edN == 0) = false := by simp [hd]
              have hdc : ((edN : Int) == 0) = false := by simp; omega
              have HQ := Lib.hid (And.intro hk1 hd)
              clear hk1 hd
              have HT2 : Hid ((ws.take (k + 1)).filter (misB (⟨key, kind, auA, auN, auc, auL, edA, edN, edc, edL, ti, co, pu, y, m, d, ci, vol, pa, cr⟩ : En)) = fs) := Lib.hid (by rw [HT.out, HM.out, hp, ha, hkb, hdb]; simp)
              clear HT HM
              have own3 := own_kept hown.out b6
              have rw3 := Lib.hid (hrw.out.below b6)
              clear b6 hown hrw HF
              go_wp2_with fail
              go_roundw
              case rel => exact ⟨k + 1, by omega, by go_num, by rw [HT2.out]; exact own3, rw3⟩
              case measure => simp [intOf]; omega
          · have hkb : (kind == 1) = false := by simp [hk1]
            have hkc : (kind != 1) = true := by simp [hk1]
            have HQ := Lib.hid hk1
            clear hk1
            have HT2 : Hid ((ws.take (k + 1)).filter (misB (⟨key, kind, auA, auN, auc, auL, edA, edN, edc, edL, ti, co, pu, y, m, d, ci, vol, pa, cr⟩ : En)) = fs ++ [f]) := Lib.hid (by rw [HT.out, HM.out, hp, ha, hkb]; rfl)
            clear HT HM
            have own3 := own_kept hown.out b6
            have rw3 := Lib.hid (hrw.out.below b6)
            have hs3 : w.heap.size ≤ w6.heap.size := Nat.le_trans hb.out.size b6.size
            clear b6 hown hrw HF
            go_wp2_with (first
              | (at_builtin; refine wpList_append_own_at _ rfl _ _ 28 rfl w.heap.size 9 i0 (.string ByteArray.empty) 1 16 Tryz.underlying28 hi hz0 hz1 hz2 rfl (by decide) _ _ _ rfl (own3.alloc _) ⟨w6.heap.size, 0, none⟩ 1 1 [.string f] rfl rfl (cell_one_new _ _ _) (by simp [Value.oneCell']) (by unfold maxLen; omega) (by omega) (by simp; omega) ?_; intro v' w4 hown' hgrow _ hat)
              | go_in)
            go_roundw
            case rel =>
              refine ⟨k + 1, by omega, by go_num, ?_, Lib.hid ((rw3.out.below ((Below.refl _ w6).alloc (Nat.le_refl _) _)).appended hgrow hat)⟩
              rw [HT2.out]
              refine Lib.hid ?_
              simpa using hown'
            case measure => simp [intOf]; omega
    · obtain rfl : k = ws.length := by omega
      rw [List.take_length] at hown
      go_wp2_with fail
      go_ret
      exact ⟨_, rfl, hown.out, hb.out⟩

set_option maxRecDepth 100000 in
set_option maxHeartbeats 4000000 in
theorem sMissing (key : ByteArray) (kind : Int) (auA : Option Addr) (auN auc : Nat) (auL : List Nm) (edA : Option Addr) (edN edc : Nat) (edL : List Nm) (ti : ByteArray) (co : ByteArray) (pu : ByteArray) (y : Int) (m : Int) (d : Int) (ci : Bool) (vol : Int) (pa : ByteArray) (cr : ByteArray) (w : World) (hr : (⟨key, kind, auA, auN, auc, auL, edA, edN, edc, edL, ti, co, pu, y, m, d, ci, vol, pa, cr⟩ : En).Rd w) (hz : (⟨key, kind, auA, auN, auc, auL, edA, edN, edc, edL, ti, co, pu, y, m, d, ci, vol, pa, cr⟩ : En).sz ≤ 1048576) :
    Calls Tryz.prog 11 #[.agg #[.string key, .int .i64 kind, .slice auA auN auc, .slice edA edN edc, .string ti, .string co, .string pu, .int .i64 y, .int .i64 m, .int .i64 d, .bool ci, .int .i64 vol, .string pa, .string cr]] w fun e w' => ∃ v, e = .returned (.tuple #[v, .bool (okE (⟨key, kind, auA, auN, auc, auL, edA, edN, edc, edL, ti, co, pu, y, m, d, ci, vol, pa, cr⟩ : En))]) ∧ w'.ownsRow w.heap.size 9 1 v (msL (⟨key, kind, auA, auN, auc, auL, edA, edN, edc, edL, ti, co, pu, y, m, d, ci, vol, pa, cr⟩ : En)).length ((msL (⟨key, kind, auA, auN, auc, auL, edA, edN, edc, edL, ti, co, pu, y, m, d, ci, vol, pa, cr⟩ : En)).map Value.string) ∧ Below w.heap.size w w' := by
  have HB := Lib.hid ((Below.refl _ w).alloc (Nat.le_refl _) (.cells #[.string key, .int .i64 kind, .slice auA auN auc, .slice edA edN edc, .string ti, .string co, .string pu, .int .i64 y, .int .i64 m, .int .i64 d, .bool ci, .int .i64 vol, .string pa, .string cr] 34))
  have HX := Lib.hid (E14.new w (⟨key, kind, auA, auN, auc, auL, edA, edN, edc, edL, ti, co, pu, y, m, d, ci, vol, pa, cr⟩ : En) 34)
  have HV := Lib.hid (l4Entry_any key kind auA auN auc auL edA edN edc edL ti co pu y m d ci vol pa cr _ (hr.below HB.out) hz)
  cases hok : okE (⟨key, kind, auA, auN, auc, auL, edA, edN, edc, edL, ti, co, pu, y, m, d, ci, vol, pa, cr⟩ : En) with
  | false =>
    rw [hok] at HV
    have HF : Hid (msL (⟨key, kind, auA, auN, auc, auL, edA, edN, edc, edL, ti, co, pu, y, m, d, ci, vol, pa, cr⟩ : En) = []) := Lib.hid (by unfold msL; rw [hok]; rfl)
    clear hr hz hok HX
    rw [HF.out]
    go_enter Tryz.func11, Tryz.ntmps11
    go_wp2_with fail
    generalize w.alloc _ = w0 at HB HV ⊢
    refine HV.out.mono ?_
    rintro e w1 ⟨rfl, b1⟩
    have k1 := HB.out.trans (b1.mono HB.out.size)
    clear HV b1
    go_wp2_with fail
    go_ret2
    exact ⟨_, rfl, World.ownsRow_lit w1 #[] 0 (k1.size) (Nat.zero_le _) rfl, k1.trans ((Below.refl _ w1).alloc k1.size _)⟩
  | true =>
    rw [hok] at HV
    have HF : Hid (msL (⟨key, kind, auA, auN, auc, auL, edA, edN, edc, edL, ti, co, pu, y, m, d, ci, vol, pa, cr⟩ : En) = (need kind).filter (misB (⟨key, kind, auA, auN, auc, auL, edA, edN, edc, edL, ti, co, pu, y, m, d, ci, vol, pa, cr⟩ : En))) := Lib.hid (by unfold msL; rw [hok, ← miss_eq]; rfl)
    have HM := Lib.hid (fun w' (hk : Below w.heap.size w w') => l4Missing_any key kind auA auN auc auL edA edN edc edL ti co pu y m d ci vol pa cr w' (hr.below hk) hok)
    clear hr hz hok
    rw [HF.out]
    generalize (need kind).filter (misB (⟨key, kind, auA, auN, auc, auL, edA, edN, edc, edL, ti, co, pu, y, m, d, ci, vol, pa, cr⟩ : En)) = l at *
    go_enter Tryz.func11, Tryz.ntmps11
    go_wp2_with fail
    generalize w.alloc _ = w0 at HB HX HV ⊢
    refine HV.out.mono ?_
    rintro e w1 ⟨rfl, b1⟩
    have k1 := HB.out.trans (b1.mono HB.out.size)
    obtain ⟨hl, c0, c1, c2, c3, c4, c5, c6, c7, c8, c9, c10, c11, c12, c13⟩ := HX.out.below b1
    dsimp only at c0 c1 c2 c3 c4 c5 c6 c7 c8 c9 c10 c11 c12 c13
    clear HV b1 HX
    go_wp2_with fail
    refine (HM.out _ k1).mono ?_
    rintro e w2 ⟨v, rfl, hown, b2⟩
    go_wp2_with fail
    go_ret2
    exact ⟨_, rfl, row_le k1.size hown, k1.trans (b2.mono k1.size)⟩
end Go.Proofs.YthndeflimmlcaaaGreatDoor.Fld
