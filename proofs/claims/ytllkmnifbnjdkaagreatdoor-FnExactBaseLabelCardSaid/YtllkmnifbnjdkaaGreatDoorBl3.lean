/-
  l13Base of the model; labelOfYear, baseLabel of the program.
-/
import Derived.Test.YtllkmnifbnjdkaaGreatDoorBl2
namespace Go.Proofs.YtllkmnifbnjdkaaGreatDoor.Bl
open Go.RowKit Pl NmPl Strs Name Nms Ens DtPl DtTx ReadPl Kpz LtI
open Num (Tab)
set_option linter.unusedSimpArgs false
set_option linter.unusedVariables false

theorem l1d (p : Nat) (w : World) (h : p < 10) : Calls Tryz.prog 46 #[.int .i64 p] w fun e w' => e = .returned (.string (ba (Lib.decDigits p))) ∧ Kp w w' :=
  (Num.l1Num_any (p : Int) w (by omega) (by omega)).mono fun _ _ h => ⟨by rw [h.1, itoa_nat], by obtain ⟨q, hq⟩ := h.2; rw [hq]; exact kdn (kre _) q⟩
theorem dig1 {p : Nat} (h : p < 10) : (ba (Lib.decDigits p)).size = 1 := by rw [ba_size, dec_small h]; rfl
theorem first_s (t : ByteArray) (w : World) : Calls Tryz.prog 44 #[.string t, .string ⟨#[65, 110, 111, 110]⟩] w fun e w' => e = .returned (.string (if 0 < t.size then t else ⟨#[65, 110, 111, 110]⟩)) ∧ w = w' := by
  by_cases ht : 0 < t.size
  · obtain ⟨e2a, e2b⟩ := ne_str ht
    have HE : Hid ((if 0 < t.size then t else (⟨#[65, 110, 111, 110]⟩ : ByteArray)) = t) := Lib.hid (if_pos ht)
    go_enter Tryz.func44, Tryz.ntmps44
    go_wp2_with fail
    go_ret
    exact ⟨by first | rfl | (rw [HE.out]; rfl), rfl⟩
  · have HE : Hid ((if 0 < t.size then t else (⟨#[65, 110, 111, 110]⟩ : ByteArray)) = ⟨#[65, 110, 111, 110]⟩) := Lib.hid (if_neg ht)
    obtain rfl := nil_str ht
    go_enter Tryz.func44, Tryz.ntmps44
    go_wp2_with fail
    go_ret
    exact ⟨by first | rfl | (rw [HE.out]; rfl), rfl⟩
theorem nm_size (ti : List UInt8) (L : List Nm) : (ba (nmB ti (fams L))).size ≤ 4 + L.length := by rw [ba_size]; have := nmB_len ti (fams L); unfold fams at this; rw [List.length_map] at this; exact this

set_option maxRecDepth 100000 in
set_option maxHeartbeats 8000000 in
theorem base_s (key : ByteArray) (kind : Int) (auA : Option Addr) (auN : Nat) (auc : Nat) (auL : List Nm) (edA : Option Addr) (edN : Nat) (edc : Nat) (edL : List Nm) (ti : ByteArray) (co : ByteArray) (pu : ByteArray) (y : Int) (m : Int) (d : Int) (ci : Bool) (vol : Int) (pa : ByteArray) (cr : ByteArray) (w : World) (hr : (⟨key, kind, auA, auN, auc, auL, edA, edN, edc, edL, ti, co, pu, y, m, d, ci, vol, pa, cr⟩ : En).Rd w) (hti : ti.size ≤ 1048576) (hf : ∀ x ∈ auL, x.f.size ≤ 1048576) (hN : auN ≤ 1048576) (hy1 : 0 ≤ y) (hy2 : y ≤ 9999) :
    Calls Tryz.prog 21 #[.agg #[.string key, .int .i64 kind, .slice auA auN auc, .slice edA edN edc, .string ti, .string co, .string pu, .int .i64 y, .int .i64 m, .int .i64 d, .bool ci, .int .i64 vol, .string pa, .string cr]] w fun e w' => e = .returned (.string (ba (baseL (⟨key, kind, auA, auN, auc, auL, edA, edN, edc, edL, ti, co, pu, y, m, d, ci, vol, pa, cr⟩ : En)))) ∧ Kp w w' := by
  have hb0 : Kp w (w.alloc (.cells #[.string key, .int .i64 kind, .slice auA auN auc, .slice edA edN edc, .string ti, .string co, .string pu, .int .i64 y, .int .i64 m, .int .i64 d, .bool ci, .int .i64 vol, .string pa, .string cr] 33)) := kal (kre _) _
  have HE0 := E14.new w (⟨key, kind, auA, auN, auc, auL, edA, edN, edc, edL, ti, co, pu, y, m, d, ci, vol, pa, cr⟩ : En) 33
  obtain ⟨hrA, hrN, -, -⟩ := hr
  dsimp only at hrA hrN
  have HR := Lib.hid hrA
  have HN := Lib.hid hrN
  have HF := Lib.hid hf
  clear hrA hrN hf
  have HA := Lib.hid (anon_eq ti)
  have HL3 := Lib.hid (fun w => letters_s ti 3 w hti (by omega))
  have hl3 : (ba (fl 3 ti.data.toList)).size ≤ 3 := by rw [ba_size]; exact fl_len _ _
  have hNBz := nm_size ti.data.toList auL
  rw [HN.out] at hNBz
  obtain ⟨NB, HNB⟩ : ∃ NB, Hid (NB = ba (nmB ti.data.toList (fams auL))) := ⟨_, Lib.hid rfl⟩
  rw [← HNB.out] at hNBz
  have HBL0 : Hid (∀ X, yrB y = X → ba (baseL (⟨key, kind, auA, auN, auc, auL, edA, edN, edc, edL, ti, co, pu, y, m, d, ci, vol, pa, cr⟩ : En)) = NB ++ ba X) := Lib.hid (fun X h => by rw [HNB.out, ba_app, ← h]; rfl)
  generalize hBL : baseL (⟨key, kind, auA, auN, auc, auL, edA, edN, edc, edL, ti, co, pu, y, m, d, ci, vol, pa, cr⟩ : En) = BL at *
  have HBL := HBL0
  clear hBL HBL0
  generalize hW : w.alloc (.cells #[.string key, .int .i64 kind, .slice auA auN auc, .slice edA edN edc, .string ti, .string co, .string pu, .int .i64 y, .int .i64 m, .int .i64 d, .bool ci, .int .i64 vol, .string pa, .string cr] 33) = w0 at *
  obtain ⟨hl, c0, c1, c2, c3, c4, c5, c6, c7, c8, c9, c10, c11, c12, c13⟩ := HE0
  dsimp only at c0 c1 c2 c3 c4 c5 c6 c7 c8 c9 c10 c11 c12 c13
  by_cases h0 : auN = 0
  · have hL : auL = [] := List.eq_nil_of_length_eq_zero (by rw [HN.out, h0])
    subst hL
    subst h0
    generalize ba (fl 3 ti.data.toList) = t at *
    have HO := Lib.hid (fun w => first_s t w)
    have hr9 : (if 0 < t.size then t else (⟨#[65, 110, 111, 110]⟩ : ByteArray)) = NB := by rw [HNB.out, show fams [] = [] from rfl]; exact HA.out.symm
    rw [hr9] at HO
    clear hr9
    go_enter Tryz.func21, Tryz.ntmps21
    go_wp2_with fail
    (try clear hW)
    refine (HL3.out _).mono ?_
    rintro e w' ⟨rfl, rfl⟩
    go_wp2_with fail
    refine (HO.out _).mono ?_
    rintro e w' ⟨rfl, rfl⟩
    have HB9 := Lib.hid hb0
    (try clear hb0)
    by_cases hy0 : y = 0
    · subst hy0
      have HF : Hid (NB ++ (⟨#[63, 63]⟩ : ByteArray) = ba BL) := Lib.hid (by rw [HBL.out [63, 63] rfl]; rfl)
      have hz : (NB ++ (⟨#[63, 63]⟩ : ByteArray)).size = NB.size + 2 := ByteArray.size_append
      go_wp2_with fail
      go_ret
      exact ⟨by rw [← HF.out]; rfl, HB9.out⟩
    · obtain ⟨u, rfl⟩ := Int.eq_ofNat_of_zero_le hy1
      have hyd : (((u : Nat) : Int) == 0) = false := by simp at hy0 ⊢; exact hy0
      obtain ⟨p, hp⟩ : ∃ p, u / 10 % 10 = p := ⟨_, rfl⟩
      obtain ⟨q, hq⟩ : ∃ q, u % 10 = q := ⟨_, rfl⟩
      obtain ⟨v, hv⟩ : ∃ v, u / 10 = v := ⟨_, rfl⟩
      have hq1 : ((u : Nat) : Int).tdiv 10 = (v : Int) := by rw [Int.tdiv_eq_ediv_of_nonneg (by omega)]; omega
      have hq1w : IntKind.i64.wrap (v : Int) = (v : Int) := IntWalk.i64_in _ (by omega)
      have hq2 : (v : Int).tmod 10 = (p : Int) := by rw [Int.tmod_eq_emod_of_nonneg (by omega)]; omega
      have hq3 : ((u : Nat) : Int).tmod 10 = (q : Int) := by rw [Int.tmod_eq_emod_of_nonneg (by omega)]; omega
      have hq2w : IntKind.i64.wrap (p : Int) = (p : Int) := IntWalk.i64_in _ (by omega)
      have hq3w : IntKind.i64.wrap (q : Int) = (q : Int) := IntWalk.i64_in _ (by omega)
      have HN1 := Lib.hid (fun w => l1d p w (by omega))
      have HN2 := Lib.hid (fun w => l1d q w (by omega))
      have HF : Hid ((NB ++ ba (Lib.decDigits p)) ++ ba (Lib.decDigits q) = ba BL) := Lib.hid (by
        rw [HBL.out (Lib.decDigits p ++ Lib.decDigits q) (by
          unfold yrB
          rw [if_neg (by simpa using hy0), show ((u : Nat) : Int).toNat = u from rfl, two_digits, hp, hq]), ← ba_app]
        apply ByteArray.ext
        simp [ba])
      have hd1 := dig1 (p := p) (by omega)
      have hd2 := dig1 (p := q) (by omega)
      generalize ba (Lib.decDigits p) = tp at *
      generalize ba (Lib.decDigits q) = tq at *
      have hz1 : (NB ++ tp).size = NB.size + 1 := by rw [ByteArray.size_append, hd1]
      have hz2 : (NB ++ tp ++ tq).size = NB.size + 2 := by rw [ByteArray.size_append, hz1, hd2]
      have hL1 : ¬ 9223372036854775807 < NB.size + 1 := by omega
      have hL2 : ¬ 9223372036854775807 < NB.size + 2 := by omega
      have hL3 : ¬ 9223372036854775807 < NB.size + 1 + 1 := by omega
      have hc7 := c7
      have HSS : Hid (∀ w', Kp w0 w' → w'.cell? ⟨w.heap.size, 7, none⟩ = some (.int .i64 ((u : Nat) : Int)) ∧ Kp w0 w') := Lib.hid (fun w' h => ⟨(h.cell (p := ⟨w.heap.size, 7, none⟩) hl).trans hc7, h⟩)
      have HK0 := Lib.hid (kdr (kre w0))
      clear hp hq hv hy0
      go_wp2_with fail
      go_region_held3 (fun w' => w'.cell? ⟨w.heap.size, 7, none⟩ = some (.int .i64 ((u : Nat) : Int)) ∧ Kp w0 w')
        (first | exact HSS.out _ HK0.out | exact HSS.out _ (by assumption))
        (first
          | (go_at_call 46; (with_reducible refine (HN1.out _).mono ?_); rintro e wa ⟨rfl, bka⟩; have hka : Kp w0 wa := ktr (by first | assumption | exact HK0.out) bka; clear bka)
          | (go_at_call 46; (with_reducible refine (HN2.out _).mono ?_); rintro e wb ⟨rfl, bkb⟩; have hkb : Kp w0 wb := ktr (by first | assumption | exact HK0.out) bkb; clear bkb))
      all_goals
        (try clear hHeld)
        have hkf : Kp w _ := ktr HB9.out (by assumption)
        go_wp2_with fail
        go_ret
        exact ⟨by rw [← HF.out]; rfl, hkf⟩
  · have hd0 : ((auN : Int) == 0) = false := by simp; omega
    by_cases h1 : auN = 1
    · obtain ⟨x, hx⟩ : ∃ x, auL = [x] := List.length_eq_one_iff.1 (by rw [HN.out, h1])
      have hfx := HF.out x (by rw [hx]; exact List.mem_cons_self)
      obtain ⟨-, g, o', rfl, hg, -, -, d2, -⟩ := (HR.out.below hb0) 0 x (by rw [hx]; rfl)
      rw [Nat.zero_mul, Nat.add_zero] at d2
      have HL := Lib.hid (fun w => letters_s x.f 3 w hfx (by omega))
      have hE : ba (fl 3 x.f.data.toList) = NB := by rw [HNB.out, nmB_one hx]
      rw [hE] at HL
      subst h1
      clear hE hd0 h0 hx
      generalize x.f = xf at *
      go_enter Tryz.func21, Tryz.ntmps21
      go_wp2_with fail
      (try clear hW)
      refine (HL.out _).mono ?_
      rintro e w' ⟨rfl, rfl⟩
      have HB9 := Lib.hid hb0
      (try clear hb0)
      by_cases hy0 : y = 0
      · subst hy0
        have HF : Hid (NB ++ (⟨#[63, 63]⟩ : ByteArray) = ba BL) := Lib.hid (by rw [HBL.out [63, 63] rfl]; rfl)
        have hz : (NB ++ (⟨#[63, 63]⟩ : ByteArray)).size = NB.size + 2 := ByteArray.size_append
        go_wp2_with fail
        go_ret
        exact ⟨by rw [← HF.out]; rfl, HB9.out⟩
      · obtain ⟨u, rfl⟩ := Int.eq_ofNat_of_zero_le hy1
        have hyd : (((u : Nat) : Int) == 0) = false := by simp at hy0 ⊢; exact hy0
        obtain ⟨p, hp⟩ : ∃ p, u / 10 % 10 = p := ⟨_, rfl⟩
        obtain ⟨q, hq⟩ : ∃ q, u % 10 = q := ⟨_, rfl⟩
        obtain ⟨v, hv⟩ : ∃ v, u / 10 = v := ⟨_, rfl⟩
        have hq1 : ((u : Nat) : Int).tdiv 10 = (v : Int) := by rw [Int.tdiv_eq_ediv_of_nonneg (by omega)]; omega
        have hq1w : IntKind.i64.wrap (v : Int) = (v : Int) := IntWalk.i64_in _ (by omega)
        have hq2 : (v : Int).tmod 10 = (p : Int) := by rw [Int.tmod_eq_emod_of_nonneg (by omega)]; omega
        have hq3 : ((u : Nat) : Int).tmod 10 = (q : Int) := by rw [Int.tmod_eq_emod_of_nonneg (by omega)]; omega
        have hq2w : IntKind.i64.wrap (p : Int) = (p : Int) := IntWalk.i64_in _ (by omega)
        have hq3w : IntKind.i64.wrap (q : Int) = (q : Int) := IntWalk.i64_in _ (by omega)
        have HN1 := Lib.hid (fun w => l1d p w (by omega))
        have HN2 := Lib.hid (fun w => l1d q w (by omega))
        have HF : Hid ((NB ++ ba (Lib.decDigits p)) ++ ba (Lib.decDigits q) = ba BL) := Lib.hid (by
          rw [HBL.out (Lib.decDigits p ++ Lib.decDigits q) (by
            unfold yrB
            rw [if_neg (by simpa using hy0), show ((u : Nat) : Int).toNat = u from rfl, two_digits, hp, hq]), ← ba_app]
          apply ByteArray.ext
          simp [ba])
        have hd1 := dig1 (p := p) (by omega)
        have hd2 := dig1 (p := q) (by omega)
        generalize ba (Lib.decDigits p) = tp at *
        generalize ba (Lib.decDigits q) = tq at *
        have hz1 : (NB ++ tp).size = NB.size + 1 := by rw [ByteArray.size_append, hd1]
        have hz2 : (NB ++ tp ++ tq).size = NB.size + 2 := by rw [ByteArray.size_append, hz1, hd2]
        have hL1 : ¬ 9223372036854775807 < NB.size + 1 := by omega
        have hL2 : ¬ 9223372036854775807 < NB.size + 2 := by omega
        have hL3 : ¬ 9223372036854775807 < NB.size + 1 + 1 := by omega
        have hc7 := c7
        have HSS : Hid (∀ w', Kp w0 w' → w'.cell? ⟨w.heap.size, 7, none⟩ = some (.int .i64 ((u : Nat) : Int)) ∧ Kp w0 w') := Lib.hid (fun w' h => ⟨(h.cell (p := ⟨w.heap.size, 7, none⟩) hl).trans hc7, h⟩)
        have HK0 := Lib.hid (kdr (kre w0))
        clear hp hq hv hy0
        go_wp2_with fail
        go_region_held3 (fun w' => w'.cell? ⟨w.heap.size, 7, none⟩ = some (.int .i64 ((u : Nat) : Int)) ∧ Kp w0 w')
          (first | exact HSS.out _ HK0.out | exact HSS.out _ (by assumption))
          (first
            | (go_at_call 46; (with_reducible refine (HN1.out _).mono ?_); rintro e wa ⟨rfl, bka⟩; have hka : Kp w0 wa := ktr (by first | assumption | exact HK0.out) bka; clear bka)
            | (go_at_call 46; (with_reducible refine (HN2.out _).mono ?_); rintro e wb ⟨rfl, bkb⟩; have hkb : Kp w0 wb := ktr (by first | assumption | exact HK0.out) bkb; clear bkb))
        all_goals
          (try clear hHeld)
          have hkf : Kp w _ := ktr HB9.out (by assumption)
          go_wp2_with fail
          go_ret
          exact ⟨by rw [← HF.out]; rfl, hkf⟩
    · have hd1 : ((auN : Int) == 1) = false := by simp; omega
      have HE : Hid (NB = ba ((fams auL).map (fl 1)).flatten) := Lib.hid (by rw [HNB.out, nmB_many (by rw [HN.out]; omega)])
      have HB0 := Lib.hid hb0
      have HC2 := Lib.hid c2
      have HC7 := Lib.hid c7
      have hwl : w.heap.size < w0.heap.size := hl
      clear hb0
      go_enter Tryz.func21, Tryz.ntmps21
      go_wp2_with fail
      (try clear hW)
      go_loop [3, 4] (fun v i => ∃ (k : Nat) (ob : ByteArray), k ≤ auN ∧ i = .int .i64 k ∧ v = .string ob ∧ Hid (ob = ba (((fams auL).take k).map (fl 1)).flatten) ∧ ob.size ≤ k) (fun _ i => auN - (intOf i).toNat)
      case atStart => exact ⟨0, ⟨#[]⟩, Nat.zero_le _, rfl, rfl, Lib.hid rfl, Nat.zero_le _⟩
      case round =>
        obtain ⟨k, ob, hk, rfl, rfl, HO, ho⟩ := hrel
        by_cases hlt : k < auN
        · obtain ⟨x, hx⟩ : ∃ x, auL[k]? = some x := ⟨_, List.getElem?_eq_getElem (by rw [HN.out]; exact hlt)⟩
          have hfx := HF.out x (List.mem_of_getElem? hx)
          obtain ⟨-, g, o', rfl, hg, -, -, d2, -⟩ := (HR.out.below HB0.out) k x hx
          have HL := Lib.hid (fun w => letters_s x.f 1 w hfx (by omega))
          have hz : (ba (fl 1 x.f.data.toList)).size ≤ 1 := by rw [ba_size]; exact fl_len _ _
          have HS : Hid (ob ++ ba (fl 1 x.f.data.toList) = ba (((fams auL).take (k + 1)).map (fl 1)).flatten) := Lib.hid (by rw [fams_at hx, HO.out, ba_app])
          have hoz : (ob ++ ba (fl 1 x.f.data.toList)).size = ob.size + (ba (fl 1 x.f.data.toList)).size := ByteArray.size_append
          clear hx
          generalize x.f = xf at *
          generalize ba (fl 1 xf.data.toList) = t at *
          go_wp2_with fail
          refine (HL.out _).mono ?_
          rintro e w' ⟨rfl, rfl⟩
          go_wp2_with fail
          go_round
          case rel => exact ⟨k + 1, _, by omega, by go_num, rfl, HS, by omega⟩
          case measure => (simp [intOf] <;> omega)
        · have HT : Hid (ob = NB) := Lib.hid (by
            have := HO.out
            rw [List.take_of_length_le (by unfold fams; rw [List.length_map, HN.out]; omega)] at this
            rw [HE.out]; exact this)
          have hT := HT.out
          subst hT
          have HB9 := Lib.hid HB0.out
          (try clear HB0.out)
          by_cases hy0 : y = 0
          · subst hy0
            have HF : Hid (ob ++ (⟨#[63, 63]⟩ : ByteArray) = ba BL) := Lib.hid (by rw [HBL.out [63, 63] rfl]; rfl)
            have hz : (ob ++ (⟨#[63, 63]⟩ : ByteArray)).size = ob.size + 2 := ByteArray.size_append
            go_wp2_with fail
            go_ret
            exact ⟨by rw [← HF.out]; rfl, HB9.out⟩
          · obtain ⟨u, rfl⟩ := Int.eq_ofNat_of_zero_le hy1
            have hyd : (((u : Nat) : Int) == 0) = false := by simp at hy0 ⊢; exact hy0
            obtain ⟨p, hp⟩ : ∃ p, u / 10 % 10 = p := ⟨_, rfl⟩
            obtain ⟨q, hq⟩ : ∃ q, u % 10 = q := ⟨_, rfl⟩
            obtain ⟨v, hv⟩ : ∃ v, u / 10 = v := ⟨_, rfl⟩
            have hq1 : ((u : Nat) : Int).tdiv 10 = (v : Int) := by rw [Int.tdiv_eq_ediv_of_nonneg (by omega)]; omega
            have hq1w : IntKind.i64.wrap (v : Int) = (v : Int) := IntWalk.i64_in _ (by omega)
            have hq2 : (v : Int).tmod 10 = (p : Int) := by rw [Int.tmod_eq_emod_of_nonneg (by omega)]; omega
            have hq3 : ((u : Nat) : Int).tmod 10 = (q : Int) := by rw [Int.tmod_eq_emod_of_nonneg (by omega)]; omega
            have hq2w : IntKind.i64.wrap (p : Int) = (p : Int) := IntWalk.i64_in _ (by omega)
            have hq3w : IntKind.i64.wrap (q : Int) = (q : Int) := IntWalk.i64_in _ (by omega)
            have HN1 := Lib.hid (fun w => l1d p w (by omega))
            have HN2 := Lib.hid (fun w => l1d q w (by omega))
            have HF : Hid ((ob ++ ba (Lib.decDigits p)) ++ ba (Lib.decDigits q) = ba BL) := Lib.hid (by
              rw [HBL.out (Lib.decDigits p ++ Lib.decDigits q) (by
                unfold yrB
                rw [if_neg (by simpa using hy0), show ((u : Nat) : Int).toNat = u from rfl, two_digits, hp, hq]), ← ba_app]
              apply ByteArray.ext
              simp [ba])
            have hd1 := dig1 (p := p) (by omega)
            have hd2 := dig1 (p := q) (by omega)
            generalize ba (Lib.decDigits p) = tp at *
            generalize ba (Lib.decDigits q) = tq at *
            have hz1 : (ob ++ tp).size = ob.size + 1 := by rw [ByteArray.size_append, hd1]
            have hz2 : (ob ++ tp ++ tq).size = ob.size + 2 := by rw [ByteArray.size_append, hz1, hd2]
            have hL1 : ¬ 9223372036854775807 < ob.size + 1 := by omega
            have hL2 : ¬ 9223372036854775807 < ob.size + 2 := by omega
            have hL3 : ¬ 9223372036854775807 < ob.size + 1 + 1 := by omega
            have hc7 := HC7.out
            have HSS : Hid (∀ w', Kp w0 w' → w'.cell? ⟨w.heap.size, 7, none⟩ = some (.int .i64 ((u : Nat) : Int)) ∧ Kp w0 w') := Lib.hid (fun w' h => ⟨(h.cell (p := ⟨w.heap.size, 7, none⟩) hwl).trans hc7, h⟩)
            have HK0 := Lib.hid (kdr (kre w0))
            clear hp hq hv hy0
            go_wp2_with fail
            go_region_held3 (fun w' => w'.cell? ⟨w.heap.size, 7, none⟩ = some (.int .i64 ((u : Nat) : Int)) ∧ Kp w0 w')
              (first | exact HSS.out _ HK0.out | exact HSS.out _ (by assumption))
              (first
                | (go_at_call 46; (with_reducible refine (HN1.out _).mono ?_); rintro e wa ⟨rfl, bka⟩; have hka : Kp w0 wa := ktr (by first | assumption | exact HK0.out) bka; clear bka)
                | (go_at_call 46; (with_reducible refine (HN2.out _).mono ?_); rintro e wb ⟨rfl, bkb⟩; have hkb : Kp w0 wb := ktr (by first | assumption | exact HK0.out) bkb; clear bkb))
            all_goals
              (try clear hHeld)
              have hkf : Kp w _ := ktr HB9.out (by assumption)
              go_wp2_with fail
              go_ret
              exact ⟨by rw [← HF.out]; rfl, hkf⟩

end Go.Proofs.YtllkmnifbnjdkaaGreatDoor.Bl
