/-
  Contracts of l4Entry and IsValidEntry of both.
-/
import Derived.Test.YteccmlpibbchbaaGreatDoorEn
import Derived.Test.YteccmlpibbchbaaGreatDoorGKt
import Derived.Test.YteccmlpibbchbaaGreatDoorGNv
import Derived.Test.YteccmlpibbchbaaGreatDoorDt2
namespace Go.Proofs.YteccmlpibbchbaaGreatDoor.Ens
open Go.RowKit Pl Strs Help Name Stands SplitPl NmPl Word Part NGood Nms Jn Kt
set_option linter.unusedSimpArgs false
set_option linter.unusedVariables false

/-- what stands for another entry is none, or the key of another one -/
def crB (key cr : ByteArray) : Bool := if cr.data.toList = [] then true else (keyB cr && !decide (cr = key))
/-- is the entry valid -/
def okE (e : En) : Bool := keyB e.key && (decide (1 ≤ e.kind ∧ e.kind ≤ 4) && (okL e.auL && (okL e.edL && (textB e.ti && (textB e.co && (textB e.pu && (textB e.pa && (DtPl.okB e.y e.m e.d e.ci && (decide (0 ≤ e.vol ∧ e.vol ≤ 9999) && crB e.key e.cr)))))))))
theorem ne_forms' {x s : ByteArray} (h : x ≠ s) : (x.toList == s.toList) = false := by
  rw [beq_eq_false_iff_ne]
  intro e
  rw [Lib.toList_data, Lib.toList_data] at e
  exact h (ByteArray.ext (Array.ext' e))
theorem isKind_b (z : Int) (r : Bool) (w : World) (hr : decide (1 ≤ z ∧ z ≤ 4) = r) : Calls Tryz.prog 73 #[.int .i64 z] w fun e w' => e = .returned (.bool r) ∧ w = w' := by
  subst hr
  by_cases h1 : 1 ≤ z
  · have HE : Hid (decide (1 ≤ z ∧ z ≤ 4) = decide (z ≤ 4)) := Lib.hid (by simp [h1])
    have hd : decide (1 ≤ z) = true := by simpa using h1
    go_enter Tryz.func73, Tryz.ntmps73
    go_wp2_with fail
    go_ret
    exact ⟨by rw [HE.out]; rfl, rfl⟩
  · have HE : Hid (decide (1 ≤ z ∧ z ≤ 4) = false) := Lib.hid (by simp [h1])
    have hd : decide (1 ≤ z) = false := by simpa using h1
    rw [HE.out]
    clear HE
    go_enter Tryz.func73, Tryz.ntmps73
    go_wp2_with fail
    go_ret
    exact ⟨rfl, rfl⟩

set_option maxRecDepth 100000 in
set_option maxHeartbeats 16000000 in
theorem l4Entry_any (key : ByteArray) (kind : Int) (auA : Option Addr) (auN auc : Nat) (auL : List Nm) (edA : Option Addr) (edN edc : Nat) (edL : List Nm) (ti : ByteArray) (co : ByteArray) (pu : ByteArray) (y : Int) (m : Int) (d : Int) (ci : Bool) (vol : Int) (pa : ByteArray) (cr : ByteArray) (w : World) (hr : (⟨key, kind, auA, auN, auc, auL, edA, edN, edc, edL, ti, co, pu, y, m, d, ci, vol, pa, cr⟩ : En).Rd w) (hz : (⟨key, kind, auA, auN, auc, auL, edA, edN, edc, edL, ti, co, pu, y, m, d, ci, vol, pa, cr⟩ : En).sz ≤ 1048576) :
    Calls Tryz.prog 46 #[.agg #[.string key, .int .i64 kind, .slice auA auN auc, .slice edA edN edc, .string ti, .string co, .string pu, .int .i64 y, .int .i64 m, .int .i64 d, .bool ci, .int .i64 vol, .string pa, .string cr]] w fun e w' => e = .returned (.bool (okE (⟨key, kind, auA, auN, auc, auL, edA, edN, edc, edL, ti, co, pu, y, m, d, ci, vol, pa, cr⟩ : En))) ∧ Below w.heap.size w w' := by
  have hz' : key.size + (auN + szL auL) + (edN + szL edL) + ti.size + co.size + pu.size + pa.size + cr.size ≤ 1048576 := hz
  have HB := Lib.hid ((Below.refl _ w).alloc (Nat.le_refl _) (.cells #[.string key, .int .i64 kind, .slice auA auN auc, .slice edA edN edc, .string ti, .string co, .string pu, .int .i64 y, .int .i64 m, .int .i64 d, .bool ci, .int .i64 vol, .string pa, .string cr] 58))
  have HE0 := Lib.hid (E14.new w (⟨key, kind, auA, auN, auc, auL, edA, edN, edc, edL, ti, co, pu, y, m, d, ci, vol, pa, cr⟩ : En) 58)
  have HE : Hid (okE (⟨key, kind, auA, auN, auc, auL, edA, edN, edc, edL, ti, co, pu, y, m, d, ci, vol, pa, cr⟩ : En) = (keyB key && (decide (1 ≤ kind ∧ kind ≤ 4) && (okL auL && (okL edL && (textB ti && (textB co && (textB pu && (textB pa && (DtPl.okB y m d ci && (decide (0 ≤ vol ∧ vol ≤ 9999) && crB key cr))))))))))) := Lib.hid rfl
  have HZa : Hid (∀ x ∈ auL, x.sz ≤ 1048576) := Lib.hid (fun x hx => by have := szL_mem hx; omega)
  have HZe : Hid (∀ x ∈ edL, x.sz ≤ 1048576) := Lib.hid (fun x hx => by have := szL_mem hx; omega)
  have HA := Lib.hid (fun w' (hk : Below w.heap.size w w') => l2List auA auc auN auL w' (hr.1.below hk) hr.2.1 (by omega) HZa.out)
  have HD := Lib.hid (fun w' (hk : Below w.heap.size w w') => l2List edA edc edN edL w' (hr.2.2.1.below hk) hr.2.2.2 (by omega) HZe.out)
  have hkz : key.size ≤ 1048576 := by omega
  have htz : ti.size ≤ 1048576 := by omega
  have hcz : co.size ≤ 1048576 := by omega
  have hpz : pu.size ≤ 1048576 := by omega
  have haz : pa.size ≤ 1048576 := by omega
  have hrz : cr.size ≤ 1048576 := by omega
  have HCr : Hid (crB key cr = if cr.data.toList = [] then true else (keyB cr && !decide (cr = key))) := Lib.hid rfl
  clear hr hz hz' HZa HZe
  generalize hrk : keyB key = rk at HE
  have Hrk := Lib.hid hrk
  clear hrk
  generalize hrn : decide (1 ≤ kind ∧ kind ≤ 4) = rn at HE
  have Hrn := Lib.hid hrn
  clear hrn
  generalize hr1 : textB ti = r1 at HE
  have Hr1 := Lib.hid hr1
  clear hr1
  generalize hr2 : textB co = r2 at HE
  have Hr2 := Lib.hid hr2
  clear hr2
  generalize hr3 : textB pu = r3 at HE
  have Hr3 := Lib.hid hr3
  clear hr3
  generalize hr4 : textB pa = r4 at HE
  have Hr4 := Lib.hid hr4
  clear hr4
  generalize hrd : DtPl.okB y m d ci = rd at HE
  have Hrd := Lib.hid hrd
  clear hrd
  generalize hrv : decide (0 ≤ vol ∧ vol ≤ 9999) = rv at HE
  have Hrv := Lib.hid hrv
  clear hrv
  generalize okL auL = ra at *
  generalize okL edL = re at *
  generalize crB key cr = rc at *
  generalize okE (⟨key, kind, auA, auN, auc, auL, edA, edN, edc, edL, ti, co, pu, y, m, d, ci, vol, pa, cr⟩ : En) = res at *
  go_enter Tryz.func46, Tryz.ntmps46
  go_wp2_with fail
  refine (l4Key_any key rk _ hkz Hrk.out).mono ?_
  rintro e w' ⟨rfl, rfl⟩
  cases rk with
  | false =>
    go_wp2_with fail
    all_goals first | (go_ret; exact ⟨by rw [HE.out]; rfl, HB.out⟩) | (exfalso; have hu : ∃ b, some undef = some (Value.bool b) := ⟨_, by assumption⟩; obtain ⟨b, hu⟩ := hu; cases hu; done)
  | true =>
    go_wp2_with fail
    refine (Dt.l1In_any kind 1 4 rn _ Hrn.out).mono ?_
    rintro e w' ⟨rfl, rfl⟩
    cases rn with
    | false =>
      go_wp2_with fail
      all_goals first | (go_ret; exact ⟨by rw [HE.out]; rfl, HB.out⟩) | (exfalso; have hu : ∃ b, some undef = some (Value.bool b) := ⟨_, by assumption⟩; obtain ⟨b, hu⟩ := hu; cases hu; done)
    | true =>
      go_wp2_with fail
      refine (HA.out _ HB.out).mono ?_
      rintro e w1 ⟨rfl, b1⟩
      have k1 := Below.trans HB.out (b1.mono (HB.out).size)
      have E1 := Lib.hid (HE0.out.below b1)
      clear b1
      obtain ⟨hl, c0, c1, c2, c3, c4, c5, c6, c7, c8, c9, c10, c11, c12, c13⟩ := E1.out
      dsimp only at c0 c1 c2 c3 c4 c5 c6 c7 c8 c9 c10 c11 c12 c13
      cases ra with
      | false =>
        go_wp2_with fail
        all_goals first | (go_ret; exact ⟨by rw [HE.out]; rfl, k1⟩) | (exfalso; have hu : ∃ b, some undef = some (Value.bool b) := ⟨_, by assumption⟩; obtain ⟨b, hu⟩ := hu; cases hu; done)
      | true =>
        go_wp2_with fail
        refine (HD.out _ k1).mono ?_
        rintro e w2 ⟨rfl, b2⟩
        have k2 := Below.trans k1 (b2.mono (k1).size)
        have E2 := Lib.hid (E1.out.below b2)
        clear b2
        clear hl c0 c1 c2 c3 c4 c5 c6 c7 c8 c9 c10 c11 c12 c13
        obtain ⟨hl, c0, c1, c2, c3, c4, c5, c6, c7, c8, c9, c10, c11, c12, c13⟩ := E2.out
        dsimp only at c0 c1 c2 c3 c4 c5 c6 c7 c8 c9 c10 c11 c12 c13
        cases re with
        | false =>
          go_wp2_with fail
          all_goals first | (go_ret; exact ⟨by rw [HE.out]; rfl, k2⟩) | (exfalso; have hu : ∃ b, some undef = some (Value.bool b) := ⟨_, by assumption⟩; obtain ⟨b, hu⟩ := hu; cases hu; done)
        | true =>
          go_wp2_with fail
          refine (l4Text_any ti r1 _ htz Hr1.out).mono ?_
          rintro e w' ⟨rfl, rfl⟩
          cases r1 with
          | false =>
            go_wp2_with fail
            all_goals first | (go_ret; exact ⟨by rw [HE.out]; rfl, k2⟩) | (exfalso; have hu : ∃ b, some undef = some (Value.bool b) := ⟨_, by assumption⟩; obtain ⟨b, hu⟩ := hu; cases hu; done)
          | true =>
            go_wp2_with fail
            refine (l4Text_any co r2 _ hcz Hr2.out).mono ?_
            rintro e w' ⟨rfl, rfl⟩
            cases r2 with
            | false =>
              go_wp2_with fail
              all_goals first | (go_ret; exact ⟨by rw [HE.out]; rfl, k2⟩) | (exfalso; have hu : ∃ b, some undef = some (Value.bool b) := ⟨_, by assumption⟩; obtain ⟨b, hu⟩ := hu; cases hu; done)
            | true =>
              go_wp2_with fail
              refine (l4Text_any pu r3 _ hpz Hr3.out).mono ?_
              rintro e w' ⟨rfl, rfl⟩
              cases r3 with
              | false =>
                go_wp2_with fail
                all_goals first | (go_ret; exact ⟨by rw [HE.out]; rfl, k2⟩) | (exfalso; have hu : ∃ b, some undef = some (Value.bool b) := ⟨_, by assumption⟩; obtain ⟨b, hu⟩ := hu; cases hu; done)
              | true =>
                go_wp2_with fail
                refine (l4Text_any pa r4 _ haz Hr4.out).mono ?_
                rintro e w' ⟨rfl, rfl⟩
                cases r4 with
                | false =>
                  go_wp2_with fail
                  all_goals first | (go_ret; exact ⟨by rw [HE.out]; rfl, k2⟩) | (exfalso; have hu : ∃ b, some undef = some (Value.bool b) := ⟨_, by assumption⟩; obtain ⟨b, hu⟩ := hu; cases hu; done)
                | true =>
                  go_wp2_with fail
                  refine (Dt.l3Good y m d ci rd _ Hrd.out).mono ?_
                  rintro e w3 ⟨rfl, b3⟩
                  have k3 := Below.trans k2 (b3.mono (k2).size)
                  have E3 := Lib.hid (E2.out.below b3)
                  clear b3
                  clear hl c0 c1 c2 c3 c4 c5 c6 c7 c8 c9 c10 c11 c12 c13
                  obtain ⟨hl, c0, c1, c2, c3, c4, c5, c6, c7, c8, c9, c10, c11, c12, c13⟩ := E3.out
                  dsimp only at c0 c1 c2 c3 c4 c5 c6 c7 c8 c9 c10 c11 c12 c13
                  cases rd with
                  | false =>
                    go_wp2_with fail
                    all_goals first | (go_ret; exact ⟨by rw [HE.out]; rfl, k3⟩) | (exfalso; have hu : ∃ b, some undef = some (Value.bool b) := ⟨_, by assumption⟩; obtain ⟨b, hu⟩ := hu; cases hu; done)
                  | true =>
                    go_wp2_with fail
                    refine (Dt.l1In_any vol 0 9999 rv _ Hrv.out).mono ?_
                    rintro e w' ⟨rfl, rfl⟩
                    cases rv with
                    | false =>
                      go_wp2_with fail
                      all_goals first | (go_ret; exact ⟨by rw [HE.out]; rfl, k3⟩) | (exfalso; have hu : ∃ b, some undef = some (Value.bool b) := ⟨_, by assumption⟩; obtain ⟨b, hu⟩ := hu; cases hu; done)
                    | true =>
                      by_cases hc0 : cr.data.toList = []
                      · have hc : (cr.toList == []) = true := by rw [Lib.toList_data, hc0]; rfl
                        have hcc : cr.toList.isEmpty = true := by rw [Lib.toList_data, hc0]; rfl
                        obtain rfl : rc = true := by rw [HCr.out, if_pos hc0]
                        clear hc0
                        go_wp2_with fail
                        all_goals first | (go_ret; exact ⟨by rw [HE.out]; rfl, k3⟩) | (exfalso; have hu : ∃ b, some undef = some (Value.bool b) := ⟨_, by assumption⟩; obtain ⟨b, hu⟩ := hu; cases hu; done)
                      · have hcs : 0 < cr.size := by rw [← len_size]; exact List.length_pos_iff.2 hc0
                        obtain ⟨hc, hcc⟩ := Kt.ne_str hcs
                        rw [if_neg hc0] at HCr
                        generalize hkr : keyB cr = rq at *
                        have Hrq := Lib.hid hkr
                        clear hkr hc0 hcs
                        by_cases hne : cr = key
                        · subst hne
                          rw [decide_eq_true rfl] at HCr
                          go_wp2_with fail
                          refine (l4Key_any cr rq _ hrz Hrq.out).mono ?_
                          rintro e w' ⟨rfl, rfl⟩
                          cases rq with
                          | false =>
                            obtain rfl : rc = false := by rw [HCr.out]; rfl
                            go_wp2_with fail
                            all_goals first | (go_ret; exact ⟨by rw [HE.out]; rfl, k3⟩) | (exfalso; have hu : ∃ b, some undef = some (Value.bool b) := ⟨_, by assumption⟩; obtain ⟨b, hu⟩ := hu; cases hu; done)
                          | true =>
                            obtain rfl : rc = false := by rw [HCr.out]; rfl
                            go_wp2_with fail
                            all_goals first | (go_ret; exact ⟨by rw [HE.out]; rfl, k3⟩) | (exfalso; have hu : ∃ b, some undef = some (Value.bool b) := ⟨_, by assumption⟩; obtain ⟨b, hu⟩ := hu; cases hu; done)
                        · rw [decide_eq_false hne] at HCr
                          have hnf := ne_forms' hne
                          clear hne
                          go_wp2_with fail
                          refine (l4Key_any cr rq _ hrz Hrq.out).mono ?_
                          rintro e w' ⟨rfl, rfl⟩
                          cases rq with
                          | false =>
                            obtain rfl : rc = false := by rw [HCr.out]; rfl
                            go_wp2_with fail
                            all_goals first | (go_ret; exact ⟨by rw [HE.out]; rfl, k3⟩) | (exfalso; have hu : ∃ b, some undef = some (Value.bool b) := ⟨_, by assumption⟩; obtain ⟨b, hu⟩ := hu; cases hu; done)
                          | true =>
                            obtain rfl : rc = true := by rw [HCr.out]; rfl
                            go_wp2_with fail
                            all_goals first | (go_ret; exact ⟨by rw [HE.out]; rfl, k3⟩) | (exfalso; have hu : ∃ b, some undef = some (Value.bool b) := ⟨_, by assumption⟩; obtain ⟨b, hu⟩ := hu; cases hu; done)
end Go.Proofs.YteccmlpibbchbaaGreatDoor.Ens
