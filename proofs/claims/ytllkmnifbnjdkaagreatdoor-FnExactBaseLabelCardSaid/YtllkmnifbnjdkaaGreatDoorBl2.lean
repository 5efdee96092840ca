/-
  labelOfNames of the program.
-/
import Derived.Test.YtllkmnifbnjdkaaGreatDoorBl
namespace Go.Proofs.YtllkmnifbnjdkaaGreatDoor.Bl
open Go.RowKit Pl NmPl Strs Name Nms Ens DtPl DtTx ReadPl Kpz LtI
open Num (Tab)
set_option linter.unusedSimpArgs false
set_option linter.unusedVariables false

set_option maxRecDepth 100000 in
set_option maxHeartbeats 8000000 in
theorem names_i (key : ByteArray) (kind : Int) (auA : Option Addr) (auN : Nat) (auc : Nat) (auL : List Nm) (edA : Option Addr) (edN : Nat) (edc : Nat) (edL : List Nm) (ti : ByteArray) (co : ByteArray) (pu : ByteArray) (y : Int) (m : Int) (d : Int) (ci : Bool) (vol : Int) (pa : ByteArray) (cr : ByteArray) (w : World) (hr : (⟨key, kind, auA, auN, auc, auL, edA, edN, edc, edL, ti, co, pu, y, m, d, ci, vol, pa, cr⟩ : En).Rd w) (hti : ti.size ≤ 1048576) (hf : ∀ x ∈ auL, x.f.size ≤ 1048576) (hN : auN ≤ 1048576) :
    Calls Tryz.prog 53 #[.agg #[.string key, .int .i64 kind, .slice auA auN auc, .slice edA edN edc, .string ti, .string co, .string pu, .int .i64 y, .int .i64 m, .int .i64 d, .bool ci, .int .i64 vol, .string pa, .string cr]] w fun e w' => e = .returned (.string (ba (nmB ti.data.toList (fams auL)))) ∧ Kp w w' := by
  have hb0 : Kp w (w.alloc (.cells #[.string key, .int .i64 kind, .slice auA auN auc, .slice edA edN edc, .string ti, .string co, .string pu, .int .i64 y, .int .i64 m, .int .i64 d, .bool ci, .int .i64 vol, .string pa, .string cr] 33)) := kal (kre _) _
  have HE0 := E14.new w (⟨key, kind, auA, auN, auc, auL, edA, edN, edc, edL, ti, co, pu, y, m, d, ci, vol, pa, cr⟩ : En) 33
  obtain ⟨hrA, hrN, -, -⟩ := hr
  dsimp only at hrA hrN
  have HR := Lib.hid hrA
  have HN := Lib.hid hrN
  have HF := Lib.hid hf
  clear hrA hrN hf
  have HA := Lib.hid (anon_eq ti)
  have HL3 := Lib.hid (fun w => letters_i ti 3 w hti (by omega))
  have hl3 : (ba (fl 3 ti.data.toList)).size ≤ 3 := by rw [ba_size]; exact fl_len _ _
  generalize hW : w.alloc (.cells #[.string key, .int .i64 kind, .slice auA auN auc, .slice edA edN edc, .string ti, .string co, .string pu, .int .i64 y, .int .i64 m, .int .i64 d, .bool ci, .int .i64 vol, .string pa, .string cr] 33) = w0 at *
  obtain ⟨hl, c0, c1, c2, c3, c4, c5, c6, c7, c8, c9, c10, c11, c12, c13⟩ := HE0
  dsimp only at c0 c1 c2 c3 c4 c5 c6 c7 c8 c9 c10 c11 c12 c13
  by_cases h0 : auN = 0
  · have hL : auL = [] := List.eq_nil_of_length_eq_zero (by rw [HN.out, h0])
    subst hL
    subst h0
    generalize ba (fl 3 ti.data.toList) = t at *
    go_enter Tryz.func53, Tryz.ntmps53
    go_wp2_with fail
    (try clear hW)
    refine (HL3.out _).mono ?_
    rintro e w' ⟨rfl, rfl⟩
    have hb1 : Kp w (w0.alloc (.cells #[.string t, .string ⟨#[65, 110, 111, 110]⟩] 9)) := kal hb0 _
    have hrd : RdS (w0.alloc (.cells #[.string t, .string ⟨#[65, 110, 111, 110]⟩] 9)) (some ⟨w0.heap.size, 0, none⟩) [t, ⟨#[65, 110, 111, 110]⟩] := by
      intro j x hx
      refine ⟨w0.heap.size, 0, rfl, ?_⟩
      match j, hx with
      | 0, hx => cases hx; simp
      | 1, hx => cases hx; simp
      | j + 2, hx => simp at hx
    have HO := Lib.hid (orText (some ⟨w0.heap.size, 0, none⟩) 2 t ⟨#[65, 110, 111, 110]⟩ _ hrd (by decide))
    obtain ⟨r9, hr9⟩ : ∃ r9, (if 0 < t.size then t else (⟨#[65, 110, 111, 110]⟩ : ByteArray)) = r9 := ⟨_, rfl⟩
    rw [hr9] at HO HA
    clear hr9 hrd
    go_wp2_with fail
    refine HO.out.mono ?_
    rintro e w' ⟨rfl, rfl⟩
    go_wp2_with fail
    go_ret
    exact ⟨by rw [show fams [] = [] from rfl, HA.out]; rfl, hb1⟩
  · have hd0 : ((auN : Int) == 0) = false := by simp; omega
    by_cases h1 : auN = 1
    · obtain ⟨x, hx⟩ : ∃ x, auL = [x] := List.length_eq_one_iff.1 (by rw [HN.out, h1])
      have hfx := HF.out x (by rw [hx]; exact List.mem_cons_self)
      obtain ⟨-, g, o', rfl, hg, -, -, d2, -⟩ := (HR.out.below hb0) 0 x (by rw [hx]; rfl)
      rw [Nat.zero_mul, Nat.add_zero] at d2
      have HL := Lib.hid (fun w => letters_i x.f 3 w hfx (by omega))
      have HE : Hid (nmB ti.data.toList (fams auL) = fl 3 x.f.data.toList) := Lib.hid (nmB_one hx)
      subst h1
      generalize x.f = xf at *
      clear hx hd0 h0
      go_enter Tryz.func53, Tryz.ntmps53
      go_wp2_with fail
      (try clear hW)
      refine (HL.out _).mono ?_
      rintro e w' ⟨rfl, rfl⟩
      go_wp2_with fail
      go_ret
      exact ⟨by rw [HE.out]; rfl, hb0⟩
    · have hd1 : ((auN : Int) == 1) = false := by simp; omega
      have HE : Hid (nmB ti.data.toList (fams auL) = ((fams auL).map (fl 1)).flatten) := Lib.hid (nmB_many (by rw [HN.out]; omega))
      have HB0 := Lib.hid hb0
      clear hb0
      go_enter Tryz.func53, Tryz.ntmps53
      go_wp2_with fail
      (try clear hW)
      go_loopw [3, 27] (fun v i wr => ∃ (k : Nat) (ob : ByteArray), k ≤ auN ∧ i = .int .i64 k ∧ v = .string ob ∧ Hid (ob = ba (((fams auL).take k).map (fl 1)).flatten) ∧ ob.size ≤ k ∧ Kp w wr) (fun _ i _ => auN - (intOf i).toNat)
      case atStart => exact ⟨0, ⟨#[]⟩, Nat.zero_le _, rfl, rfl, Lib.hid rfl, Nat.zero_le _, HB0.out⟩
      case round =>
        obtain ⟨k, ob, hk, rfl, rfl, HO, ho, hb⟩ := hrel
        by_cases hlt : k < auN
        · obtain ⟨x, hx⟩ : ∃ x, auL[k]? = some x := ⟨_, List.getElem?_eq_getElem (by rw [HN.out]; exact hlt)⟩
          have hfx := HF.out x (List.mem_of_getElem? hx)
          obtain ⟨-, g, o', rfl, hg, d0, d1, d2, d3⟩ := (HR.out.below hb) k x hx
          have HL := Lib.hid (fun w => letters_i x.f 1 w hfx (by omega))
          have hz : (ba (fl 1 x.f.data.toList)).size ≤ 1 := by rw [ba_size]; exact fl_len _ _
          have HS : Hid (ob ++ ba (fl 1 x.f.data.toList) = ba (((fams auL).take (k + 1)).map (fl 1)).flatten) := Lib.hid (by rw [fams_at hx, HO.out, ba_app])
          have hoz : (ob ++ ba (fl 1 x.f.data.toList)).size = ob.size + (ba (fl 1 x.f.data.toList)).size := ByteArray.size_append
          clear hx
          obtain ⟨xA, xn, xc, xxs, xp, xf, xs⟩ := x
          dsimp only at d0 d1 d2 d3 hfx HL hz HS hoz
          have hb1 : Kp w (wr.alloc (.cells #[.slice xA xn xc, .string xp, .string xf, .string xs] 77)) := kal hb _
          generalize ba (fl 1 xf.data.toList) = t at *
          go_wp2_with fail
          refine (HL.out _).mono ?_
          rintro e w' ⟨rfl, rfl⟩
          go_wp2_with fail
          go_roundw
          case rel => exact ⟨k + 1, _, by omega, by go_num, rfl, HS, by omega, hb1⟩
          case measure => (simp [intOf] <;> omega)
        · have HT : Hid (ob = ba ((fams auL).map (fl 1)).flatten) := Lib.hid (by
            have := HO.out
            rw [List.take_of_length_le (by unfold fams; rw [List.length_map, HN.out]; omega)] at this
            exact this)
          go_wp2_with fail
          go_ret
          exact ⟨by rw [HE.out, ← HT.out]; rfl, hb⟩
end Go.Proofs.YtllkmnifbnjdkaaGreatDoor.Bl
