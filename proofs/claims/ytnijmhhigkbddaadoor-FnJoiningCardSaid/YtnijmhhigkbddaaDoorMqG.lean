/-
  Contracts of l11Merge; MergeMarks of both.
-/
import Derived.Test.YtnijmhhigkbddaaDoorMqM
namespace Go.Proofs.YtnijmhhigkbddaaDoor.Mq
open Go.RowKit Pl NmPl MqPl
set_option linter.unusedSimpArgs false
set_option linter.unusedVariables false

theorem below_drewN {B : Nat} {a w : World} (h : Below B a w) (n : Nat) : Below B a (w.drewN n) := h.trans ⟨rfl, rfl, rfl, Nat.le_refl _, fun _ _ => rfl⟩
/-- a row of the table as the model writes it -/
def rowB (i : Nat) : ByteArray := ba (rowsM.getD i [])
theorem rowB_size {i : Nat} (hi : i < 6) : (rowB i).size = 6 := by unfold rowB; rw [ba_size]; exact rows_len i hi
theorem at_of (s : ByteArray) (l : List UInt8) (e : s.data.toList = l) (j : Nat) (h : j < s.size) : s[j] = l.getD j 0 := by
  have h1 : s.data.toList[j]? = some s[j] := by rw [List.getElem?_eq_getElem (by rw [len_size]; exact h)]; rfl
  rw [e] at h1
  rw [List.getD_eq_getElem?_getD, h1]; rfl
theorem rowB_at {i j : Nat} (hi : i < 6) (hj : j < 6) (h : j < (rowB i).size) : (rowB i)[j] = if tb i j = 0 then 32 else tb i j := by
  rw [← rows_tb i hi j hj]
  exact at_of (rowB i) _ (toList_ba _) j h
/-- the world behind the model's rows -/
def rowsW (w : World) : World := w.alloc (.cells #[.string ⟨#[46, 32, 32, 32, 33, 63]⟩, .string ⟨#[46, 44, 59, 58, 33, 63]⟩, .string ⟨#[46, 59, 59, 58, 33, 63]⟩, .string ⟨#[58, 58, 59, 58, 33, 63]⟩, .string ⟨#[33, 33, 32, 32, 33, 32]⟩, .string ⟨#[63, 63, 32, 32, 32, 63]⟩] 9)
theorem rowsW_cell (w : World) {i : Nat} (hi : i < 6) : (rowsW w).cell? ⟨w.heap.size, i, none⟩ = some (.string (rowB i)) := by
  rcases i with _ | _ | _ | _ | _ | _ | i
  all_goals first | omega | (simp [rowsW]; rfl)
set_option maxHeartbeats 2000000 in
theorem merge_s (a b : UInt8) (w : World) (ha : isM a = true) (hb : isM b = true) : Calls Tryd.prog 30 #[.int .u8 a.toNat, .int .u8 b.toNat] w fun e w' => e = .returned (.string (ba (mg a b))) ∧ Below w.heap.size w w' := by
  obtain ⟨i, hi, hia⟩ : ∃ i : Nat, i < 6 ∧ mI a.toNat = (i : Int) := by
    rcases mI_cases a.toNat with h | h
    · rw [isM_eq h] at ha; exact absurd ha (by decide)
    · exact h
  obtain ⟨j, hj, hjb⟩ : ∃ j : Nat, j < 6 ∧ mI b.toNat = (j : Int) := by
    rcases mI_cases b.toNat with h | h
    · rw [isM_eq h] at hb; exact absurd hb (by decide)
    · exact h
  have HA := Lib.hid (fun w => mark_q a i w hia)
  have HB := Lib.hid (fun w => mark_q b j w hjb)
  have HR := Lib.hid (rm_at hia hjb)
  have hcell := rowsW_cell w hi
  have hsz := rowB_size hi
  have hjs : j < (rowB i).size := by rw [hsz]; exact hj
  have HX := Lib.hid (rowB_at hi hj hjs)
  obtain ⟨R, HRw⟩ : ∃ R, Hid (R = rowB i) := ⟨_, Lib.hid rfl⟩
  rw [← HRw.out] at hcell hsz
  have hjs' : j < R.size := by rw [hsz]; exact hj
  have HX2 : Hid (R[j] = if tb i j = 0 then 32 else tb i j) := Lib.hid (by obtain rfl := HRw.out; exact HX.out)
  have HBl : Hid (Below w.heap.size w (rowsW w)) := Lib.hid ((Below.refl _ w).alloc (Nat.le_refl _) _)
  clear ha hb hia hjb hjs HX
  go_enter Tryd.func30, Tryd.ntmps30
  go_wp2_with fail
  unfold rowsW at hcell HBl
  generalize w.alloc _ = w0 at hcell HBl ⊢
  have HCW := Lib.hid (two_str a b)
  by_cases h0 : tb i j = 0
  · rw [if_pos h0] at HR HX2
    have HG : Hid (mg a b = [a, b]) := Lib.hid (by unfold mg; rw [HR.out])
    have hx : (R[j].toNat : Int) = 32 := by rw [HX2.out]; rfl
    clear h0 HR HX2
    go_quiet ((first | (go_at_call 28; with_reducible exact Calls.quiet_of_same (HA.out _)) | (go_at_call 28; with_reducible exact Calls.quiet_of_same (HB.out _))))
    have HB1 := Lib.hid (below_drewN HBl.out nq)
    clear HBl hcell
    generalize w0.drewN nq = w1 at *
    have hcw := HCW.out
    go_wp2_with fail
    go_ret
    exact ⟨by rw [HG.out]; rfl, HB1.out.trans ((Below.refl _ _).alloc HB1.out.size _)⟩
  · rw [if_neg h0] at HR HX2
    have HG : Hid (mg a b = [R[j]]) := Lib.hid (by unfold mg; rw [HR.out, HX2.out])
    have hne := (tb_facts i hi j hj).2.1
    have hx : ((R[j].toNat : Int) == 32) = false := by
      rw [HX2.out, beq_eq_false_iff_ne]; intro e; exact hne (UInt8.toNat_inj.1 (show (tb i j).toNat = (32 : UInt8).toNat by have : (32 : UInt8).toNat = 32 := rfl; omega))
    have HHx := Lib.hid hx
    clear h0 HR hne HX2 hx hsz
    generalize hRx : R[j] = x at *
    have HRx := Lib.hid hRx
    have hx := HHx.out
    go_quiet ((first | (go_at_call 28; with_reducible exact Calls.quiet_of_same (HA.out _)) | (go_at_call 28; with_reducible exact Calls.quiet_of_same (HB.out _))))
    have HB1 := Lib.hid (below_drewN HBl.out nq)
    clear HBl hcell
    generalize w0.drewN nq = w1 at *
    have hco := one_str x
    go_wp2_with fail
    go_ret
    exact ⟨by rw [HG.out]; rfl, HB1.out.trans ((Below.refl _ _).alloc HB1.out.size _)⟩
/-- what MergeMarks answers -/
def mmV (a b : UInt8) : Value := if isM a = true ∧ isM b = true then .tuple #[.string (ba (mg a b)), .bool true] else .tuple #[.string ⟨#[]⟩, .bool false]
theorem mmV_form (a b : UInt8) : ∃ s r, mmV a b = .tuple #[.string s, .bool r] := by unfold mmV; split <;> exact ⟨_, _, rfl⟩
theorem isM_z {c : UInt8} {r : Bool} (h : isM c = r) : ∃ z, mI c.toNat = z ∧ decide (z < 0) = (!r) := by
  refine ⟨_, rfl, ?_⟩
  subst h
  unfold isM
  rw [Bool.eq_iff_iff]; simp
set_option maxHeartbeats 2000000 in
theorem merges_i (a b : UInt8) (w : World) (ht : MarkTab w) : Calls Tryd.prog 15 #[.int .u8 a.toNat, .int .u8 b.toNat] w fun e w' => e = .returned (mmV a b) ∧ Below w.heap.size w w' := by
  have HT := Lib.hid ht
  have HA := Lib.hid (fun r h w => isMark_i a r w h)
  have HB := Lib.hid (fun r h w => isMark_i b r w h)
  have HS := Lib.hid (seam_i a b w ht)
  clear ht
  cases ha : isM a with
  | false =>
    have HE : Hid (mmV a b = .tuple #[.string ⟨#[]⟩, .bool false]) := Lib.hid (by unfold mmV; rw [if_neg (by simp [ha])])
    have HA' := Lib.hid (HA.out false ha)
    clear ha
    go_enter Tryd.func15, Tryd.ntmps15
    go_wp2_with fail
    refine (HA'.out _).mono ?_
    rintro e w' ⟨rfl, rfl⟩
    go_wp2_with fail
    go_ret2
    exact ⟨by rw [HE.out]; rfl, Below.refl _ _⟩
  | true =>
    have HA' := Lib.hid (HA.out true ha)
    cases hb : isM b with
    | false =>
      have HE : Hid (mmV a b = .tuple #[.string ⟨#[]⟩, .bool false]) := Lib.hid (by unfold mmV; rw [if_neg (by simp [hb])])
      have HB' := Lib.hid (HB.out false hb)
      clear ha hb
      go_enter Tryd.func15, Tryd.ntmps15
      go_wp2_with fail
      refine (HA'.out _).mono ?_
      rintro e w' ⟨rfl, rfl⟩
      go_wp2_with fail
      refine (HB'.out _).mono ?_
      rintro e w' ⟨rfl, rfl⟩
      go_wp2_with fail
      go_ret2
      exact ⟨by rw [HE.out]; rfl, Below.refl _ _⟩
    | true =>
      have HE : Hid (mmV a b = .tuple #[.string (ba (mg a b)), .bool true]) := Lib.hid (by unfold mmV; rw [if_pos ⟨ha, hb⟩])
      have HB' := Lib.hid (HB.out true hb)
      have HM : Hid (sm a b = mg a b) := Lib.hid (by
        unfold sm; rw [if_neg]
        rintro ⟨h, -⟩
        subst h
        rw [m32] at ha; cases ha)
      rw [HM.out] at HS
      clear ha hb
      go_enter Tryd.func15, Tryd.ntmps15
      go_wp2_with fail
      refine (HA'.out _).mono ?_
      rintro e w' ⟨rfl, rfl⟩
      go_wp2_with fail
      refine (HB'.out _).mono ?_
      rintro e w' ⟨rfl, rfl⟩
      go_wp2_with fail
      refine HS.out.mono ?_
      rintro e w1 ⟨rfl, b1⟩
      go_wp2_with fail
      go_ret2
      exact ⟨by rw [HE.out]; rfl, b1⟩
set_option maxHeartbeats 2000000 in
theorem merges_s (a b : UInt8) (w : World) : Calls Tryd.prog 16 #[.int .u8 a.toNat, .int .u8 b.toNat] w fun e w' => e = .returned (mmV a b) ∧ Below w.heap.size w w' := by
  obtain ⟨za, hza, hda⟩ := isM_z (c := a) rfl
  obtain ⟨zb, hzb, hdb⟩ := isM_z (c := b) rfl
  have HA := Lib.hid (fun w => mark_s a za w hza)
  have HB := Lib.hid (fun w => mark_s b zb w hzb)
  have HS := Lib.hid (fun h1 h2 => merge_s a b w h1 h2)
  clear hza hzb
  cases ha : isM a with
  | false =>
    have HE : Hid (mmV a b = .tuple #[.string ⟨#[]⟩, .bool false]) := Lib.hid (by unfold mmV; rw [if_neg (by simp [ha])])
    rw [ha] at hda
    simp only [Bool.not_false] at hda
    clear ha hdb
    go_enter Tryd.func16, Tryd.ntmps16
    go_wp2_with fail
    refine (HA.out _).mono ?_
    rintro e w' ⟨rfl, rfl⟩
    go_wp2_with fail
    go_ret2
    exact ⟨by rw [HE.out]; rfl, Below.refl _ _⟩
  | true =>
    cases hb : isM b with
    | false =>
      have HE : Hid (mmV a b = .tuple #[.string ⟨#[]⟩, .bool false]) := Lib.hid (by unfold mmV; rw [if_neg (by simp [hb])])
      rw [ha] at hda
      rw [hb] at hdb
      simp only [Bool.not_false, Bool.not_true] at hda hdb
      clear ha hb
      go_enter Tryd.func16, Tryd.ntmps16
      go_wp2_with fail
      refine (HA.out _).mono ?_
      rintro e w' ⟨rfl, rfl⟩
      go_wp2_with fail
      refine (HB.out _).mono ?_
      rintro e w' ⟨rfl, rfl⟩
      go_wp2_with fail
      go_ret2
      exact ⟨by rw [HE.out]; rfl, Below.refl _ _⟩
    | true =>
      have HE : Hid (mmV a b = .tuple #[.string (ba (mg a b)), .bool true]) := Lib.hid (by unfold mmV; rw [if_pos ⟨ha, hb⟩])
      have HS' := Lib.hid (HS.out ha hb)
      rw [ha] at hda
      rw [hb] at hdb
      simp only [Bool.not_true] at hda hdb
      clear ha hb
      go_enter Tryd.func16, Tryd.ntmps16
      go_wp2_with fail
      refine (HA.out _).mono ?_
      rintro e w' ⟨rfl, rfl⟩
      go_wp2_with fail
      refine (HB.out _).mono ?_
      rintro e w' ⟨rfl, rfl⟩
      go_wp2_with fail
      refine HS'.out.mono ?_
      rintro e w1 ⟨rfl, b1⟩
      go_wp2_with fail
      go_ret2
      exact ⟨by rw [HE.out]; rfl, b1⟩
end Go.Proofs.YtnijmhhigkbddaaDoor.Mq
