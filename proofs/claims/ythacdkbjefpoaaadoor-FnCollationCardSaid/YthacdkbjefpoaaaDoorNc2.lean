/-
  Contracts of compareNumbers, compareRuns, l8Value, l8Run: how two runs compare.
-/
import Derived.Test.YthacdkbjefpoaaaDoorNc
import Derived.Test.YthacdkbjefpoaaaDoorOr
namespace Go.Proofs.YthacdkbjefpoaaaDoor.Nc
open Go.RowKit Pl NmPl FoPl NcPl Cs Strs Cmp Or2
set_option linter.unusedVariables false
set_option linter.unusedSimpArgs false

/-- how two numbers compare -/
def cnV (x y : List UInt8) : Int := or2 (Lib.compareInt ((st0 x).length : Int) ((st0 y).length : Int)) (cmpS (ba (st0 x)) (ba (st0 y)))
/-- how two runs compare -/
def crV (x y : List UInt8) : Int := if dg (x.headD 0) = true then (if dg (y.headD 0) = true then cnV x y else -1) else if dg (y.headD 0) = true then 1 else cmpS (ba x) (ba y)
theorem trim_i (x : List UInt8) (w : World) : Calls Tryd.prog 57 #[.string (ba x), .string ⟨#[48]⟩] w fun e w' => e = .returned (.string (ba (st0 x))) ∧ w = w' := by
  have := Tryd.strings_TrimLeft_one (ba x) 48 (by decide) w
  rw [toList_ba] at this
  exact this.mono fun _ _ ⟨h1, h2⟩ => ⟨h1, h2.symm⟩
theorem cmpI_i (a b : Int) (w : World) : Calls Tryd.prog 58 #[.int .i64 a, .int .i64 b] w fun e w' => e = .returned (.int .i64 (Lib.compareInt a b)) ∧ w = w' :=
  (Tryd.cmp_Compare_int a b w).mono fun _ _ ⟨h1, h2⟩ => ⟨h1, h2.symm⟩
set_option maxHeartbeats 2000000 in
theorem numbers_i (x y : List UInt8) (w : World) (hx : x.length ≤ 1048576) (hy : y.length ≤ 1048576) :
    Calls Tryd.prog 43 #[.string (ba x), .string (ba y)] w fun e w' => e = .returned (.int .i64 (cnV x y)) ∧ Below w.heap.size w w' := by
  have HE : Hid (cnV x y = or2 (Lib.compareInt ((st0 x).length : Int) ((st0 y).length : Int)) (cmpS (ba (st0 x)) (ba (st0 y)))) := Lib.hid rfl
  have HX := Lib.hid (fun w => trim_i x w)
  have HY := Lib.hid (fun w => trim_i y w)
  have e1 := ba_size (st0 x)
  have e2 := ba_size (st0 y)
  rw [← e1, ← e2] at HE
  have l1 := st0_len x
  have l2 := st0_len y
  rw [← e1] at l1
  rw [← e2] at l2
  clear e1 e2
  generalize ba (st0 x) = p at *
  generalize ba (st0 y) = q at *
  have HC := Lib.hid (fun w => cmpI_i (p.size : Int) (q.size : Int) w)
  have HS := Lib.hid (fun w => compare_i p q w)
  generalize Lib.compareInt (p.size : Int) (q.size : Int) = u at *
  generalize cmpS p q = v at *
  go_enter Tryd.func43, Tryd.ntmps43
  go_wp2_with fail
  refine (HX.out _).mono ?_
  rintro e w1 ⟨rfl, rfl⟩
  go_wp2_with fail
  refine (HY.out _).mono ?_
  rintro e w1 ⟨rfl, rfl⟩
  go_wp2_with fail
  refine (HC.out _).mono ?_
  rintro e w1 ⟨rfl, rfl⟩
  go_wp2_with fail
  refine (HS.out _).mono ?_
  rintro e w1 ⟨rfl, rfl⟩
  go_wp2_with fail
  refine (or_i _ _ u v _ (by simp) (by simp)).mono ?_
  rintro e w1 ⟨rfl, rfl⟩
  go_wp2_with fail
  go_ret
  exact ⟨by rw [HE.out]; rfl, (Below.refl _ _).alloc (Nat.le_refl _) _⟩
theorem ba_at {x : List UInt8} (h : 0 < x.length) : ∃ hs : 0 < (ba x).size, (ba x)[0] = x.headD 0 := by
  have hs : 0 < (ba x).size := by rw [ba_size]; exact h
  refine ⟨hs, ?_⟩
  obtain ⟨r, hr⟩ := cons_of hs
  generalize (ba x)[0] = c at *
  rw [toList_ba] at hr
  rw [hr]; rfl
set_option maxHeartbeats 4000000 in
theorem compareRuns_i (x y : List UInt8) (w : World) (hx0 : 0 < x.length) (hy0 : 0 < y.length) (hx : x.length ≤ 1048576) (hy : y.length ≤ 1048576) :
    Calls Tryd.prog 24 #[.string (ba x), .string (ba y)] w fun e w' => e = .returned (.int .i64 (crV x y)) ∧ Below w.heap.size w w' := by
  have HE : Hid (crV x y = if dg (x.headD 0) = true then (if dg (y.headD 0) = true then cnV x y else -1) else if dg (y.headD 0) = true then 1 else cmpS (ba x) (ba y)) := Lib.hid rfl
  have HN := Lib.hid (fun w => numbers_i x y w hx hy)
  obtain ⟨sx, ex⟩ := ba_at hx0
  obtain ⟨sy, ey⟩ := ba_at hy0
  rw [← ex, ← ey] at HE
  clear ex ey
  generalize cnV x y = n at *
  generalize ba x = X at *
  generalize ba y = Y at *
  have HS := Lib.hid (fun w => compare_i X Y w)
  generalize cmpS X Y = v at *
  have HX := Lib.hid (fun (w : World) => dig_i X[0] (dg X[0]) w rfl)
  have HY := Lib.hid (fun (w : World) => dig_i Y[0] (dg Y[0]) w rfl)
  have bx := X[0].toNat_lt
  have bY := Y[0].toNat_lt
  generalize dg X[0] = p at *
  generalize dg Y[0] = q at *
  have hb0 : ∀ q, Below w.heap.size w (w.drewN q) := fun q => below_drewN (Below.refl _ _) q
  cases p <;> cases q
  · go_enter Tryd.func24, Tryd.ntmps24
    go_wp2_with fail
    go_quiet ((first | (go_at_call 33; with_reducible exact Calls.quiet_of_same (HX.out _)) | (go_at_call 33; with_reducible exact Calls.quiet_of_same (HY.out _))))
    go_wp2_with fail
    refine (HS.out _).mono ?_
    rintro e w1 ⟨rfl, rfl⟩
    go_wp2_with fail
    go_ret
    exact ⟨by rw [HE.out]; rfl, hb0 _⟩
  · go_enter Tryd.func24, Tryd.ntmps24
    go_wp2_with fail
    go_quiet ((first | (go_at_call 33; with_reducible exact Calls.quiet_of_same (HX.out _)) | (go_at_call 33; with_reducible exact Calls.quiet_of_same (HY.out _))))
    go_wp2_with fail
    go_ret
    exact ⟨by rw [HE.out]; rfl, hb0 _⟩
  · go_enter Tryd.func24, Tryd.ntmps24
    go_wp2_with fail
    go_quiet ((first | (go_at_call 33; with_reducible exact Calls.quiet_of_same (HX.out _)) | (go_at_call 33; with_reducible exact Calls.quiet_of_same (HY.out _))))
    go_wp2_with fail
    go_ret
    exact ⟨by rw [HE.out]; rfl, hb0 _⟩
  · go_enter Tryd.func24, Tryd.ntmps24
    go_wp2_with fail
    go_quiet ((first | (go_at_call 33; with_reducible exact Calls.quiet_of_same (HX.out _)) | (go_at_call 33; with_reducible exact Calls.quiet_of_same (HY.out _))))
    go_wp2_with fail
    refine (HN.out _).mono ?_
    rintro e w1 ⟨rfl, b1⟩
    go_wp2_with fail
    go_ret
    exact ⟨by rw [HE.out]; rfl, (hb0 _).trans b1⟩
set_option maxHeartbeats 2000000 in
theorem value_s (s : ByteArray) (w : World) (hs : s.size ≤ 1048576) :
    Calls Tryd.prog 45 #[.string s] w fun e w' => e = .returned (.string (ba (st0 s.data.toList))) ∧ w = w' := by
  go_enter Tryd.func45, Tryd.ntmps45
  go_wp2_with fail
  go_loop [3] (fun i => ∃ k : Nat, k ≤ s.size ∧ i = .int .i64 k ∧ Hid (st0 (s.data.toList.drop k) = st0 s.data.toList)) (fun i => s.size - (intOf i).toNat)
  case atStart => exact ⟨0, Nat.zero_le _, rfl, Lib.hid rfl⟩
  case round =>
    obtain ⟨k, hk, rfl, HK⟩ := hrel
    have HD := Lib.hid (ext_drop s k)
    by_cases hlt : k < s.size
    · have hx := at_list hlt
      have hcl := s[k].toNat_lt
      by_cases h48 : s[k] = 48
      · have HN : Hid (st0 (s.data.toList.drop (k + 1)) = st0 s.data.toList) := Lib.hid (by rw [← HK.out, st0_step hx h48])
        have h48' : ((s[k].toNat : Int) == 48) = true := by rw [h48]; rfl
        clear hx h48
        go_wp2_with fail
        go_round
        case rel => exact ⟨k + 1, by omega, by go_num, HN⟩
        case measure => simp [intOf]; omega
      · have HN : Hid (s.extract k s.size = ba (st0 s.data.toList)) := Lib.hid (by rw [← HK.out, st0_stop hx h48, HD.out])
        have h48' : ((s[k].toNat : Int) == 48) = false := by
          rw [beq_eq_false_iff_ne]
          intro e
          exact h48 (UInt8.toNat_inj.1 (by have : (48 : UInt8).toNat = 48 := rfl; omega))
        clear hx h48
        go_wp2_with fail
        go_ret
        exact ⟨by rw [← HN.out]; rfl, rfl⟩
    · obtain rfl : k = s.size := by omega
      have HN : Hid (ByteArray.empty = ba (st0 s.data.toList)) := Lib.hid (by
        rw [← HK.out]
        have : s.data.toList.drop s.size = [] := by rw [List.drop_eq_nil_iff, len_size]; exact Nat.le_refl _
        rw [this]; rfl)
      go_wp2_with fail
      go_ret
      exact ⟨by rw [← HN.out]; rfl, rfl⟩
theorem cmpI_lt {a b : Nat} (h : a < b) : Lib.compareInt (a : Int) (b : Int) = -1 := by unfold Lib.compareInt; rw [if_pos (by omega)]
theorem cmpI_gt {a b : Nat} (h : b < a) : Lib.compareInt (a : Int) (b : Int) = 1 := by unfold Lib.compareInt; rw [if_neg (by omega), if_pos (by omega)]
theorem cmpI_eq (a : Nat) : Lib.compareInt (a : Int) (a : Int) = 0 := by unfold Lib.compareInt; rw [if_neg (by omega), if_neg (by omega)]
end Go.Proofs.YthacdkbjefpoaaaDoor.Nc
