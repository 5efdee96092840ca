/-
  Contracts of seam, l11Mark, l11Merge, MergeMarks of both.
-/
import Derived.Test.YtnijmhhigkbddaaDoorMq
namespace Go.Proofs.YtnijmhhigkbddaaDoor.Mq
open Go.RowKit Pl NmPl MqPl
set_option linter.unusedSimpArgs false
set_option linter.unusedVariables false

/-- 'string([]byte{a, b})' of a new row -/
theorem two_str (a b : UInt8) (w : World) : (convert 22 9 (.slice (some ⟨w.heap.size, 0, none⟩) 2 2)).run Tryd.prog (w.alloc (.cells #[.int .u8 a.toNat, .int .u8 b.toNat] 5)) = .ok (.string (ba [a, b])) (w.alloc (.cells #[.int .u8 a.toNat, .int .u8 b.toNat] 5)) :=
  run_convert_bytes_back _ 22 9 5 ⟨w.heap.size, 0, none⟩ 2 [a, b] Tryd.underlying22 Tryd.underlying5 Tryd.underlying9 (fun j hj => by
    rcases j with _ | _ | j
    · simp [Addr.add]
    · simp [Addr.add]
    · simp at hj; omega)
theorem one_str (a : UInt8) (w : World) : (convert 22 9 (.slice (some ⟨w.heap.size, 0, none⟩) 1 1)).run Tryd.prog (w.alloc (.cells #[.int .u8 a.toNat] 5)) = .ok (.string (ba [a])) (w.alloc (.cells #[.int .u8 a.toNat] 5)) :=
  run_convert_bytes_back _ 22 9 5 ⟨w.heap.size, 0, none⟩ 1 [a] Tryd.underlying22 Tryd.underlying5 Tryd.underlying9 (fun j hj => by
    rcases j with _ | j
    · simp [Addr.add]
    · simp at hj)
theorem ne_nat {a : UInt8} {n : Nat} (h : a.toNat ≠ n) : ((a.toNat : Int) == (n : Int)) = false := by rw [beq_eq_false_iff_ne]; omega
set_option maxHeartbeats 2000000 in
theorem seam_i (a b : UInt8) (w : World) (ht : MarkTab w) : Calls Tryd.prog 29 #[.int .u8 a.toNat, .int .u8 b.toNat] w fun e w' => e = .returned (.string (ba (sm a b))) ∧ Below w.heap.size w w' := by
  have HT := Lib.hid ht
  have HR := Lib.hid (rep_i a b w ht)
  have hcv := two_str a b
  clear ht
  by_cases h : a = 32 ∧ b = 32
  · obtain ⟨rfl, rfl⟩ := h
    clear hcv
    have HE : Hid (ba (sm 32 32) = ⟨#[32]⟩) := Lib.hid rfl
    go_enter Tryd.func29, Tryd.ntmps29
    go_wp2_with fail
    go_ret
    exact ⟨by rw [HE.out]; rfl, Below.refl _ _⟩
  · have HE : Hid (sm a b = mg a b) := Lib.hid (if_neg h)
    have hq : ((a.toNat : Int) == 32) = false ∨ (((a.toNat : Int) == 32) = true ∧ ((b.toNat : Int) == 32) = false) := by
      by_cases ha : a = 32
      · refine .inr ⟨by subst ha; rfl, ?_⟩
        have hb : b ≠ 32 := fun hb => h ⟨ha, hb⟩
        rw [beq_eq_false_iff_ne]; intro e; exact hb (UInt8.toNat_inj.1 (show b.toNat = (32 : UInt8).toNat by have : (32 : UInt8).toNat = 32 := rfl; omega))
      · refine .inl ?_
        rw [beq_eq_false_iff_ne]; intro e; exact ha (UInt8.toNat_inj.1 (show a.toNat = (32 : UInt8).toNat by have : (32 : UInt8).toNat = 32 := rfl; omega))
    clear h
    rw [HE.out]
    cases hr : rm a b with
    | none =>
      have HM : Hid (mg a b = [a, b]) := Lib.hid (by unfold mg; rw [hr])
      have HV : Hid (rmV a b = .tuple #[.int .u8 0, .bool false]) := Lib.hid (by unfold rmV; rw [hr])
      rw [HV.out] at HR
      clear hr
      rcases hq with hq | ⟨hq, hq2⟩
      all_goals
        go_enter Tryd.func29, Tryd.ntmps29
        go_wp2_with fail
        refine HR.out.mono ?_
        rintro e w' ⟨rfl, rfl⟩
        go_wp2_with fail
        go_ret
        exact ⟨by rw [HM.out]; rfl, (Below.refl _ _).alloc (Nat.le_refl _) _⟩
    | some x =>
      have HM : Hid (ba (mg a b) = ba [x]) := Lib.hid (by unfold mg; rw [hr])
      have HV : Hid (rmV a b = .tuple #[.int .u8 x.toNat, .bool true]) := Lib.hid (by unfold rmV; rw [hr])
      have HX := Lib.hid (enc_one x (rm_facts hr).1)
      rw [HV.out] at HR
      clear hr hcv
      rcases hq with hq | ⟨hq, hq2⟩
      all_goals
        go_enter Tryd.func29, Tryd.ntmps29
        go_wp2_with fail
        refine HR.out.mono ?_
        rintro e w' ⟨rfl, rfl⟩
        go_wp2_with fail
        go_ret
        exact ⟨by rw [HM.out, ← HX.out]; rfl, Below.refl _ _⟩
/-- what stands ahead of place k is not c -/
def nob (c : UInt8) (k : Nat) : Prop := ∀ j, j < k → allM[j]? ≠ some c
theorem mI_end {c : UInt8} (h : nob c 6) : mI c.toNat = -1 := by
  have h2 : ∀ n, n < 256 → (∀ j, j < 6 → allM[j]? ≠ some (UInt8.ofNat n)) → mI n = -1 := by decide +kernel
  refine h2 c.toNat c.toNat_lt (fun j hj => ?_)
  rw [UInt8.ofNat_toNat]
  exact h j hj
theorem mI_hit (k : Nat) (c : UInt8) (h : allM[k]? = some c) : mI c.toNat = (k : Int) := by
  have h2 : ∀ k, k < 6 → allM[k]? = some (allM.getD k 0) ∧ mI (allM.getD k 0).toNat = (k : Int) := by decide +kernel
  have hk : k < 6 := (List.getElem?_eq_some_iff.1 h).1
  obtain ⟨h3, h4⟩ := h2 k hk
  rw [h3] at h
  rw [← Option.some.inj h]
  exact h4
theorem nob_next {c : UInt8} {k : Nat} (h : nob c k) (h2 : allM[k]? ≠ some c) : nob c (k + 1) := by
  intro j hj
  rcases Nat.lt_or_ge j k with h3 | h3
  · exact h j h3
  · have : j = k := by omega
    subst this; exact h2
theorem u8_ne {x c : UInt8} (h : x ≠ c) : ((x.toNat : Int) == (c.toNat : Int)) = false := by
  rw [beq_eq_false_iff_ne]; intro e; exact h (UInt8.toNat_inj.1 (by omega))
theorem u8_eq {x c : UInt8} (h : x = c) : ((x.toNat : Int) == (c.toNat : Int)) = true := by subst h; simp
set_option maxHeartbeats 2000000 in
theorem mark_s (c : UInt8) (z : Int) (w : World) (hz : mI c.toNat = z) : Calls Tryd.prog 28 #[.int .u8 c.toNat] w fun e w' => e = .returned (.int .i64 z) ∧ w = w' := by
  have HZ := Lib.hid hz
  clear hz
  obtain ⟨m, HM⟩ : ∃ m : ByteArray, Hid (m = ⟨#[46, 44, 59, 58, 33, 63]⟩) := ⟨_, Lib.hid rfl⟩
  have hms : m.size = 6 := by rw [HM.out]; rfl
  have HG : Hid (∀ k (hk : k < m.size), allM[k]? = some m[k]) := Lib.hid (fun k hk => by
    have e : m.data.toList = allM := by rw [HM.out]; rfl
    rw [← e, List.getElem?_eq_getElem (by rw [len_size]; exact hk)]; rfl)
  go_enter Tryd.func28, Tryd.ntmps28
  rw [← HM.out]
  go_wp2_with fail
  go_loop [4] (fun i => ∃ k : Nat, k ≤ 6 ∧ i = .int .i64 k ∧ Hid (nob c k)) (fun i => 6 - (intOf i).toNat)
  case atStart => exact ⟨0, by omega, rfl, Lib.hid (fun j hj => absurd hj (Nat.not_lt_zero _))⟩
  case round =>
    obtain ⟨k, hk, rfl, HN⟩ := hrel
    by_cases hlt : k < 6
    · have hks : k < m.size := by omega
      have HGk := Lib.hid (HG.out k hks)
      by_cases he : m[k] = c
      · have hb := u8_eq he
        have HA : Hid (z = (k : Int)) := Lib.hid (by rw [← HZ.out]; exact mI_hit k c (by rw [HGk.out, he]))
        clear he
        go_wp2_with fail
        go_ret
        exact ⟨by rw [HA.out]; rfl, rfl⟩
      · have hb := u8_ne he
        have HN2 := Lib.hid (nob_next HN.out (by rw [HGk.out]; intro e; exact he (Option.some.inj e)))
        clear he
        go_wp2_with fail
        go_round
        case rel => exact ⟨k + 1, by omega, by go_num, HN2⟩
        case measure => simp [intOf]; omega
    · have hk6 : k = 6 := by omega
      have HA : Hid (z = -1) := Lib.hid (by rw [← HZ.out]; exact mI_end (hk6 ▸ HN.out))
      clear hk6
      go_wp2_with fail
      go_ret
      exact ⟨by rw [HA.out]; rfl, rfl⟩
theorem mark_q (c : UInt8) (z : Int) (w : World) (hz : mI c.toNat = z) : Calls Tryd.prog 28 #[.int .u8 c.toNat] w fun e w' => e = .returned (.int .i64 z) ∧ w' = w :=
  (mark_s c z w hz).mono fun _ _ ⟨he, hw⟩ => ⟨he, hw.symm⟩
end Go.Proofs.YtnijmhhigkbddaaDoor.Mq
