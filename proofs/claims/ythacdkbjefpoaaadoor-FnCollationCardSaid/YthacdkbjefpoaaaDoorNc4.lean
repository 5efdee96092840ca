/-
  Contracts of NaturalCompare of both.
-/
import Derived.Test.YthacdkbjefpoaaaDoorNc3
import Derived.Test.YthacdkbjefpoaaaDoorNcS
namespace Go.Proofs.YthacdkbjefpoaaaDoor.Nc
open Go.RowKit Pl NmPl FoPl NcPl Cs Strs Cmp Or2
set_option linter.unusedVariables false
set_option linter.unusedSimpArgs false

theorem runsGo_le (k : Bool) : ∀ (r cur : List UInt8), ∀ x ∈ runsGo k cur r, x.length ≤ cur.length + r.length
  | [], cur, x, hx => by simp [runsGo] at hx; rw [hx]; simp
  | c :: r, cur, x, hx => by
    unfold runsGo at hx
    split at hx
    · have := runsGo_le k r _ x hx; simp at this ⊢; omega
    · rcases List.mem_cons.1 hx with rfl | hx
      · simp
      · have := runsGo_le _ r _ x hx; simp at this ⊢; omega
theorem runs_ok {s : ByteArray} (hs : s.size ≤ 1048576) : okR (runs s.data.toList) := fun x hx => by
  refine ⟨List.length_pos_iff.2 (runs_ne _ x hx), ?_⟩
  have hl := len_size s
  generalize s.data.toList = l at *
  cases l with
  | nil => cases hx
  | cons c r => have := runsGo_le _ r _ x hx; simp at this hl; omega
def ncV (a b : ByteArray) : Value := if a.size ≤ 40 ∧ b.size ≤ 40 then .tuple #[.int .i64 (or2 (crL (runs a.data.toList) (runs b.data.toList)) (cmpS a b)), .bool true] else .tuple #[.int .i64 0, .bool false]
theorem nc_form (a b : ByteArray) : ∃ t r, ncV a b = .tuple #[.int .i64 t, .bool r] := by unfold ncV; split <;> exact ⟨_, _, rfl⟩
set_option maxHeartbeats 4000000 in
theorem natural_i (a b : ByteArray) (w : World) (ha : a.size ≤ 1048576) (hb : b.size ≤ 1048576) :
    Calls Tryd.prog 12 #[.string a, .string b] w fun e w' => e = .returned (ncV a b) ∧ Below w.heap.size w w' := by
  by_cases h1 : a.size ≤ 40
  · by_cases h2 : b.size ≤ 40
    · have HE : Hid (ncV a b = .tuple #[.int .i64 (or2 (crL (runs a.data.toList) (runs b.data.toList)) (cmpS a b)), .bool true]) := Lib.hid (by unfold ncV; rw [if_pos ⟨h1, h2⟩])
      have HA := Lib.hid (fun w => runs_i a w ha)
      have HB := Lib.hid (fun w => runs_i b w hb)
      have OA := Lib.hid (runs_ok ha)
      have OB := Lib.hid (runs_ok hb)
      have LA := Lib.hid (runs_len a.data.toList)
      have LB := Lib.hid (runs_len b.data.toList)
      rw [len_size] at LA LB
      have HC := Lib.hid (fun w => compare_i a b w)
      generalize cmpS a b = v at *
      generalize runs a.data.toList = X at *
      generalize runs b.data.toList = Y at *
      go_enter Tryd.func12, Tryd.ntmps12
      go_wp2_with fail
      refine (HA.out _).mono ?_
      rintro e w1 ⟨v1, rfl, o1, b1⟩
      obtain ⟨A, c, rfl, r1, c1⟩ := rl_own o1
      go_wp2_with fail
      refine (HB.out _).mono ?_
      rintro e w2 ⟨v2, rfl, o2, b2⟩
      obtain ⟨B, d, rfl, r2, c2⟩ := rl_own o2
      have b12 := b1.trans (b2.mono b1.size)
      have HF := Lib.hid (func_i A B c d X Y w2 (r1.below b2) r2 OA.out OB.out (by have := LA.out; omega) (by have := LB.out; omega) c1 c2)
      generalize crL X Y = z at *
      go_wp2_with fail
      refine HF.out.mono ?_
      rintro e w3 ⟨rfl, b3⟩
      have b13 := b12.trans (b3.mono b12.size)
      go_wp2_with fail
      refine (HC.out _).mono ?_
      rintro e w4 ⟨rfl, rfl⟩
      go_wp2_with fail
      refine (or_i _ _ z v _ (by simp) (by simp)).mono ?_
      rintro e w4 ⟨rfl, rfl⟩
      go_wp2_with fail
      go_ret2
      exact ⟨by rw [HE.out]; rfl, b13.alloc b13.size _⟩
    · have HE : Hid (ncV a b = .tuple #[.int .i64 0, .bool false]) := Lib.hid (by unfold ncV; rw [if_neg (fun h => h2 h.2)])
      go_enter Tryd.func12, Tryd.ntmps12
      go_wp2_with fail
      go_ret2
      exact ⟨by rw [HE.out]; rfl, Below.refl _ _⟩
  · have HE : Hid (ncV a b = .tuple #[.int .i64 0, .bool false]) := Lib.hid (by unfold ncV; rw [if_neg (fun h => h1 h.1)])
    go_enter Tryd.func12, Tryd.ntmps12
    go_wp2_with fail
    go_ret2
    exact ⟨by rw [HE.out]; rfl, Below.refl _ _⟩
set_option maxHeartbeats 8000000 in
theorem natural_s (a b : ByteArray) (w : World) (ha : a.size ≤ 1048576) (hb : b.size ≤ 1048576) :
    Calls Tryd.prog 13 #[.string a, .string b] w fun e w' => e = .returned (ncV a b) ∧ Below w.heap.size w w' := by
  by_cases h1 : a.size ≤ 40
  · by_cases h2 : b.size ≤ 40
    · have HE : Hid (ncV a b = .tuple #[.int .i64 (or2 (crL (runs a.data.toList) (runs b.data.toList)) (cmpS a b)), .bool true]) := Lib.hid (by unfold ncV; rw [if_pos ⟨h1, h2⟩])
      have HA := Lib.hid (fun w => runs_s a w ha)
      have HB := Lib.hid (fun w => runs_s b w hb)
      have OA := Lib.hid (runs_ok ha)
      have OB := Lib.hid (runs_ok hb)
      have LA := Lib.hid (runs_len a.data.toList)
      have LB := Lib.hid (runs_len b.data.toList)
      rw [len_size] at LA LB
      have HC := Lib.hid (fun w => l2Text_any a b w)
      generalize cmpS a b = v at *
      generalize runs a.data.toList = X at *
      generalize runs b.data.toList = Y at *
      go_enter Tryd.func13, Tryd.ntmps13
      go_wp2_with fail
      refine (HA.out _).mono ?_
      rintro e w1 ⟨v1, rfl, o1, b1⟩
      obtain ⟨A, c, rfl, r1, c1⟩ := rl_own o1
      go_wp2_with fail
      refine (HB.out _).mono ?_
      rintro e w2 ⟨v2, rfl, o2, b2⟩
      obtain ⟨B, d, rfl, r2, c2⟩ := rl_own o2
      have b12 := b1.trans (b2.mono b1.size)
      have R1 := Lib.hid (r1.below b2)
      have R2 := Lib.hid r2
      obtain ⟨n, HN⟩ : ∃ n, Hid (n = X.length) := ⟨_, Lib.hid rfl⟩
      obtain ⟨m, HM⟩ : ∃ m, Hid (m = Y.length) := ⟨_, Lib.hid rfl⟩
      have hn4 : n ≤ 40 := by have := LA.out; have := HN.out; omega
      have hm4 : m ≤ 40 := by have := LB.out; have := HM.out; omega
      have hcn : n ≤ c := by have := HN.out; omega
      have hdm : m ≤ d := by have := HM.out; omega
      rw [← HN.out, ← HM.out]
      clear o1 o2 c1 c2 r1 r2 b1 b2 HA HB LA LB
      go_wp2_with fail
      go_loopw [8] (fun i wr => ∃ k : Nat, k ≤ n ∧ k ≤ m ∧ i = .int .i64 k ∧ Hid (crL (X.drop k) (Y.drop k) = crL X Y) ∧ Hid (∃ q, wr = w2.drewN q)) (fun i _ => n - (intOf i).toNat)
      case atStart => exact ⟨0, Nat.zero_le _, Nat.zero_le _, rfl, Lib.hid rfl, Lib.hid ⟨0, rfl⟩⟩
      case round =>
        obtain ⟨k, hk, hkm, rfl, HD, HQ⟩ := hrel
        have hbw : Below w2.heap.size w2 wr := by obtain ⟨q, e⟩ := HQ.out; rw [e]; exact below_drewN (Below.refl _ _) q
        have hbq := b12.trans (hbw.mono b12.size)
        by_cases hlt : k < n
        · by_cases hm : k < m
          · obtain ⟨x, hx⟩ : ∃ x, X[k]? = some x := ⟨_, List.getElem?_eq_getElem (by rw [← HN.out]; exact hlt)⟩
            obtain ⟨g, o, rfl, hc0⟩ := (R1.out.below hbw) k x hx
            have hkc : k < c := by omega
            obtain ⟨y, hy⟩ : ∃ y, Y[k]? = some y := ⟨_, List.getElem?_eq_getElem (by rw [← HM.out]; exact hm)⟩
            obtain ⟨g2, o2, rfl, hd0⟩ := (R2.out.below hbw) k y hy
            have hkd : k < d := by omega
            obtain ⟨x0, x1⟩ := OA.out x (List.mem_of_getElem? hx)
            obtain ⟨y0, y1⟩ := OB.out y (List.mem_of_getElem? hy)
            have HK := Lib.hid (fun w => run_s x y w x0 y0 x1 y1)
            have HCr := Lib.hid (crL_at hx hy)
            clear hx hy x0 x1 y0 y1
            generalize crV x y = r at *
            generalize ba x = S at *
            generalize ba y = T at *
            by_cases h0 : r = 0
            · subst h0
              rw [if_pos rfl] at HCr
              have HD' : Hid (crL (X.drop (k + 1)) (Y.drop (k + 1)) = crL X Y) := Lib.hid (by rw [← HD.out, HCr.out])
              clear HCr HD
              go_wp2_with fail
              go_quiet ((go_at_call 27; with_reducible exact Calls.quiet_of (HK.out _)))
              go_wp2_with fail
              go_roundw
              case rel => exact ⟨k + 1, by omega, by omega, by go_num, HD', Lib.hid (drew_more HQ.out _)⟩
              case measure => simp [intOf]; omega
            · have hr : (r != 0) = true := by rw [bne_iff_ne]; exact h0
              rw [if_neg h0] at HCr
              have HD' : Hid (or2 (crL X Y) v = r) := Lib.hid (by rw [← HD.out, HCr.out]; unfold or2; rw [if_pos h0])
              clear HCr HD h0
              go_wp2_with fail
              go_quiet ((go_at_call 27; with_reducible exact Calls.quiet_of (HK.out _)))
              go_wp2_with fail
              go_ret2
              exact ⟨by rw [HE.out, HD'.out]; rfl, below_drewN hbq _⟩
          · have HD' : Hid (or2 (crL X Y) v = 1) := Lib.hid (by rw [← HD.out, crL_gt (by rw [← HN.out]; exact hlt) (by rw [← HM.out]; omega)]; rfl)
            have hg : decide (n < m) = false := by simp; omega
            have hg2 : decide (m < n) = true := by simp; omega
            go_wp2_with fail
            go_ret2
            exact ⟨by rw [HE.out, HD'.out]; rfl, hbq⟩
        · obtain rfl : k = n := by omega
          by_cases hm : k < m
          · have HD' : Hid (or2 (crL X Y) v = -1) := Lib.hid (by rw [← HD.out, crL_lt (by rw [← HN.out]; exact Nat.le_refl _) (by rw [← HM.out]; exact hm)]; rfl)
            go_wp2_with fail
            go_ret2
            exact ⟨by rw [HE.out, HD'.out]; rfl, hbq⟩
          · obtain rfl : k = m := by omega
            have HD' : Hid (or2 (crL X Y) v = v) := Lib.hid (by rw [← HD.out, crL_eq (by rw [← HN.out]; exact Nat.le_refl _) (by rw [← HM.out]; exact Nat.le_refl _)]; rfl)
            go_wp2_with fail
            refine (HC.out _).mono ?_
            rintro e w4 ⟨rfl, rfl⟩
            go_wp2_with fail
            go_ret2
            exact ⟨by rw [HE.out, HD'.out]; rfl, hbq⟩
    · have HE : Hid (ncV a b = .tuple #[.int .i64 0, .bool false]) := Lib.hid (by unfold ncV; rw [if_neg (fun h => h2 h.2)])
      go_enter Tryd.func13, Tryd.ntmps13
      go_wp2_with fail
      go_ret2
      exact ⟨by rw [HE.out]; rfl, Below.refl _ _⟩
  · have HE : Hid (ncV a b = .tuple #[.int .i64 0, .bool false]) := Lib.hid (by unfold ncV; rw [if_neg (fun h => h1 h.1)])
    go_enter Tryd.func13, Tryd.ntmps13
    go_wp2_with fail
    go_ret2
    exact ⟨by rw [HE.out]; rfl, Below.refl _ _⟩
end Go.Proofs.YthacdkbjefpoaaaDoor.Nc
