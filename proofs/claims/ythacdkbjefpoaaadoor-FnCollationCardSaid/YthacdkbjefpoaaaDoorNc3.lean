/-
  Contracts of l8Run, slices.CompareFunc at texts, and of NaturalCompare of both.
-/
import Derived.Test.YthacdkbjefpoaaaDoorNc2
namespace Go.Proofs.YthacdkbjefpoaaaDoor.Nc
open Go.RowKit Pl NmPl FoPl NcPl Cs Strs Cmp Or2
set_option linter.unusedVariables false
set_option linter.unusedSimpArgs false

set_option maxHeartbeats 4000000 in
theorem run_s (x y : List UInt8) (w : World) (hx0 : 0 < x.length) (hy0 : 0 < y.length) (hx : x.length ≤ 1048576) (hy : y.length ≤ 1048576) :
    Calls Tryd.prog 27 #[.string (ba x), .string (ba y)] w fun e w' => e = .returned (.int .i64 (crV x y)) ∧ ∃ q, w' = w.drewN q := by
  have HE : Hid (crV x y = if dg (x.headD 0) = true then (if dg (y.headD 0) = true then cnV x y else -1) else if dg (y.headD 0) = true then 1 else cmpS (ba x) (ba y)) := Lib.hid rfl
  have HCn : Hid (cnV x y = or2 (Lib.compareInt ((st0 x).length : Int) ((st0 y).length : Int)) (cmpS (ba (st0 x)) (ba (st0 y)))) := Lib.hid rfl
  obtain ⟨sx, ex⟩ := ba_at hx0
  obtain ⟨sy, ey⟩ := ba_at hy0
  rw [← ex, ← ey] at HE
  have HVx := Lib.hid (fun w => value_s (ba x) w (by rw [ba_size]; exact hx))
  have HVy := Lib.hid (fun w => value_s (ba y) w (by rw [ba_size]; exact hy))
  rw [toList_ba] at HVx HVy
  have e1 := ba_size (st0 x)
  have e2 := ba_size (st0 y)
  rw [← e1, ← e2] at HCn
  have l1 := st0_len x
  have l2 := st0_len y
  rw [← e1] at l1
  rw [← e2] at l2
  clear ex ey e1 e2
  generalize cnV x y = n at *
  generalize ba x = X at *
  generalize ba y = Y at *
  generalize ba (st0 x) = P at *
  generalize ba (st0 y) = Q at *
  have HS := Lib.hid (fun w => l2Text_any X Y w)
  have HSn := Lib.hid (fun w => l2Text_any P Q w)
  generalize cmpS X Y = v at *
  generalize cmpS P Q = u at *
  have HX := Lib.hid (fun (w : World) => dig_s X[0] (dg X[0]) w rfl)
  have HY := Lib.hid (fun (w : World) => dig_s Y[0] (dg Y[0]) w rfl)
  have bx := X[0].toNat_lt
  have bY := Y[0].toNat_lt
  generalize dg X[0] = p at *
  generalize dg Y[0] = q at *
  cases p <;> cases q
  · go_enter Tryd.func27, Tryd.ntmps27
    go_wp2_with fail
    go_quiet ((first | (go_at_call 40; with_reducible exact Calls.quiet_of_same (HX.out _)) | (go_at_call 40; with_reducible exact Calls.quiet_of_same (HY.out _))))
    go_wp2_with fail
    refine (HS.out _).mono ?_
    rintro e w1 ⟨rfl, rfl⟩
    go_wp2_with fail
    go_ret
    exact ⟨by rw [HE.out]; rfl, _, rfl⟩
  · go_enter Tryd.func27, Tryd.ntmps27
    go_wp2_with fail
    go_quiet ((first | (go_at_call 40; with_reducible exact Calls.quiet_of_same (HX.out _)) | (go_at_call 40; with_reducible exact Calls.quiet_of_same (HY.out _))))
    go_wp2_with fail
    go_ret
    exact ⟨by rw [HE.out]; rfl, _, rfl⟩
  · go_enter Tryd.func27, Tryd.ntmps27
    go_wp2_with fail
    go_quiet ((first | (go_at_call 40; with_reducible exact Calls.quiet_of_same (HX.out _)) | (go_at_call 40; with_reducible exact Calls.quiet_of_same (HY.out _))))
    go_wp2_with fail
    go_ret
    exact ⟨by rw [HE.out]; rfl, _, rfl⟩
  · have HE' : Hid (crV x y = n) := Lib.hid (by rw [HE.out]; rfl)
    clear HE
    rcases Nat.lt_trichotomy P.size Q.size with hl | hl | hl
    · have HN : Hid (n = -1) := Lib.hid (by rw [HCn.out, cmpI_lt hl]; rfl)
      have h1 : ((P.size : Int) != (Q.size : Int)) = true := by rw [bne_iff_ne]; omega
      have h2 : decide (P.size < Q.size) = true := by simpa using hl
      go_enter Tryd.func27, Tryd.ntmps27
      go_wp2_with fail
      go_quiet ((first | (go_at_call 40; with_reducible exact Calls.quiet_of_same (HX.out _)) | (go_at_call 40; with_reducible exact Calls.quiet_of_same (HY.out _))))
      go_wp2_with fail
      refine (HVx.out _).mono ?_
      rintro e w1 ⟨rfl, rfl⟩
      go_wp2_with fail
      refine (HVy.out _).mono ?_
      rintro e w1 ⟨rfl, rfl⟩
      go_wp2_with fail
      go_ret
      exact ⟨by rw [HE'.out, HN.out]; rfl, _, rfl⟩
    · have HN : Hid (n = u) := Lib.hid (by rw [HCn.out, hl, cmpI_eq]; rfl)
      have h1 : ((P.size : Int) != (Q.size : Int)) = false := by rw [hl]; simp
      go_enter Tryd.func27, Tryd.ntmps27
      go_wp2_with fail
      go_quiet ((first | (go_at_call 40; with_reducible exact Calls.quiet_of_same (HX.out _)) | (go_at_call 40; with_reducible exact Calls.quiet_of_same (HY.out _))))
      go_wp2_with fail
      refine (HVx.out _).mono ?_
      rintro e w1 ⟨rfl, rfl⟩
      go_wp2_with fail
      refine (HVy.out _).mono ?_
      rintro e w1 ⟨rfl, rfl⟩
      go_wp2_with fail
      refine (HSn.out _).mono ?_
      rintro e w1 ⟨rfl, rfl⟩
      go_wp2_with fail
      go_ret
      exact ⟨by rw [HE'.out, HN.out]; rfl, _, rfl⟩
    · have HN : Hid (n = 1) := Lib.hid (by rw [HCn.out, cmpI_gt hl]; rfl)
      have h1 : ((P.size : Int) != (Q.size : Int)) = true := by rw [bne_iff_ne]; omega
      have h2 : decide (P.size < Q.size) = false := by simp; omega
      go_enter Tryd.func27, Tryd.ntmps27
      go_wp2_with fail
      go_quiet ((first | (go_at_call 40; with_reducible exact Calls.quiet_of_same (HX.out _)) | (go_at_call 40; with_reducible exact Calls.quiet_of_same (HY.out _))))
      go_wp2_with fail
      refine (HVx.out _).mono ?_
      rintro e w1 ⟨rfl, rfl⟩
      go_wp2_with fail
      refine (HVy.out _).mono ?_
      rintro e w1 ⟨rfl, rfl⟩
      go_wp2_with fail
      go_ret
      exact ⟨by rw [HE'.out, HN.out]; rfl, _, rfl⟩

/-- how two lists of runs compare -/
def crL : List (List UInt8) → List (List UInt8) → Int
  | [], [] => 0
  | [], _ :: _ => -1
  | _ :: _, [] => 1
  | x :: xs, y :: ys => if crV x y = 0 then crL xs ys else crV x y
theorem crL_at {xs ys : List (List UInt8)} {k : Nat} {x y : List UInt8} (hx : xs[k]? = some x) (hy : ys[k]? = some y) : crL (xs.drop k) (ys.drop k) = if crV x y = 0 then crL (xs.drop (k + 1)) (ys.drop (k + 1)) else crV x y := by
  obtain ⟨k1, e1⟩ := List.getElem?_eq_some_iff.1 hx
  obtain ⟨k2, e2⟩ := List.getElem?_eq_some_iff.1 hy
  rw [List.drop_eq_getElem_cons k1, List.drop_eq_getElem_cons k2, e1, e2]
  rfl
theorem crL_gt {xs ys : List (List UInt8)} {k : Nat} (h1 : k < xs.length) (h2 : ys.length ≤ k) : crL (xs.drop k) (ys.drop k) = 1 := by
  rw [List.drop_eq_getElem_cons h1, List.drop_eq_nil_of_le h2]; rfl
theorem crL_lt {xs ys : List (List UInt8)} {k : Nat} (h1 : xs.length ≤ k) (h2 : k < ys.length) : crL (xs.drop k) (ys.drop k) = -1 := by
  rw [List.drop_eq_getElem_cons h2, List.drop_eq_nil_of_le h1]; rfl
theorem crL_eq {xs ys : List (List UInt8)} {k : Nat} (h1 : xs.length ≤ k) (h2 : ys.length ≤ k) : crL (xs.drop k) (ys.drop k) = 0 := by
  rw [List.drop_eq_nil_of_le h1, List.drop_eq_nil_of_le h2]; rfl
/-- runs: none is empty, and none is too long -/
def okR (xs : List (List UInt8)) : Prop := ∀ x ∈ xs, 0 < x.length ∧ x.length ≤ 1048576
set_option maxHeartbeats 4000000 in
theorem func_i (A B : Option Addr) (c d : Nat) (xs ys : List (List UInt8)) (w : World) (h1 : Rl w A xs) (h2 : Rl w B ys) (o1 : okR xs) (o2 : okR ys) (n1 : xs.length ≤ 1048576) (n2 : ys.length ≤ 1048576) (hc : xs.length ≤ c) (hd : ys.length ≤ d) :
    Calls Tryd.prog 22 #[.slice A xs.length c, .slice B ys.length d, .func (.func 24) #[] #[]] w fun e w' => e = .returned (.int .i64 (crL xs ys)) ∧ Below w.heap.size w w' := by
  have H1 := Lib.hid h1
  have H2 := Lib.hid h2
  have O1 := Lib.hid o1
  have O2 := Lib.hid o2
  clear h1 h2 o1 o2
  obtain ⟨n, HN⟩ : ∃ n, Hid (n = xs.length) := ⟨_, Lib.hid rfl⟩
  obtain ⟨m, HM⟩ : ∃ m, Hid (m = ys.length) := ⟨_, Lib.hid rfl⟩
  rw [← HN.out] at n1 hc ⊢
  rw [← HM.out] at n2 hd ⊢
  go_enter Tryd.func22, Tryd.ntmps22
  go_wp2_with fail
  go_loopw [13] (fun i wr => ∃ k : Nat, k ≤ n ∧ k ≤ m ∧ i = .int .i64 k ∧ Hid (crL (xs.drop k) (ys.drop k) = crL xs ys) ∧ Below w.heap.size w wr) (fun i _ => n - (intOf i).toNat)
  case atStart => exact ⟨0, Nat.zero_le _, Nat.zero_le _, rfl, Lib.hid rfl, Below.refl _ _⟩
  case round =>
    obtain ⟨k, hk, hkm, rfl, HD, hb⟩ := hrel
    by_cases hlt : k < n
    · obtain ⟨x, hx⟩ : ∃ x, xs[k]? = some x := ⟨_, List.getElem?_eq_getElem (by rw [← HN.out]; exact hlt)⟩
      obtain ⟨g, o, rfl, hc0⟩ := (H1.out.below hb) k x hx
      have hkc : k < c := by omega
      by_cases hm : k < m
      · obtain ⟨y, hy⟩ : ∃ y, ys[k]? = some y := ⟨_, List.getElem?_eq_getElem (by rw [← HM.out]; exact hm)⟩
        obtain ⟨g2, o2, rfl, hd0⟩ := (H2.out.below hb) k y hy
        have hkd : k < d := by omega
        obtain ⟨x0, x1⟩ := O1.out x (List.mem_of_getElem? hx)
        obtain ⟨y0, y1⟩ := O2.out y (List.mem_of_getElem? hy)
        have HK := Lib.hid (fun w => compareRuns_i x y w x0 y0 x1 y1)
        have HC := Lib.hid (crL_at hx hy)
        clear hx hy x0 x1 y0 y1
        generalize crV x y = r at *
        generalize ba x = X at *
        generalize ba y = Y at *
        by_cases h0 : r = 0
        · subst h0
          rw [if_pos rfl] at HC
          have HD' : Hid (crL (xs.drop (k + 1)) (ys.drop (k + 1)) = crL xs ys) := Lib.hid (by rw [← HD.out, HC.out])
          clear HC HD
          go_wp2_with fail
          refine (HK.out _).mono ?_
          rintro e w1 ⟨rfl, b1⟩
          go_wp2_with fail
          go_roundw
          case rel => exact ⟨k + 1, by omega, by omega, by go_num, HD', hb.trans (b1.mono hb.size)⟩
          case measure => simp [intOf]; omega
        · have hr : (r != 0) = true := by rw [bne_iff_ne]; exact h0
          rw [if_neg h0] at HC
          have HD' : Hid (crL xs ys = r) := Lib.hid (by rw [← HD.out, HC.out])
          clear HC HD h0
          go_wp2_with fail
          refine (HK.out _).mono ?_
          rintro e w1 ⟨rfl, b1⟩
          go_wp2_with fail
          go_ret
          exact ⟨by rw [HD'.out]; rfl, hb.trans (b1.mono hb.size)⟩
      · have HD' : Hid (crL xs ys = 1) := Lib.hid (by rw [← HD.out, crL_gt (by rw [← HN.out]; exact hlt) (by rw [← HM.out]; omega)])
        have hdm : decide (m ≤ k) = true := by simp; omega
        go_wp2_with fail
        go_ret
        exact ⟨by rw [HD'.out]; rfl, hb⟩
    · obtain rfl : k = n := by omega
      by_cases hm : k < m
      · have HD' : Hid (crL xs ys = -1) := Lib.hid (by rw [← HD.out, crL_lt (by rw [← HN.out]; exact Nat.le_refl _) (by rw [← HM.out]; exact hm)])
        have hdm : decide (k < m) = true := by simpa using hm
        go_wp2_with fail
        go_ret
        exact ⟨by rw [HD'.out]; rfl, hb⟩
      · have HD' : Hid (crL xs ys = 0) := Lib.hid (by rw [← HD.out, crL_eq (by rw [← HN.out]; exact Nat.le_refl _) (by rw [← HM.out]; omega)])
        have hdm : decide (k < m) = false := by simpa using hm
        go_wp2_with fail
        go_ret
        exact ⟨by rw [HD'.out]; rfl, hb⟩
end Go.Proofs.YthacdkbjefpoaaaDoor.Nc
