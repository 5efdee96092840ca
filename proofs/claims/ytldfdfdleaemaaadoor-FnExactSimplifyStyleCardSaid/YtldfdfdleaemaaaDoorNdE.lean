/-
  Contracts of equalNodes, and of slices.EqualFunc at it.
-/
import Derived.Test.YtldfdfdleaemaaaDoorNdCk
namespace Go.Proofs.YtldfdfdleaemaaaDoor.Nd
open Go.RowKit NdPl Ns
set_option linter.unusedSimpArgs false
set_option linter.unusedVariables false

mutual
/-- the nodes are equal -/
def eqB : Tr → Tr → Bool
  | .mk o a b c l, .mk o' a' b' c' l' => (o == o') && decide (a = a') && decide (b = b') && decide (c = c') && eqBs l l'
def eqBs : List Tr → List Tr → Bool
  | [], [] => true
  | x :: r, y :: s => eqB x y && eqBs r s
  | [], _ :: _ => false
  | _ :: _, [] => false
end
mutual
theorem eqB_iff (a b : Tr) : eqB a b = true ↔ a = b := by
  cases a with
  | mk o x y z l =>
    cases b with
    | mk o' x' y' z' l' =>
      have h := eqBs_iff l l'
      simp only [eqB, Bool.and_eq_true, decide_eq_true_eq, beq_iff_eq, h, Tr.mk.injEq, and_assoc]
theorem eqBs_iff (L M : List Tr) : eqBs L M = true ↔ L = M := by
  cases L with
  | nil => cases M with
    | nil => simp [eqBs]
    | cons y s => simp [eqBs]
  | cons x r => cases M with
    | nil => simp [eqBs]
    | cons y s =>
      have h1 := eqB_iff x y
      have h2 := eqBs_iff r s
      simp only [eqBs, Bool.and_eq_true, h1, h2, List.cons.injEq]
end
theorem eqBs_len {L M : List Tr} (h : L.length ≠ M.length) : eqBs L M = false := by
  cases he : eqBs L M with
  | false => rfl
  | true => exact absurd (congrArg List.length ((eqBs_iff L M).1 he)) h
theorem eqB_parts (x y : Tr) : eqB x y = ((x.op == y.op) && decide (x.wd = y.wd) && decide (x.tx = y.tx) && decide (x.af = y.af) && eqBs x.ps y.ps) := by cases x; cases y; rfl
theorem eqBs_drop {L M : List Tr} {j : Nat} {x y : Tr} (hx : L[j]? = some x) (hy : M[j]? = some y) : eqBs (L.drop j) (M.drop j) = (eqB x y && eqBs (L.drop (j + 1)) (M.drop (j + 1))) := by
  obtain ⟨hj, rfl⟩ := List.getElem?_eq_some_iff.1 hx
  obtain ⟨hk, rfl⟩ := List.getElem?_eq_some_iff.1 hy
  rw [List.drop_eq_getElem_cons hj, List.drop_eq_getElem_cons hk]
  rfl
def EnT (d : Nat) : Prop := ∀ (x y : Tr) (A B : Option Addr) (c c' : Nat) (w : World), RdL d w A x.ps → RdL d w B y.ps → szT x ≤ 1048576 → szT y ≤ 1048576 →
  Calls Tryd.prog 49 #[ndV x.op x.wd x.tx x.af A x.ps.length c, ndV y.op y.wd y.tx y.af B y.ps.length c'] w fun e w' => e = .returned (.bool (eqB x y)) ∧ Below w.heap.size w w'
def EnL (d : Nat) : Prop := ∀ (L M : List Tr) (A B : Option Addr) (c c' N N' : Nat) (w : World), RdL d w A L → RdL d w B M → L.length = N → M.length = N' → N + szS L ≤ 1048576 → N' + szS M ≤ 1048576 →
  Calls Tryd.prog 58 #[.slice A N c, .slice B N' c', .func (.func 49) #[] #[]] w fun e w' => e = .returned (.bool (eqBs L M)) ∧ Below w.heap.size w w'
set_option maxRecDepth 100000 in
set_option maxHeartbeats 4000000 in
theorem enT_step (d : Nat) (hL : EnL d) : EnT d := by
  intro x y A B c c' w ha hb hx hy
  have hzx := szT_eq x
  have hzy := szT_eq y
  have HL := Lib.hid (fun w1 (h : Below w.heap.size w w1) => hL x.ps y.ps A B c c' x.ps.length y.ps.length w1 (ha.below h) (hb.below h) rfl rfl (by omega) (by omega))
  obtain ⟨r, HR⟩ : ∃ r, Hid (r = eqB x y) := ⟨_, Lib.hid rfl⟩
  rw [← HR.out]
  have HR2 : Hid (r = ((x.op == y.op) && decide (x.wd = y.wd) && decide (x.tx = y.tx) && decide (x.af = y.af) && eqBs x.ps y.ps)) := Lib.hid (by rw [HR.out]; exact eqB_parts x y)
  have q1 := @ba_eq x.wd y.wd
  have q2 := @ba_eq x.tx y.tx
  have q3 := @ba_eq x.af y.af
  generalize decide (x.wd = y.wd) = b1 at *
  generalize decide (x.tx = y.tx) = b2 at *
  generalize decide (x.af = y.af) = b3 at *
  generalize eqBs x.ps y.ps = bs at *
  clear ha hb hx hy hzx hzy HR
  obtain ⟨op, wd, tx, af, ps⟩ := x
  obtain ⟨op', wd', tx', af', ps'⟩ := y
  simp only [op_mk, wd_mk, tx_mk, af_mk, ps_mk] at *
  obtain ⟨b0, q0⟩ : ∃ b0, (op == op') = b0 := ⟨_, rfl⟩
  rw [q0] at HR2
  generalize ps.length = n at *
  generalize ps'.length = n' at *
  have HB := Lib.hid (((Below.refl _ w).alloc (Nat.le_refl _) (.cells #[.int .i64 op, .string wd, .string tx, .string af, .slice A n c] 30)).alloc (by simp) (.cells #[.int .i64 op', .string wd', .string tx', .string af', .slice B n' c'] 30))
  have HLc := Lib.hid (HL.out _ HB.out)
  clear HL
  go_enter Tryd.func49, Tryd.ntmps49
  go_wp2_with (first | (go_at_call 58; refine HLc.out.mono ?_; rintro e w1 ⟨rfl, k1⟩))
  all_goals
    go_ret
    first
      | exact ⟨ret_bool (by rw [HR2.out]; simp [*]), HB.out.trans (k1.mono HB.out.size)⟩
      | exact ⟨ret_bool (by rw [HR2.out]; simp [*]), HB.out⟩
set_option maxRecDepth 100000 in
set_option maxHeartbeats 4000000 in
theorem enL_step (d : Nat) (hT : ∀ d', d = d' + 1 → EnT d') : EnL d := by
  intro L M A B c c' N N' w ha hb hn hn' hz hz'
  by_cases hNN : N = N'
  · subst hNN
    have HA := Lib.hid ha
    have HB := Lib.hid hb
    have HN := Lib.hid hn
    have HM := Lib.hid hn'
    have HZ := Lib.hid hz
    have HZ' := Lib.hid hz'
    have hm : N ≤ 1048576 := by omega
    obtain ⟨r, HR⟩ : ∃ r, Hid (r = eqBs L M) := ⟨_, Lib.hid rfl⟩
    rw [← HR.out]
    clear ha hb hn hn' hz hz'
    go_enter Tryd.func58, Tryd.ntmps58
    go_wp2_with fail
    go_loopw [17] (fun i wr => ∃ j : Nat, j ≤ N ∧ i = .int .i64 j ∧ Hid (eqBs (L.drop j) (M.drop j) = eqBs L M) ∧ Below w.heap.size w wr) (fun i _ => N - (intOf i).toNat)
    case atStart => exact ⟨0, Nat.zero_le _, rfl, Lib.hid rfl, Below.refl _ _⟩
    case round =>
      obtain ⟨j, hj, rfl, HD, hb⟩ := hrel
      by_cases hlt : j < N
      · have hjx : j < L.length := by rw [HN.out]; exact hlt
        have hjy : j < M.length := by rw [HM.out]; exact hlt
        have hx? := List.getElem?_eq_getElem hjx
        have hy? := List.getElem?_eq_getElem hjy
        obtain ⟨d', g, o, C, cc, hd, rfl, hg, e0, e1, e2, e3, e4, hr⟩ := (HA.out.below hb).get hx?
        obtain ⟨d2, g', o', C', cc', hd2, rfl, hg', f0, f1, f2, f3, f4, hr'⟩ := (HB.out.below hb).get hy?
        obtain rfl : d2 = d' := by omega
        have HDr := Lib.hid (eqBs_drop hx? hy?)
        have z1 := szS_mem hx?
        have z2 := szS_mem hy?
        have z3 := HZ.out
        have z4 := HZ'.out
        clear hx? hy?
        generalize L[j] = x at *
        generalize M[j] = y at *
        have HE := Lib.hid (fun ob1 ob2 => hT d2 hd x y C C' cc cc' ((wr.alloc ob1).alloc ob2) ((hr.below ((Below.refl _ _).alloc (Nat.le_refl _) ob1)).below ((Below.refl _ _).alloc (Nat.le_refl _) ob2)) ((hr'.below ((Below.refl _ _).alloc (Nat.le_refl _) ob1)).below ((Below.refl _ _).alloc (Nat.le_refl _) ob2)) (by omega) (by omega))
        have HBa := Lib.hid (fun ob1 ob2 => (hb.alloc hb.size ob1).alloc (hb.alloc hb.size ob1).size ob2)
        generalize eqB x y = q at *
        clear hr hr' z1 z2 z3 z4 hd hd2
        obtain ⟨op, wd, tx, af, ps⟩ := x
        obtain ⟨op', wd', tx', af', ps'⟩ := y
        simp only [op_mk, wd_mk, tx_mk, af_mk, ps_mk] at *
        generalize ps.length = n at *
        generalize ps'.length = n' at *
        cases q with
        | true =>
          have HD2 : Hid (eqBs (L.drop (j + 1)) (M.drop (j + 1)) = eqBs L M) := Lib.hid (by rw [← HD.out, HDr.out, Bool.true_and])
          go_wp2_with fail
          refine (HE.out _ _).mono ?_
          rintro e w1 ⟨rfl, b1⟩
          have hb1 := (HBa.out _ _).trans (b1.mono (HBa.out _ _).size)
          clear b1 HE HDr
          go_wp2_with fail
          go_roundw
          case rel => exact ⟨j + 1, by omega, by go_num, HD2, hb1⟩
          case measure => simp [intOf]; omega
        | false =>
          have HF : Hid (r = false) := Lib.hid (by rw [HR.out, ← HD.out, HDr.out, Bool.false_and])
          go_wp2_with fail
          refine (HE.out _ _).mono ?_
          rintro e w1 ⟨rfl, b1⟩
          have hb1 := (HBa.out _ _).trans (b1.mono (HBa.out _ _).size)
          clear b1 HE HDr
          go_wp2_with fail
          go_ret
          exact ⟨by rw [HF.out]; rfl, hb1⟩
      · have HF : Hid (r = true) := Lib.hid (by
          rw [HR.out, ← HD.out, List.drop_eq_nil_of_le (by have := HN.out; omega), List.drop_eq_nil_of_le (by have := HM.out; omega)]; rfl)
        go_wp2_with fail
        go_ret
        exact ⟨by rw [HF.out]; rfl, hb⟩
  · rw [eqBs_len (by omega)]
    have hne : ((N : Int) == (N' : Int)) = false := by rw [beq_eq_false_iff_ne]; omega
    clear ha hb hn hn' hz hz' hT
    go_enter Tryd.func58, Tryd.ntmps58
    go_wp2_with fail
    go_ret
    exact ⟨rfl, Below.refl _ _⟩
theorem enL_all (d : Nat) : EnL d := by
  induction d with
  | zero => exact enL_step 0 (fun d' h => by omega)
  | succ d ih => exact enL_step (d + 1) (fun d' h => by have e : d' = d := (by omega); subst e; exact enT_step _ ih)
theorem enT_all (d : Nat) : EnT d := enT_step d (enL_all d)
end Go.Proofs.YtldfdfdleaemaaaDoor.Nd
