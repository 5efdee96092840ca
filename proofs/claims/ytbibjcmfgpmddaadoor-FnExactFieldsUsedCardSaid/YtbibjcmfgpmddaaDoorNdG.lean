/-
  Which styles are valid, how many nodes they have and how deep they are: contracts of l9Node, l9Count, l9Depth, l9Good, IsValidStyle and CountNodes of the model.
-/
import Derived.Test.YtbibjcmfgpmddaaDoorNdH
import Derived.Test.YtbibjcmfgpmddaaDoorNdF
namespace Go.Proofs.YtbibjcmfgpmddaaDoor.Nd
open Go.RowKit NdPl Ns
open Dt (l1In_any)
set_option linter.unusedSimpArgs false
set_option linter.unusedVariables false

/-- a node is valid and at most d deep -/
def okT : Nat → Tr → Bool
  | 0, _ => false
  | d + 1, x => shB x.op x.wd x.tx x.af x.ps.length && x.ps.all (okT d)
mutual
/-- the nodes -/
def cntT : Tr → Nat
  | .mk _ _ _ _ l => 1 + cntS l
def cntS : List Tr → Nat
  | [] => 0
  | x :: r => cntT x + cntS r
end
mutual
/-- the depth -/
def dpT : Tr → Nat
  | .mk _ _ _ _ l => dpS l + 1
def dpS : List Tr → Nat
  | [] => 0
  | x :: r => max (dpT x) (dpS r)
end
theorem cntT_eq (x : Tr) : cntT x = 1 + cntS x.ps := by cases x; rfl
theorem dpT_eq (x : Tr) : dpT x = dpS x.ps + 1 := by cases x; rfl
theorem cntS_append (A B : List Tr) : cntS (A ++ B) = cntS A + cntS B := by
  induction A with
  | nil => simp [cntS]
  | cons x r ih => simp [cntS, ih]; omega
theorem cntS_take {L : List Tr} {k : Nat} {x : Tr} (h : L[k]? = some x) : cntS (L.take (k + 1)) = cntS (L.take k) + cntT x := by
  rw [List.take_add_one, h, cntS_append]; simp [cntS]
theorem cntS_le (L : List Tr) (k : Nat) : cntS (L.take k) ≤ cntS L := by
  have h := cntS_append (L.take k) (L.drop k)
  rw [List.take_append_drop] at h
  omega
theorem dpS_append (A B : List Tr) : dpS (A ++ B) = max (dpS A) (dpS B) := by
  induction A with
  | nil => simp [dpS]
  | cons x r ih => simp only [List.cons_append, dpS, ih]; omega
theorem dpS_take {L : List Tr} {k : Nat} {x : Tr} (h : L[k]? = some x) : dpS (L.take (k + 1)) = max (dpS (L.take k)) (dpT x) := by
  rw [List.take_add_one, h, dpS_append]; simp [dpS]
theorem dpS_le (L : List Tr) (k : Nat) : dpS (L.take k) ≤ dpS L := by
  have h := dpS_append (L.take k) (L.drop k)
  rw [List.take_append_drop] at h
  omega
mutual
theorem cnt_szT (x : Tr) : cntT x ≤ szT x + 1 ∧ dpT x ≤ szT x + 1 := by
  cases x with
  | mk o a b c l =>
    have := cnt_szS l
    simp only [cntT, szT, dpT]
    omega
theorem cnt_szS (L : List Tr) : cntS L ≤ szS L + L.length ∧ dpS L ≤ szS L + L.length := by
  cases L with
  | nil => simp [cntS, szS, dpS]
  | cons x r =>
    have h1 := cnt_szT x
    have h2 := cnt_szS r
    simp only [cntS, szS, dpS, List.length_cons]
    omega
end
/-- a valid style -/
def gdB (nm : Int) (x : Tr) : Bool := decide (1 ≤ nm ∧ nm ≤ 4) && okT 5 x && decide (cntT x ≤ 30)
theorem all_dropT (p : Tr → Bool) {L : List Tr} {k : Nat} {x : Tr} (h : L[k]? = some x) : (L.drop k).all p = (p x && (L.drop (k + 1)).all p) := by
  obtain ⟨hk, rfl⟩ := List.getElem?_eq_some_iff.1 h
  rw [List.drop_eq_getElem_cons hk, List.all_cons]
theorem all_doneT (p : Tr → Bool) {L : List Tr} {k : Nat} (h : L.length ≤ k) : (L.drop k).all p = true := by
  rw [List.drop_eq_nil_of_le h]; rfl

def NodeT (k : Nat) : Prop := ∀ (x : Tr) (B : Option Addr) (c d : Nat) (w : World), RdL d w B x.ps → szT x ≤ 1048576 →
  Calls Tryd.prog 26 #[ndV x.op x.wd x.tx x.af B x.ps.length c, .int .i64 k] w fun e w' => e = .returned (.bool (okT k x)) ∧ Below w.heap.size w w'
set_option maxHeartbeats 2000000 in
theorem node_0 : NodeT 0 := by
  intro x B c d w hr hz
  obtain ⟨op, wd, tx, af, ps⟩ := x
  simp only [Tr.op, Tr.wd, Tr.tx, Tr.af, Tr.ps] at *
  have HS : Hid (okT 0 (.mk op wd tx af ps) = false) := Lib.hid rfl
  rw [HS.out]
  generalize ps.length = n at *
  clear hr hz
  have e0 : ((0 : Nat) : Int) = 0 := rfl
  rw [e0]
  go_enter Tryd.func26, Tryd.ntmps26
  go_wp2_with fail
  go_ret
  exact ⟨rfl, box_below _ _⟩
set_option maxHeartbeats 2000000 in
theorem node_step (k0 : Nat) (hk0 : k0 ≤ 5) (ih : NodeT k0) : NodeT (k0 + 1) := by
  intro x B c d w hr hz
  have hzs := szT_eq x
  have HI := Lib.hid ih
  obtain ⟨op, wd, tx, af, ps⟩ := x
  simp only [Tr.op, Tr.wd, Tr.tx, Tr.af, Tr.ps] at *
  have HS : Hid (okT (k0 + 1) (.mk op wd tx af ps) = (shB op wd tx af ps.length && ps.all (okT k0))) := Lib.hid rfl
  obtain ⟨z, HZ⟩ : ∃ z, Hid (z = okT (k0 + 1) (.mk op wd tx af ps)) := ⟨_, Lib.hid rfl⟩
  rw [← HZ.out] at HS ⊢
  have HB := Lib.hid (box_below w (.cells #[.int .i64 op, .string wd, .string tx, .string af, .slice B ps.length c] 33))
  have HX := Lib.hid (Bx.new w #[.int .i64 op, .string wd, .string tx, .string af, .slice B ps.length c] 33)
  have HC := Lib.hid (fun w1 => shape_s op wd tx af B ps.length c w1 (by omega) (by omega) (by omega))
  have HR := Lib.hid hr
  have HZs : Hid (szS ps ≤ 1048576) := Lib.hid (by omega)
  have hm : ps.length ≤ 1048576 := by omega
  obtain ⟨n, hn⟩ : ∃ n, n = ps.length := ⟨_, rfl⟩
  rw [← hn] at HS HB HX HC hm ⊢
  have HN := Lib.hid hn
  clear hr hz hzs hn ih
  generalize hq : shB op wd tx af n = q at *
  clear hq
  have hz0 : (((k0 + 1 : Nat) : Int) == 0) = false := by rw [beq_eq_false_iff_ne]; omega
  have hm1 : ((k0 + 1 : Nat) : Int) - 1 = (k0 : Int) := by omega
  have hlo : (0 : Int) ≤ ((k0 + 1 : Nat) : Int) := by omega
  have hhi : ((k0 + 1 : Nat) : Int) ≤ 6 := by omega
  generalize ((k0 + 1 : Nat) : Int) = kk at *
  go_enter Tryd.func26, Tryd.ntmps26
  go_wp2_with fail
  generalize w.alloc _ = w0 at HB HX ⊢
  refine (HC.out _).mono ?_
  rintro e w1 ⟨rfl, b1⟩
  have hX1 := HX.out.below b1
  have B1 := HB.out.trans (b1.mono HB.out.size)
  have c4 := hX1.2 4 _ rfl
  have HX1 := Lib.hid hX1
  clear b1 HX HB HC hX1
  cases q with
  | false =>
    go_wp2_with fail
    go_ret
    exact ⟨by rw [HS.out]; rfl, B1⟩
  | true =>
    go_wp2_with fail
    go_loopw [5] (fun i wr => ∃ j : Nat, j ≤ n ∧ i = .int .i64 j ∧ Hid (Bx wr w.heap.size [.int .i64 op, .string wd, .string tx, .string af, .slice B n c]) ∧ Hid ((ps.drop j).all (okT k0) = ps.all (okT k0)) ∧ Below w.heap.size w wr) (fun i _ => n - (intOf i).toNat)
    case atStart => exact ⟨0, Nat.zero_le _, rfl, HX1, Lib.hid rfl, B1⟩
    case round =>
      obtain ⟨j, hj, rfl, HX2, HD, hb⟩ := hrel
      have c4 := HX2.out.2 4 _ rfl
      by_cases hlt : j < n
      · have hjx : j < ps.length := by rw [← HN.out]; exact hlt
        have hx? := List.getElem?_eq_getElem hjx
        obtain ⟨d', g, o, C, cc, hd, rfl, hg, e0, e1, e2, e3, e4, hr⟩ := (HR.out.below hb).get hx?
        have HA := Lib.hid (all_dropT (okT k0) hx?)
        have hzx := szS_mem hx?
        have hzm := HZs.out
        clear hx?
        generalize ps[j] = y at *
        have HY := Lib.hid (HI.out y C cc d' wr hr (by omega))
        clear hr hzx hzm hd
        cases hy : okT k0 y with
        | true =>
          rw [hy] at HY HA
          have HD2 : Hid ((ps.drop (j + 1)).all (okT k0) = ps.all (okT k0)) := Lib.hid (by rw [← HD.out, HA.out, Bool.true_and])
          clear hy
          go_wp2_with fail
          refine HY.out.mono ?_
          rintro e w2 ⟨rfl, b2⟩
          have HX3 := Lib.hid (HX2.out.below b2)
          have hb2 := hb.trans (b2.mono hb.size)
          clear b2 HX2 HA HY
          go_wp2_with fail
          go_roundw
          case rel => exact ⟨j + 1, by omega, by go_num, HX3, HD2, hb2⟩
          case measure => simp [intOf]; omega
        | false =>
          rw [hy] at HY HA
          have HF : Hid (z = false) := Lib.hid (by rw [HS.out, ← HD.out, HA.out]; rfl)
          clear hy
          go_wp2_with fail
          refine HY.out.mono ?_
          rintro e w2 ⟨rfl, b2⟩
          have hb2 := hb.trans (b2.mono hb.size)
          clear b2 HX2 HA HY
          go_wp2_with fail
          go_ret
          exact ⟨by rw [HF.out]; rfl, hb2⟩
      · have hdn : ps.length ≤ j := by have := HN.out; omega
        have HF : Hid (z = true) := Lib.hid (by rw [HS.out, ← HD.out, all_doneT _ hdn]; rfl)
        clear hdn
        go_wp2_with fail
        go_ret
        exact ⟨by rw [HF.out]; rfl, hb⟩
theorem node_all (k : Nat) (hk : k ≤ 6) : NodeT k := by
  induction k with
  | zero => exact node_0
  | succ k ih => exact node_step k (by omega) (ih (by omega))

def CntT (d : Nat) : Prop := ∀ (x : Tr) (B : Option Addr) (c : Nat) (w : World), RdL d w B x.ps → szT x ≤ 1048576 →
  Calls Tryd.prog 27 #[ndV x.op x.wd x.tx x.af B x.ps.length c] w fun e w' => e = .returned (.int .i64 (cntT x)) ∧ Below w.heap.size w w'
set_option maxHeartbeats 2000000 in
theorem cnt_step (d : Nat) (ih : ∀ d', d = d' + 1 → CntT d') : CntT d := by
  intro x B c w hr hz
  have hzs := szT_eq x
  have hcs := cnt_szS x.ps
  have HI := Lib.hid ih
  have HQ := Lib.hid (cntT_eq x)
  obtain ⟨z, HZ⟩ : ∃ z, Hid (z = cntT x) := ⟨_, Lib.hid rfl⟩
  rw [← HZ.out] at HQ ⊢
  obtain ⟨op, wd, tx, af, ps⟩ := x
  simp only [Tr.op, Tr.wd, Tr.tx, Tr.af, Tr.ps] at *
  have HX := Lib.hid (Bx.new w #[.int .i64 op, .string wd, .string tx, .string af, .slice B ps.length c] 33)
  have HB := Lib.hid (box_below w (.cells #[.int .i64 op, .string wd, .string tx, .string af, .slice B ps.length c] 33))
  have HR := Lib.hid hr
  have HZs : Hid (szS ps ≤ 1048576 ∧ cntS ps ≤ 1048576) := Lib.hid (by omega)
  have hm : ps.length ≤ 1048576 := by omega
  obtain ⟨n, hn⟩ : ∃ n, n = ps.length := ⟨_, rfl⟩
  rw [← hn] at HB HX hm ⊢
  have HN := Lib.hid hn
  clear hr hz hzs hn ih hcs
  go_enter Tryd.func27, Tryd.ntmps27
  go_wp2_with fail
  generalize w.alloc _ = w0 at HB HX ⊢
  go_loopw [3, 4] (fun s i wr => ∃ j t : Nat, j ≤ n ∧ i = .int .i64 j ∧ s = .int .i64 t ∧ t ≤ 1048577 ∧ Hid (t = 1 + cntS (ps.take j)) ∧ Hid (Bx wr w.heap.size [.int .i64 op, .string wd, .string tx, .string af, .slice B n c]) ∧ Below w.heap.size w wr) (fun _ i _ => n - (intOf i).toNat)
  case atStart => exact ⟨0, 1, Nat.zero_le _, rfl, rfl, by decide, Lib.hid rfl, HX, HB.out⟩
  case round =>
    obtain ⟨j, t, hj, rfl, rfl, ht, HT, HX2, hb⟩ := hrel
    have c4 := HX2.out.2 4 _ rfl
    by_cases hlt : j < n
    · have hjx : j < ps.length := by rw [← HN.out]; exact hlt
      have hx? := List.getElem?_eq_getElem hjx
      obtain ⟨d', g, o, C, cc, hd, rfl, hg, e0, e1, e2, e3, e4, hr⟩ := (HR.out.below hb).get hx?
      have HTk := Lib.hid (cntS_take hx?)
      have hle := cntS_le ps (j + 1)
      have hzx := szS_mem hx?
      have hzm := HZs.out
      clear hx?
      generalize ps[j] = y at *
      have HY := Lib.hid (HI.out d' hd y C cc wr hr (by omega))
      have hty : t + cntT y ≤ 1048577 := by have := HT.out; have := HTk.out; omega
      clear hr hzx hzm hd hle
      generalize cntT y = q at *
      go_wp2_with fail
      refine HY.out.mono ?_
      rintro e w2 ⟨rfl, b2⟩
      have HX3 := Lib.hid (HX2.out.below b2)
      have hb2 := hb.trans (b2.mono hb.size)
      clear b2 HX2 HY
      go_wp2_with fail
      go_roundw
      case rel => exact ⟨j + 1, t + q, by omega, by go_num, by go_num, hty, Lib.hid (by rw [HTk.out, HT.out]; omega), HX3, hb2⟩
      case measure => simp [intOf]; omega
    · have hdn : ps.length ≤ j := by have := HN.out; omega
      have HF : Hid (z = t) := Lib.hid (by rw [HQ.out, HT.out, List.take_of_length_le hdn])
      clear hdn
      go_wp2_with fail
      go_ret
      exact ⟨by rw [HF.out]; rfl, hb⟩
theorem cnt_all (d : Nat) : CntT d := by
  induction d with
  | zero => exact cnt_step 0 (fun d' h => by omega)
  | succ d ih => exact cnt_step (d + 1) (fun d' h => by have e : d' = d := (by omega); subst e; exact ih)
end Go.Proofs.YtbibjcmfgpmddaaDoor.Nd
