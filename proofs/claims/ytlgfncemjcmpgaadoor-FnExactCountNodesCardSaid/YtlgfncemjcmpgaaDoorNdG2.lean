/-
  Contracts of l9Depth, l9Good, IsValidStyle and CountNodes of the model.
-/
import Derived.Test.YtlgfncemjcmpgaaDoorNdG
import Derived.Deep.RegionHeld3
import Derived.OwnWalk
namespace Go.Proofs.YtlgfncemjcmpgaaDoor.Nd
open Go.RowKit NdPl Ns
open Dt (l1In_any)
set_option linter.unusedSimpArgs false
set_option linter.unusedVariables false

theorem most_any (a b r : Nat) (w : World) (hr : max a b = r) : Calls Tryd.prog 25 #[.int .i64 a, .int .i64 b] w fun e w' => e = .returned (.int .i64 r) ∧ w = w' := by
  by_cases h : b < a
  · obtain rfl : r = a := by omega
    have hd : decide (b < r) = true := decide_eq_true (by omega)
    clear hr h
    go_enter Tryd.func25, Tryd.ntmps25
    go_wp2_with fail
    go_ret
    exact ⟨rfl, rfl⟩
  · obtain rfl : r = b := by omega
    have hd : decide (r < a) = false := decide_eq_false (by omega)
    clear hr h
    go_enter Tryd.func25, Tryd.ntmps25
    go_wp2_with fail
    go_ret
    exact ⟨rfl, rfl⟩
def DpT (d : Nat) : Prop := ∀ (x : Tr) (B : Option Addr) (c : Nat) (w : World), RdL d w B x.ps → szT x ≤ 1048576 →
  Calls Tryd.prog 18 #[ndV x.op x.wd x.tx x.af B x.ps.length c] w fun e w' => e = .returned (.int .i64 (dpT x)) ∧ Below w.heap.size w w'
set_option maxHeartbeats 2000000 in
theorem dp_step (d : Nat) (ih : ∀ d', d = d' + 1 → DpT d') : DpT d := by
  intro x B c w hr hz
  have hzs := szT_eq x
  have hcs := cnt_szS x.ps
  have HI := Lib.hid ih
  have HQ := Lib.hid (dpT_eq x)
  obtain ⟨z, HZ⟩ : ∃ z, Hid (z = dpT x) := ⟨_, Lib.hid rfl⟩
  rw [← HZ.out] at HQ ⊢
  obtain ⟨op, wd, tx, af, ps⟩ := x
  simp only [Tr.op, Tr.wd, Tr.tx, Tr.af, Tr.ps] at *
  have HX := Lib.hid (Bx.new w #[.int .i64 op, .string wd, .string tx, .string af, .slice B ps.length c] 31)
  have HB := Lib.hid (box_below w (.cells #[.int .i64 op, .string wd, .string tx, .string af, .slice B ps.length c] 31))
  have HR := Lib.hid hr
  have HZs : Hid (szS ps ≤ 1048576 ∧ dpS ps ≤ 1048576) := Lib.hid (by omega)
  have hm : ps.length ≤ 1048576 := by omega
  obtain ⟨n, hn⟩ : ∃ n, n = ps.length := ⟨_, rfl⟩
  rw [← hn] at HB HX hm ⊢
  have HN := Lib.hid hn
  clear hr hz hzs hn ih hcs
  go_enter Tryd.func18, Tryd.ntmps18
  go_wp2_with fail
  generalize w.alloc _ = w0 at HB HX ⊢
  go_loopw [3, 4] (fun s i wr => ∃ j t : Nat, j ≤ n ∧ i = .int .i64 j ∧ s = .int .i64 t ∧ t ≤ 1048577 ∧ Hid (t = dpS (ps.take j)) ∧ Hid (Bx wr w.heap.size [.int .i64 op, .string wd, .string tx, .string af, .slice B n c]) ∧ Below w.heap.size w wr) (fun _ i _ => n - (intOf i).toNat)
  case atStart => exact ⟨0, 0, Nat.zero_le _, rfl, rfl, by decide, Lib.hid rfl, HX, HB.out⟩
  case round =>
    obtain ⟨j, t, hj, rfl, rfl, ht, HT, HX2, hb⟩ := hrel
    have c4 := HX2.out.2 4 _ rfl
    by_cases hlt : j < n
    · have hjx : j < ps.length := by rw [← HN.out]; exact hlt
      have hx? := List.getElem?_eq_getElem hjx
      obtain ⟨d', g, o, C, cc, hd, rfl, hg, e0, e1, e2, e3, e4, hr⟩ := (HR.out.below hb).get hx?
      have HTk := Lib.hid (dpS_take hx?)
      have hle := dpS_le ps (j + 1)
      have hzx := szS_mem hx?
      have hzm := HZs.out
      clear hx?
      generalize ps[j] = y at *
      have HY := Lib.hid (HI.out d' hd y C cc wr hr (by omega))
      have hty : max t (dpT y) ≤ 1048577 := by have := HT.out; have := HTk.out; omega
      clear hr hzx hzm hd hle
      generalize dpT y = q at *
      have HMx := Lib.hid (fun w => most_any t q (max t q) w rfl)
      have HTq : Hid (max t q = dpS (ps.take (j + 1))) := Lib.hid (by rw [HTk.out, HT.out])
      generalize max t q = v at *
      go_wp2_with fail
      refine HY.out.mono ?_
      rintro e w2 ⟨rfl, b2⟩
      have HX3 := Lib.hid (HX2.out.below b2)
      have hb2 := hb.trans (b2.mono hb.size)
      clear b2 HX2 HY
      go_wp2_with fail
      refine (HMx.out _).mono ?_
      rintro e w3 ⟨rfl, rfl⟩
      go_wp2_with fail
      go_roundw
      case rel => exact ⟨j + 1, v, by omega, by go_num, rfl, hty, HTq, HX3, hb2⟩
      case measure => simp [intOf]; omega
    · have hdn : ps.length ≤ j := by have := HN.out; omega
      have HF : Hid (z = t + 1) := Lib.hid (by rw [HQ.out, HT.out, List.take_of_length_le hdn])
      clear hdn
      go_wp2_with fail
      go_ret
      exact ⟨by rw [HF.out]; first | rfl | (congr 2; go_num), hb⟩
theorem dp_all (d : Nat) : DpT d := by
  induction d with
  | zero => exact dp_step 0 (fun d' h => by omega)
  | succ d ih => exact dp_step (d + 1) (fun d' h => by have e : d' = d := (by omega); subst e; exact ih)
set_option maxHeartbeats 2000000 in
theorem good_s (nm : Int) (x : Tr) (B : Option Addr) (c d : Nat) (w : World) (hr : RdL d w B x.ps) (hz : szT x ≤ 1048576) (r : Bool) (hg : gdB nm x = r) :
    Calls Tryd.prog 13 #[stV nm x.op x.wd x.tx x.af B x.ps.length c] w fun e w' => e = .returned (.bool r) ∧ Below w.heap.size w w' := by
  have HI := Lib.hid (fun w => l1In_any nm 1 4 (decide (1 ≤ nm ∧ nm ≤ 4)) w rfl)
  have HN := Lib.hid (fun w1 (h : Below w.heap.size w w1) => node_all 5 (by decide) x B c d w1 (hr.below h) hz)
  have HC := Lib.hid (fun w1 (h : Below w.heap.size w w1) => cnt_all d x B c w1 (hr.below h) hz)
  have HR : Hid (r = (decide (1 ≤ nm ∧ nm ≤ 4) && okT 5 x && decide ((cntT x : Int) ≤ 30))) := Lib.hid (by
    rw [← hg]; unfold gdB; congr 1; rw [Bool.eq_iff_iff]; simp; omega)
  have e5 : ((5 : Nat) : Int) = 5 := rfl
  rw [e5] at HN
  clear e5 hr hz hg
  generalize decide (1 ≤ nm ∧ nm ≤ 4) = q at *
  generalize okT 5 x = ok at *
  generalize cntT x = ct at *
  obtain ⟨op, wd, tx, af, ps⟩ := x
  simp only [Tr.op, Tr.wd, Tr.tx, Tr.af, Tr.ps] at *
  generalize ps.length = n at *
  have HX := Lib.hid (Bx.new w #[.int .i64 nm, .int .i64 op, .string wd, .string tx, .string af, .slice B n c] 33)
  have HB := Lib.hid (box_below w (.cells #[.int .i64 nm, .int .i64 op, .string wd, .string tx, .string af, .slice B n c] 33))
  go_enter Tryd.func13, Tryd.ntmps13
  go_wp2_with fail
  generalize w.alloc _ = w0 at HB HX ⊢
  refine (HI.out _).mono ?_
  rintro e w1 ⟨rfl, rfl⟩
  obtain ⟨_, hx⟩ := HX.out
  have c1 := hx 1 _ rfl
  have c2 := hx 2 _ rfl
  have c3 := hx 3 _ rfl
  have c4 := hx 4 _ rfl
  have c5 := hx 5 _ rfl
  clear hx
  cases q with
  | false =>
    go_wp2_with fail
    go_ret
    exact ⟨by rw [HR.out]; rfl, HB.out⟩
  | true =>
    go_wp2_with fail
    refine (HN.out _ HB.out).mono ?_
    rintro e w1 ⟨rfl, b1⟩
    have B1 := HB.out.trans (b1.mono HB.out.size)
    obtain ⟨_, hx⟩ := HX.out.below b1
    clear c1 c2 c3 c4 c5
    have c1 := hx 1 _ rfl
    have c2 := hx 2 _ rfl
    have c3 := hx 3 _ rfl
    have c4 := hx 4 _ rfl
    have c5 := hx 5 _ rfl
    clear hx b1
    cases ok with
    | false =>
      go_wp2_with fail
      go_ret
      exact ⟨by rw [HR.out]; rfl, B1⟩
    | true =>
      go_wp2_with fail
      refine (HC.out _ B1).mono ?_
      rintro e w2 ⟨rfl, b2⟩
      have B2 := B1.trans (b2.mono B1.size)
      go_wp2_with fail
      go_ret
      exact ⟨by rw [HR.out]; rfl, B2⟩
set_option maxHeartbeats 2000000 in
theorem valid_s (nm : Int) (x : Tr) (B : Option Addr) (c d : Nat) (w : World) (hr : RdL d w B x.ps) (hz : szT x ≤ 1048576) (r : Bool) (hg : gdB nm x = r) :
    Calls Tryd.prog 6 #[stV nm x.op x.wd x.tx x.af B x.ps.length c] w fun e w' => e = .returned (.bool r) ∧ Below w.heap.size w w' := by
  have HG := Lib.hid (fun w1 (h : Below w.heap.size w w1) => good_s nm x B c d w1 (hr.below h) hz r hg)
  clear hr hz hg
  obtain ⟨op, wd, tx, af, ps⟩ := x
  simp only [Tr.op, Tr.wd, Tr.tx, Tr.af, Tr.ps] at *
  generalize ps.length = n at *
  have HB := Lib.hid (box_below w (.cells #[.int .i64 nm, .int .i64 op, .string wd, .string tx, .string af, .slice B n c] 33))
  go_enter Tryd.func6, Tryd.ntmps6
  go_wp2_with fail
  refine (HG.out _ HB.out).mono ?_
  rintro e w1 ⟨rfl, b1⟩
  have B1 := HB.out.trans (b1.mono HB.out.size)
  go_wp2_with fail
  go_ret
  exact ⟨rfl, B1⟩
/-- what CountNodes answers -/
def cnV (nm : Int) (x : Tr) : Value := if gdB nm x = true then .tuple #[.int .i64 (cntT x), .int .i64 (dpT x), .bool true] else .tuple #[.int .i64 0, .int .i64 0, .bool false]
set_option maxHeartbeats 2000000 in
theorem count_s (nm : Int) (x : Tr) (B : Option Addr) (c d : Nat) (w : World) (hr : RdL d w B x.ps) (hz : szT x ≤ 1048576) :
    Calls Tryd.prog 10 #[stV nm x.op x.wd x.tx x.af B x.ps.length c] w fun e w' => e = .returned (cnV nm x) ∧ Below w.heap.size w w' := by
  have HG := Lib.hid (fun w1 (h : Below w.heap.size w w1) => good_s nm x B c d w1 (hr.below h) hz (gdB nm x) rfl)
  have HC := Lib.hid (fun w1 (h : Below w.heap.size w w1) => cnt_all d x B c w1 (hr.below h) hz)
  have HD := Lib.hid (fun w1 (h : Below w.heap.size w w1) => dp_all d x B c w1 (hr.below h) hz)
  have HV : Hid (cnV nm x = if gdB nm x = true then .tuple #[.int .i64 (cntT x), .int .i64 (dpT x), .bool true] else .tuple #[.int .i64 0, .int .i64 0, .bool false]) := Lib.hid rfl
  clear hr hz
  generalize cnV nm x = v at *
  generalize gdB nm x = ok at *
  generalize cntT x = ct at *
  generalize dpT x = dp at *
  obtain ⟨op, wd, tx, af, ps⟩ := x
  simp only [Tr.op, Tr.wd, Tr.tx, Tr.af, Tr.ps] at *
  generalize ps.length = n at *
  have HX := Lib.hid (Bx.new w #[.int .i64 nm, .int .i64 op, .string wd, .string tx, .string af, .slice B n c] 33)
  have HB := Lib.hid (box_below w (.cells #[.int .i64 nm, .int .i64 op, .string wd, .string tx, .string af, .slice B n c] 33))
  go_enter Tryd.func10, Tryd.ntmps10
  go_wp2_with fail
  generalize w.alloc _ = w0 at HB HX ⊢
  refine (HG.out _ HB.out).mono ?_
  rintro e w1 ⟨rfl, b1⟩
  have B1 := HB.out.trans (b1.mono HB.out.size)
  have HX1 := Lib.hid (HX.out.below b1)
  clear b1
  cases ok with
  | false =>
    go_wp2_with fail
    go_ret3
    exact ⟨by rw [HV.out]; rfl, B1⟩
  | true =>
    have HS : Hid (∀ w', Kp w1 w' → ((w'.cell? ⟨w.heap.size, 1, none⟩ = some (.int .i64 op) ∧ w'.cell? ⟨w.heap.size, 2, none⟩ = some (.string wd) ∧ w'.cell? ⟨w.heap.size, 3, none⟩ = some (.string tx) ∧ w'.cell? ⟨w.heap.size, 4, none⟩ = some (.string af) ∧ w'.cell? ⟨w.heap.size, 5, none⟩ = some (.slice B n c)) ∧ Kp w1 w')) := Lib.hid (fun w' h => by
      obtain ⟨_, hx⟩ := HX1.out.below h
      exact ⟨⟨hx 1 _ rfl, hx 2 _ rfl, hx 3 _ rfl, hx 4 _ rfl, hx 5 _ rfl⟩, h⟩)
    have HK0 := Lib.hid (Kp.drew w1)
    have HCk := Lib.hid (fun w2 (h : Kp w1 w2) => HC.out w2 (B1.trans (Below.mono h B1.size)))
    have HDk := Lib.hid (fun w2 (h : Kp w1 w2) => HD.out w2 (B1.trans (Below.mono h B1.size)))
    have HBB := Lib.hid B1
    clear B1 HC HD HX HX1 HG
    go_wp2_with fail
    go_region_held3 (fun w' => (w'.cell? ⟨w.heap.size, 1, none⟩ = some (.int .i64 op) ∧ w'.cell? ⟨w.heap.size, 2, none⟩ = some (.string wd) ∧ w'.cell? ⟨w.heap.size, 3, none⟩ = some (.string tx) ∧ w'.cell? ⟨w.heap.size, 4, none⟩ = some (.string af) ∧ w'.cell? ⟨w.heap.size, 5, none⟩ = some (.slice B n c)) ∧ Kp w1 w')
      (first | exact HS.out _ HK0.out | exact HS.out _ (by assumption))
      (first
        | (go_at_call 17; with_reducible refine (HCk.out _ (by first | exact HK0.out | assumption)).mono ?_; rintro e w5 ⟨rfl, b5⟩; have hk5 : Kp w1 w5 := Kp.next (by first | exact HK0.out | assumption) b5)
        | (go_at_call 18; with_reducible refine (HDk.out _ (by first | exact HK0.out | assumption)).mono ?_; rintro e w6 ⟨rfl, b6⟩; have hk6 : Kp w1 w6 := Kp.next (by first | exact HK0.out | assumption) b6))
    all_goals
      go_wp2_with fail
      go_ret3
      exact ⟨by rw [HV.out]; rfl, HBB.out.trans (Below.mono (show Kp w1 _ by assumption) HBB.out.size)⟩
end Go.Proofs.YtlgfncemjcmpgaaDoor.Nd
