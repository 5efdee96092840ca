/-
  Contracts of the laws' helpers that look marks up: heldNodeS, heldNode, heldStyle; markNode, markStyle.
-/
import Derived.Test.YtldfdfdleaemaaaDoorNdM
import Derived.Deep.RegionHeld3
namespace Go.Proofs.YtldfdfdleaemaaaDoor.Nd
open Go.RowKit NdPl Strs
set_option linter.unusedSimpArgs false
set_option linter.unusedVariables false

theorem op_mk (o : Int) (a b c : ByteArray) (l : List Tr) : (Tr.mk o a b c l).op = o := rfl
theorem wd_mk (o : Int) (a b c : ByteArray) (l : List Tr) : (Tr.mk o a b c l).wd = a := rfl
theorem tx_mk (o : Int) (a b c : ByteArray) (l : List Tr) : (Tr.mk o a b c l).tx = b := rfl
theorem af_mk (o : Int) (a b c : ByteArray) (l : List Tr) : (Tr.mk o a b c l).af = c := rfl
theorem ps_mk (o : Int) (a b c : ByteArray) (l : List Tr) : (Tr.mk o a b c l).ps = l := rfl
def HeldL (d : Nat) : Prop := ∀ (L : List Tr) (A : Option Addr) (c N k : Nat) (w : World), RdL d w A (mkS k L) → L.length = N → 0 < k → k + 4 * cntS L ≤ 8388608 →
  Calls Tryd.prog 47 #[.slice A N c, .int .i64 k] w fun e w' => e = .returned (.int .i64 ((k + 4 * cntS L : Nat) : Int)) ∧ Below w.heap.size w w'
set_option maxRecDepth 100000 in
set_option maxHeartbeats 4000000 in
theorem heldL_step (d : Nat) (ih : ∀ d', d = d' + 1 → HeldL d') : HeldL d := by
  intro L A c N k w hr hn h0 hk
  have HI := Lib.hid ih
  have HR := Lib.hid hr
  have HN := Lib.hid hn
  have HK := Lib.hid hk
  have hk8 : k ≤ 8388608 := by omega
  have hNb : N ≤ 8388608 := by
    have h1 : L.length ≤ cntS L := by
      clear hr ih hn hk HI HR HN HK
      induction L with
      | nil => exact Nat.zero_le _
      | cons y r ih => rw [List.length_cons, cntS, cntT_eq]; omega
    omega
  clear hr ih hn hk
  go_enter Tryd.func47, Tryd.ntmps47
  go_wp2_with fail
  go_loopw [1, 5] (fun m i wr => ∃ j kk : Nat, j ≤ N ∧ i = .int .i64 j ∧ m = .int .i64 kk ∧ kk ≤ 8388608 ∧ 0 < kk ∧ Hid (kk = k + 4 * cntS (L.take j)) ∧ Below w.heap.size w wr) (fun _ i _ => N - (intOf i).toNat)
  case atStart => exact ⟨0, k, Nat.zero_le _, rfl, rfl, hk8, h0, Lib.hid (by simp [cntS]), Below.refl _ _⟩
  case round =>
    obtain ⟨j, kk, hj, rfl, rfl, hkk, hkk0, HKj, hb⟩ := hrel
    by_cases hlt : j < N
    · have hjx : j < L.length := by rw [HN.out]; exact hlt
      have hx? := List.getElem?_eq_getElem hjx
      generalize L[j] = x at hx?
      have hct : kk + 4 * cntT x ≤ 8388608 := by
        have h1 := cntS_take hx?
        have h2 := cntS_le L (j + 1)
        have := HKj.out
        have := HK.out
        omega
      have HTc := Lib.hid (cntS_take hx?)
      have hxm := mkS_at (k := k) hx?
      rw [← HKj.out, mkX_eq] at hxm
      obtain ⟨d', g, o, B, cc, hd, rfl, hg, c0, c1, c2, c3, c4, hr⟩ := (HR.out.below hb).get hxm
      simp only [op_mk, wd_mk, tx_mk, af_mk, ps_mk, mkS_len] at c0 c1 c2 c3 c4 hr
      have HCt := Lib.hid (cntT_eq x)
      rw [cntT_eq] at hct
      clear hx? hxm
      obtain ⟨k1, hk1⟩ : ∃ k1 : Nat, (kk : Int) + 1 = (k1 : Int) := ⟨kk + 1, by omega⟩
      obtain ⟨k2, hk2⟩ : ∃ k2 : Nat, (k1 : Int) + 1 = (k2 : Int) := ⟨k1 + 1, by omega⟩
      obtain ⟨k3, hk3⟩ : ∃ k3 : Nat, (k2 : Int) + 1 = (k3 : Int) := ⟨k2 + 1, by omega⟩
      obtain ⟨k4, hk4⟩ : ∃ k4 : Nat, (k3 : Int) + 1 = (k4 : Int) := ⟨k3 + 1, by omega⟩
      obtain ⟨e1, e2, e3, e4⟩ : kk + 1 = k1 ∧ kk + 2 = k2 ∧ kk + 3 = k3 ∧ kk + 4 = k4 := by omega
      rw [e1] at c1
      rw [e2] at c2
      rw [e3] at c3
      rw [e4] at hr
      have Hk4 : Hid (k4 = kk + 4) := Lib.hid e4.symm
      have HT1 := Lib.hid (fun w => markText_any k1 w (by omega) (by omega))
      have HT2 := Lib.hid (fun w => markText_any k2 w (by omega) (by omega))
      have HT3 := Lib.hid (fun w => markText_any k3 w (by omega) (by omega))
      have HY := Lib.hid (fun w1 (h : Kp wr w1) => HI.out d' hd x.ps B cc x.ps.length k4 w1 (hr.below h) rfl (by omega) (by omega))
      obtain ⟨v, hv⟩ : ∃ v, k4 + 4 * cntS x.ps = v := ⟨_, rfl⟩
      rw [hv] at HY
      have Hv : Hid (v = kk + 4 * cntT x) := Lib.hid (by rw [HCt.out, ← hv, Hk4.out]; omega)
      have hv8 : v ≤ 8388608 := by omega
      have hv0 : 0 < v := by omega
      generalize x.ps.length = n at *
      clear hr hd e1 e2 e3 e4 hv
      have HS : Hid (∀ w', Kp wr w' → ((w'.cell? ⟨g, o + j * 5, none⟩ = some (.int .i64 kk) ∧ w'.cell? ⟨g, o + j * 5 + 1, none⟩ = some (.string (mkT k1)) ∧ w'.cell? ⟨g, o + j * 5 + 2, none⟩ = some (.string (mkT k2)) ∧ w'.cell? ⟨g, o + j * 5 + 3, none⟩ = some (.string (mkT k3)) ∧ w'.cell? ⟨g, o + j * 5 + 4, none⟩ = some (.slice B n cc)) ∧ Kp wr w')) := Lib.hid (fun w' h => by
        have hc : ∀ i, w'.cell? ⟨g, i, none⟩ = wr.cell? ⟨g, i, none⟩ := fun i => Below.cell h (p := ⟨g, i, none⟩) hg
        exact ⟨⟨(hc _).trans c0, (hc _).trans c1, (hc _).trans c2, (hc _).trans c3, (hc _).trans c4⟩, h⟩)
      have HK0 := Lib.hid (Kp.drew wr)
      clear c1 c2 c3 c4
      go_wp2_with fail
      clear c0
      go_region_held3 (fun w' => (w'.cell? ⟨g, o + j * 5, none⟩ = some (.int .i64 kk) ∧ w'.cell? ⟨g, o + j * 5 + 1, none⟩ = some (.string (mkT k1)) ∧ w'.cell? ⟨g, o + j * 5 + 2, none⟩ = some (.string (mkT k2)) ∧ w'.cell? ⟨g, o + j * 5 + 3, none⟩ = some (.string (mkT k3)) ∧ w'.cell? ⟨g, o + j * 5 + 4, none⟩ = some (.slice B n cc)) ∧ Kp wr w')
        (first | exact HS.out _ HK0.out | exact HS.out _ (by assumption))
        (first
          | (go_at_call 56; with_reducible refine (HT1.out _).mono ?_; rintro e x1 ⟨rfl, b1⟩; have hk1 : Kp wr x1 := Kp.next (by first | exact HK0.out | assumption) b1))
      (try clear hHeld)
      have HK1 : Hid (Kp wr x1.drew) := Lib.hid (Kp.next hk1 (Kp.drew x1))
      clear b1 hk1
      go_wp2_with fail
      go_region_held3 (fun w' => (w'.cell? ⟨g, o + j * 5, none⟩ = some (.int .i64 kk) ∧ w'.cell? ⟨g, o + j * 5 + 1, none⟩ = some (.string (mkT k1)) ∧ w'.cell? ⟨g, o + j * 5 + 2, none⟩ = some (.string (mkT k2)) ∧ w'.cell? ⟨g, o + j * 5 + 3, none⟩ = some (.string (mkT k3)) ∧ w'.cell? ⟨g, o + j * 5 + 4, none⟩ = some (.slice B n cc)) ∧ Kp wr w')
        (first | exact HS.out _ HK1.out | exact HS.out _ (by assumption))
        (first
          | (go_at_call 56; with_reducible refine (HT2.out _).mono ?_; rintro e x2 ⟨rfl, b2⟩; have hk2 : Kp wr x2 := Kp.next (by first | exact HK1.out | assumption) b2))
      (try clear hHeld)
      have HK2 : Hid (Kp wr x2.drew) := Lib.hid (Kp.next hk2 (Kp.drew x2))
      clear b2 hk2
      go_wp2_with fail
      go_region_held3 (fun w' => (w'.cell? ⟨g, o + j * 5, none⟩ = some (.int .i64 kk) ∧ w'.cell? ⟨g, o + j * 5 + 1, none⟩ = some (.string (mkT k1)) ∧ w'.cell? ⟨g, o + j * 5 + 2, none⟩ = some (.string (mkT k2)) ∧ w'.cell? ⟨g, o + j * 5 + 3, none⟩ = some (.string (mkT k3)) ∧ w'.cell? ⟨g, o + j * 5 + 4, none⟩ = some (.slice B n cc)) ∧ Kp wr w')
        (first | exact HS.out _ HK2.out | exact HS.out _ (by assumption))
        (first
          | (go_at_call 56; with_reducible refine (HT3.out _).mono ?_; rintro e x3 ⟨rfl, b3⟩; have hk3 : Kp wr x3 := Kp.next (by first | exact HK2.out | assumption) b3))
      (try clear hHeld)
      obtain ⟨⟨_, _, _, _, q4⟩, _⟩ := HS.out _ hk3
      have HY3 := Lib.hid (HY.out x3 hk3)
      have hb3 := hb.trans (Below.mono hk3 hb.size)
      clear HS HK0 HK1 HK2 b3 hk3 HT1 HT2 HT3 HY
      go_wp2_with fail
      refine HY3.out.mono ?_
      rintro e w5 ⟨rfl, b5⟩
      have hb5 := hb3.trans (b5.mono hb3.size)
      clear q4 b5 HY3
      go_wp2_with fail
      go_roundw
      case rel => exact ⟨j + 1, v, by omega, by go_num, rfl, hv8, hv0, Lib.hid (by rw [Hv.out, HKj.out, HTc.out]; omega), hb5⟩
      case measure => simp [intOf]; omega
    · obtain rfl : j = N := by omega
      have htk : L.take j = L := List.take_of_length_le (by have := HN.out; omega)
      have HF : Hid (kk = k + 4 * cntS L) := Lib.hid (by rw [HKj.out, htk])
      clear htk
      go_wp2_with fail
      go_ret
      exact ⟨by rw [HF.out]; rfl, hb⟩
theorem heldL_all (d : Nat) : HeldL d := by
  induction d with
  | zero => exact heldL_step 0 (fun d' h => by omega)
  | succ d ih => exact heldL_step (d + 1) (fun d' h => by have e : d' = d := (by omega); subst e; exact ih)
/-- the tree of a style, marked from 1 on: what stands at the node itself stays -/
def mkR (x : Tr) : Tr := .mk x.op x.wd x.tx x.af (mkS 1 x.ps)
set_option maxHeartbeats 1000000 in
theorem markNode (d : Nat) (op : Int) (wd tx af : ByteArray) (L : List Tr) (A : Option Addr) (c N : Nat) (F : List Nat) (w : World) (ho : OwL d w A c L F) (hF : F.Nodup) (hn : L.length = N) (hk : cntS L ≤ 2000000) :
    Calls Tryd.prog 26 #[ndV op wd tx af A N c, .int .i64 1] w fun e w' => e = .returned (.int .i64 ((1 + 4 * cntS L : Nat) : Int)) ∧ OwL d w' A c (mkS 1 L) F ∧ OutF F w w' := by
  have HM := Lib.hid (fun w1 (h : Below w.heap.size w w1) => markL_all d L A c N F 1 w1 (ho.below h) hF hn (by decide) (by omega))
  have e1 : ((1 : Nat) : Int) = 1 := rfl
  rw [e1] at HM
  generalize 1 + 4 * cntS L = v at *
  have HB := Lib.hid (box_below w (.cells #[.int .i64 op, .string wd, .string tx, .string af, .slice A N c] 30))
  clear ho hF hn hk e1
  go_enter Tryd.func26, Tryd.ntmps26
  go_wp2_with fail
  refine (HM.out _ HB.out).mono ?_
  rintro e w1 ⟨rfl, o1, f1⟩
  have HO := Lib.hid o1
  have HF := Lib.hid f1
  clear o1 f1 HM
  go_wp2_with fail
  go_ret
  exact ⟨rfl, HO.out, (OutF.of_below HB.out).trans HF.out⟩
set_option maxHeartbeats 1000000 in
theorem markStyle (d : Nat) (nm : Int) (x : Tr) (A : Option Addr) (c : Nat) (F : List Nat) (w : World) (ho : OwL d w A c x.ps F) (hF : F.Nodup) (hk : cntS x.ps ≤ 2000000) :
    Calls Tryd.prog 11 #[stV nm x.op x.wd x.tx x.af A x.ps.length c, .int .i64 1] w fun e w' => e = .returned (.int .i64 ((1 + 4 * cntS x.ps : Nat) : Int)) ∧ OwL d w' A c (mkS 1 x.ps) F ∧ OutF F w w' := by
  have HM := Lib.hid (fun w1 (h : Below w.heap.size w w1) => markNode d x.op x.wd x.tx x.af x.ps A c x.ps.length F w1 (ho.below h) hF rfl hk)
  clear ho hF hk
  obtain ⟨op, wd, tx, af, ps⟩ := x
  simp only [Tr.op, Tr.wd, Tr.tx, Tr.af, Tr.ps] at *
  generalize 1 + 4 * cntS ps = v at *
  generalize ps.length = n at *
  have HB := Lib.hid (box_below w (.cells #[.int .i64 nm, .int .i64 op, .string wd, .string tx, .string af, .slice A n c] 32))
  go_enter Tryd.func11, Tryd.ntmps11
  go_wp2_with fail
  refine (HM.out _ HB.out).mono ?_
  rintro e w1 ⟨rfl, o1, f1⟩
  have HO := Lib.hid o1
  have HF := Lib.hid f1
  clear o1 f1 HM
  go_wp2_with fail
  go_ret
  exact ⟨rfl, HO.out, (OutF.of_below HB.out).trans HF.out⟩
set_option maxHeartbeats 1000000 in
theorem heldNode (d : Nat) (op : Int) (wd tx af : ByteArray) (L : List Tr) (A : Option Addr) (c N : Nat) (w : World) (hr : RdL d w A (mkS 1 L)) (hn : L.length = N) (hk : cntS L ≤ 2000000) :
    Calls Tryd.prog 27 #[ndV op wd tx af A N c, .int .i64 1] w fun e w' => e = .returned (.int .i64 ((1 + 4 * cntS L : Nat) : Int)) ∧ Below w.heap.size w w' := by
  have HM := Lib.hid (fun w1 (h : Below w.heap.size w w1) => heldL_all d L A c N 1 w1 (hr.below h) hn (by decide) (by omega))
  have e1 : ((1 : Nat) : Int) = 1 := rfl
  rw [e1] at HM
  have hv : 1 + 4 * cntS L ≤ 8388608 := by omega
  generalize 1 + 4 * cntS L = v at *
  have HB := Lib.hid (box_below w (.cells #[.int .i64 op, .string wd, .string tx, .string af, .slice A N c] 30))
  clear hr hn hk e1
  go_enter Tryd.func27, Tryd.ntmps27
  go_wp2_with fail
  refine (HM.out _ HB.out).mono ?_
  rintro e w1 ⟨rfl, b1⟩
  have B1 := HB.out.trans (b1.mono HB.out.size)
  go_wp2_with fail
  go_ret
  exact ⟨rfl, B1⟩
set_option maxHeartbeats 1000000 in
theorem heldStyle (d : Nat) (nm : Int) (x : Tr) (A : Option Addr) (c : Nat) (w : World) (hr : RdL d w A (mkS 1 x.ps)) (hk : cntS x.ps ≤ 2000000) :
    Calls Tryd.prog 12 #[stV nm x.op x.wd x.tx x.af A x.ps.length c, .int .i64 1] w fun e w' => e = .returned (.int .i64 ((1 + 4 * cntS x.ps : Nat) : Int)) ∧ Below w.heap.size w w' := by
  have HM := Lib.hid (fun w1 (h : Below w.heap.size w w1) => heldNode d x.op x.wd x.tx x.af x.ps A c x.ps.length w1 (hr.below h) rfl hk)
  have hv : 1 + 4 * cntS x.ps ≤ 8388608 := by omega
  clear hr hk
  obtain ⟨op, wd, tx, af, ps⟩ := x
  simp only [Tr.op, Tr.wd, Tr.tx, Tr.af, Tr.ps] at *
  generalize 1 + 4 * cntS ps = v at *
  generalize ps.length = n at *
  have HB := Lib.hid (box_below w (.cells #[.int .i64 nm, .int .i64 op, .string wd, .string tx, .string af, .slice A n c] 32))
  go_enter Tryd.func12, Tryd.ntmps12
  go_wp2_with fail
  refine (HM.out _ HB.out).mono ?_
  rintro e w1 ⟨rfl, b1⟩
  have B1 := HB.out.trans (b1.mono HB.out.size)
  go_wp2_with fail
  go_ret
  exact ⟨rfl, B1⟩
end Go.Proofs.YtldfdfdleaemaaaDoor.Nd
