/-
  Proved: for every style, however deep, the law FnExactFieldsUsed returns true: FieldsUsed answers as its model, writes into no argument, and its answer owns its memory; the argument reads as before. Condition: the listed tables nodeForms and kindWords lie as the program's text lays them.
-/
import Derived.Test.YtbibjcmfgpmddaaDoorRows
import Derived.Test.YtbibjcmfgpmddaaDoorNdM2
import Derived.Test.YtbibjcmfgpmddaaDoorNdO
import Derived.Test.YtbibjcmfgpmddaaDoorNdT
import Derived.Test.YtbibjcmfgpmddaaDoorNdFu5
import Derived.WalkKit
import Derived.OpenVars
import Derived.ChangeVars
import Derived.ProofKit
import Derived.OpenShut
import Derived.ShutString
import Derived.ChangeOld
import Derived.Below
import Derived.Lib.SmallJoins
import Derived.Test.YtbibjcmfgpmddaaDoorCards
import Derived.Test.YtbibjcmfgpmddaaDoorTie
import Derived.LaidMore
import Derived.Lay
import Derived.SevenTiedAt
import Derived.Stop.Joined
namespace Go.Proofs.YtbibjcmfgpmddaaDoor.fnExactFieldsUsed
open Go.ChangeShapes Go.WideShapes Go.ChangeAt Go.RowKit
open Go.ChangeMaps (open_string shut_string)
open NdPl Nd Ns
set_option linter.unusedVariables false
set_option linter.unusedSimpArgs false

set_option maxRecDepth 100000 in
set_option maxHeartbeats 8000000 in
theorem walk (nm : Int) (x : Tr) (B : Option Addr) (c d : Nat) (w : World) (hr : RdL d w B x.ps) (hm : LimL d x.ps) (ha : x.wd.size ≤ maxLen) (hb : x.tx.size ≤ maxLen) (hc : x.af.size ≤ maxLen) (hT : Tabs w) :
    Calls Tryd.prog 3 #[stV nm x.op x.wd x.tx x.af B x.ps.length c] w fun e w' => e = .returned (.bool true) ∧ Below w.heap.size w w' := by
  have HSz := Lib.hid (fun w1 (h : Below w.heap.size w w1) => szStyle d nm x B c w1 (hr.below h) hm ha hb hc)
  by_cases hfit : szT x ≤ 1048576
  · have hps : x.ps.length + szS x.ps ≤ 1048576 := by rw [szT_eq] at hfit; omega
    obtain ⟨t, ht⟩ : ∃ t : Nat, szR 1048576 (szT x) = (t : Int) := ⟨1048576 - szT x, szR_ok hfit⟩
    rw [ht] at HSz
    have hxc : cntS x.ps ≤ 2000000 := by have := (cnt_szS x.ps).1; omega
    have hfl := fuL_len nm x hfit
    rw [← fuB_len] at hfl
    obtain ⟨nx, hnx⟩ : ∃ nx, (fuB nm x).length = nx := ⟨_, rfl⟩
    rw [hnx] at hfl
    have hnl : nx ≤ 2097152 := by omega
    have HTo := Lib.hid (fun w1 (h : Below w.heap.size w w1) => toStyle d nm x B c w1 (hr.below h) hps)
    have HTb := Lib.hid (fun w1 (h : Below w.heap.size w w1) => hT.below h)
    have HS := Lib.hid (fun w1 A c' (h : RdL d w1 A x.ps) => used_s2 nm x A c' d w1 h hfit nx hnx)
    have HI := Lib.hid (fun w1 A c' (h : RdL d w1 A x.ps) (h2 : Tabs w1) => used_i2 nm x A c' d w1 h hfit h2 nx hnx)
    have HE := Lib.hid (fun w1 A A' c1 c2 (h : RdL d w1 A x.ps) (h2 : RdL d w1 A' x.ps) => eqStyle d nm x A A' c1 c2 w1 h h2 hps)
    have HEs := Lib.hid (fun w1 v b g cc (h1 : OwS w1 b v nx (fuB nm x)) (h2 : RwS w1 g (fuB nm x)) => eq_texts v b g cc nx (fuB nm x) w1 h1 h2 hnl)
    have HMx := Lib.hid (fun w1 A c' F (h : OwL d w1 A c' x.ps F) (hF : F.Nodup) => markStyle d nm x A c' F w1 h hF hxc)
    have HMs := Lib.hid (fun w1 v b (h : OwS w1 b v nx (fuB nm x)) => mark_texts b v (fuB nm x) nx w1 h hnx hnl)
    have HHs := Lib.hid (fun w1 v b (h : OwS w1 b v nx (Strs.marks 1 nx)) => held_texts b v nx w1 h hnl)
    generalize fuB nm x = xs at *
    generalize gdB nm x = rb at *
    have hvx : 1 + 4 * cntS x.ps ≤ 8388608 := by omega
    generalize 1 + 4 * cntS x.ps = vx at *
    clear hr hm ha hb hc hT hfit hps ht hxc hfl hnx
    obtain ⟨op, wd, tx, af, ps⟩ := x
    simp only [op_mk, wd_mk, tx_mk, af_mk, ps_mk] at *
    generalize ps.length = n at *
    have K0 := Lib.hid (box_below w (.cells #[.int .i64 nm, .int .i64 op, .string wd, .string tx, .string af, .slice B n c] 26))
    have X0 := Lib.hid (Bx.new w #[.int .i64 nm, .int .i64 op, .string wd, .string tx, .string af, .slice B n c] 26)
    have K0s0 : Hid (w.heap.size < (w.alloc (.cells #[.int .i64 nm, .int .i64 op, .string wd, .string tx, .string af, .slice B n c] 26)).heap.size) := Lib.hid (by simp)
    go_enter Tryd.func3, Tryd.ntmps3
    go_wp2_with fail
    generalize w.alloc _ = w0 at K0 X0 K0s0 ⊢
    refine (HSz.out _ K0.out).mono ?_
    rintro e w1 ⟨rfl, b1⟩
    have K0s := Lib.hid (Nat.lt_of_lt_of_le K0s0.out b1.size)
    clear K0s0
    have K1 := Lib.hid (K0.out.trans (b1.mono K0.out.size))
    have X1 := Lib.hid (X0.out.below b1)
    clear K0
    clear X0
    have N1 := Lib.hid b1.size
    clear b1
    have x0 := X1.out.2 0 _ rfl
    have x1 := X1.out.2 1 _ rfl
    have x2 := X1.out.2 2 _ rfl
    have x3 := X1.out.2 3 _ rfl
    have x4 := X1.out.2 4 _ rfl
    have x5 := X1.out.2 5 _ rfl
    have xl := X1.out.1
    go_wp2_with fail
    clear x0 x1 x2 x3 x4 x5 xl
    refine (HTo.out _ K1.out).mono ?_
    rintro e w2 ⟨g2, n2, F2, rfl, o2, -, -, b2⟩
    have R2 := Lib.hid o2.rd
    clear o2
    have K2 := Lib.hid (K1.out.trans (b2.mono K1.out.size))
    have X2 := Lib.hid (X1.out.below b2)
    clear K1
    clear X1
    have N2 := Lib.hid b2.size
    clear b2
    go_wp2_with fail
    refine (HS.out _ _ _ R2.out).mono ?_
    rintro e w3 ⟨gw, cw, rfl, o3, b3⟩
    clear R2
    have K3 := Lib.hid (K2.out.trans (b3.mono K2.out.size))
    have X3 := Lib.hid (X2.out.below b3)
    clear K2
    clear X2
    have N3 := Lib.hid b3.size
    clear b3
    have Gw := Lib.hid o3.1
    have RW3 := Lib.hid o3
    clear o3
    have x0 := X3.out.2 0 _ rfl
    have x1 := X3.out.2 1 _ rfl
    have x2 := X3.out.2 2 _ rfl
    have x3 := X3.out.2 3 _ rfl
    have x4 := X3.out.2 4 _ rfl
    have x5 := X3.out.2 5 _ rfl
    have xl := X3.out.1
    go_wp2_with fail
    clear x0 x1 x2 x3 x4 x5 xl
    refine (HTo.out _ K3.out).mono ?_
    rintro e w4 ⟨g4, n4, Fx, rfl, o4, nx4, l4, b4⟩
    have K4 := Lib.hid (K3.out.trans (b4.mono K3.out.size))
    have X4 := Lib.hid (X3.out.below b4)
    have RW4 := Lib.hid (RW3.out.below b4)
    clear K3
    clear X3
    clear RW3
    have N4 := Lib.hid b4.size
    clear b4
    have Xl := Lib.hid l4
    have Xh := Lib.hid o4.lt
    have OX4 := Lib.hid o4
    have NX := Lib.hid nx4
    clear o4 l4 nx4
    have bx := (Below.refl w4.heap.size w4).alloc (Nat.le_refl _) (.cells #[.int .i64 nm, .int .i64 op, .string wd, .string tx, .string af, .slice (some ⟨g4, 0, none⟩) n n4] 35)
    have BX4 := Lib.hid (Bx.new w4 #[.int .i64 nm, .int .i64 op, .string wd, .string tx, .string af, .slice (some ⟨g4, 0, none⟩) n n4] 35)
    have Nx : Hid (w4.heap.size < (w4.alloc (.cells #[.int .i64 nm, .int .i64 op, .string wd, .string tx, .string af, .slice (some ⟨g4, 0, none⟩) n n4] 35)).heap.size) := Lib.hid (by simp)
    have Ku := Lib.hid (K4.out.trans (bx.mono K4.out.size))
    clear K4
    have Xu := Lib.hid (X4.out.below bx)
    clear X4
    have RWu := Lib.hid (RW4.out.below bx)
    clear RW4
    have OXu := Lib.hid (OX4.out.below bx)
    clear OX4
    have BXu := BX4
    clear BX4 bx
    go_wp2_with fail
    generalize w4.alloc _ = wu at *
    refine (HI.out _ _ _ OXu.out.rd (HTb.out _ Ku.out)).mono ?_
    rintro e w5 ⟨vg, rfl, o5, b5⟩
    have K5 := Lib.hid (Ku.out.trans (b5.mono Ku.out.size))
    have X5 := Lib.hid (Xu.out.below b5)
    have RW5 := Lib.hid (RWu.out.below b5)
    have OX5 := Lib.hid (OXu.out.below b5)
    have BX5 := Lib.hid (BXu.out.below b5)
    clear Ku
    clear Xu
    clear RWu
    clear OXu
    clear BXu
    have N5 := Lib.hid b5.size
    clear b5
    have OG5 := Lib.hid o5
    have Gb : Hid (∀ k, vg.ownBlock = some k → wu.heap.size ≤ k) := Lib.hid (fun k hk => (o5.lt k hk).1)
    clear o5
    go_wp2_with fail
    refine (HEs.out _ _ _ _ _ OG5.out RW5.out).mono ?_
    rintro e w6 ⟨rfl, b6⟩
    have K6 := Lib.hid (K5.out.trans (b6.mono K5.out.size))
    have X6 := Lib.hid (X5.out.below b6)
    have RW6 := Lib.hid (RW5.out.below b6)
    have OX6 := Lib.hid (OX5.out.below b6)
    have BX6 := Lib.hid (BX5.out.below b6)
    have OG6 := Lib.hid (OG5.out.below b6)
    clear K5
    clear X5
    clear RW5
    clear OX5
    clear BX5
    clear OG5
    have N6 := Lib.hid b6.size
    clear b6
    have HSt : Hid (∀ w', Kp w6 w' → ((w'.cell? ⟨w.heap.size, 0, none⟩ = some (.int .i64 nm) ∧ w'.cell? ⟨w.heap.size, 1, none⟩ = some (.int .i64 op) ∧ w'.cell? ⟨w.heap.size, 2, none⟩ = some (.string wd) ∧ w'.cell? ⟨w.heap.size, 3, none⟩ = some (.string tx) ∧ w'.cell? ⟨w.heap.size, 4, none⟩ = some (.string af) ∧ w'.cell? ⟨w.heap.size, 5, none⟩ = some (.slice B n c) ∧ w'.cell? ⟨w4.heap.size, 0, none⟩ = some (.int .i64 nm) ∧ w'.cell? ⟨w4.heap.size, 1, none⟩ = some (.int .i64 op) ∧ w'.cell? ⟨w4.heap.size, 2, none⟩ = some (.string wd) ∧ w'.cell? ⟨w4.heap.size, 3, none⟩ = some (.string tx) ∧ w'.cell? ⟨w4.heap.size, 4, none⟩ = some (.string af) ∧ w'.cell? ⟨w4.heap.size, 5, none⟩ = some (.slice (some ⟨g4, 0, none⟩) n n4)) ∧ Kp w6 w')) := Lib.hid (fun w' h => by
      obtain ⟨_, hx⟩ := X6.out.below h
      obtain ⟨_, hy⟩ := BX6.out.below h
      exact ⟨⟨hx 0 _ rfl, hx 1 _ rfl, hx 2 _ rfl, hx 3 _ rfl, hx 4 _ rfl, hx 5 _ rfl, hy 0 _ rfl, hy 1 _ rfl, hy 2 _ rfl, hy 3 _ rfl, hy 4 _ rfl, hy 5 _ rfl⟩, h⟩)
    have HK0 := Lib.hid (Kp.drew w6)
    have HTk := Lib.hid (fun w7 (h : Kp w6 w7) => HTo.out w7 (K6.out.trans (Below.mono h K6.out.size)))
    have RXk := Lib.hid (fun w7 (h : Kp w6 w7) => (OX6.out.below h).rd)
    go_wp2_with fail
    go_region_held3 (fun w' => (w'.cell? ⟨w.heap.size, 0, none⟩ = some (.int .i64 nm) ∧ w'.cell? ⟨w.heap.size, 1, none⟩ = some (.int .i64 op) ∧ w'.cell? ⟨w.heap.size, 2, none⟩ = some (.string wd) ∧ w'.cell? ⟨w.heap.size, 3, none⟩ = some (.string tx) ∧ w'.cell? ⟨w.heap.size, 4, none⟩ = some (.string af) ∧ w'.cell? ⟨w.heap.size, 5, none⟩ = some (.slice B n c) ∧ w'.cell? ⟨w4.heap.size, 0, none⟩ = some (.int .i64 nm) ∧ w'.cell? ⟨w4.heap.size, 1, none⟩ = some (.int .i64 op) ∧ w'.cell? ⟨w4.heap.size, 2, none⟩ = some (.string wd) ∧ w'.cell? ⟨w4.heap.size, 3, none⟩ = some (.string tx) ∧ w'.cell? ⟨w4.heap.size, 4, none⟩ = some (.string af) ∧ w'.cell? ⟨w4.heap.size, 5, none⟩ = some (.slice (some ⟨g4, 0, none⟩) n n4)) ∧ Kp w6 w')
      (first | exact HSt.out _ HK0.out | exact HSt.out _ (by assumption))
      (first
        | (go_at_call 9; with_reducible refine (HE.out _ _ _ _ _ (RXk.out _ (by first | exact HK0.out | assumption)) (by assumption)).mono ?_; rintro e w7 ⟨rfl, b7⟩; have hk7 : Kp w6 w7 := Kp.next (by assumption) b7)
        | (go_at_call 6; with_reducible refine (HTk.out _ (by first | exact HK0.out | assumption)).mono ?_; rintro e w6' ⟨g6, n6, F6, rfl, o6, -, -, b6⟩; have hk6 : Kp w6 w6' := Kp.next (by first | exact HK0.out | assumption) b6; have hrd6 := o6.rd))
    have c7 : Below w6.heap.size w6 w7 := hk7
    clear HSt HK0 HTk RXk HE hk7 hk6 hrd6 o6 b6 b7
    (try clear hHeld)
    have K7 := Lib.hid (K6.out.trans (c7.mono K6.out.size))
    have X7 := Lib.hid (X6.out.below c7)
    have RW7 := Lib.hid (RW6.out.below c7)
    have OX7 := Lib.hid (OX6.out.below c7)
    have BX7 := Lib.hid (BX6.out.below c7)
    have OG7 := Lib.hid (OG6.out.below c7)
    clear K6
    clear X6
    clear RW6
    clear OX6
    clear BX6
    clear OG6
    have N7 := Lib.hid c7.size
    clear c7
    have p0 := BX7.out.2 0 _ rfl
    have p1 := BX7.out.2 1 _ rfl
    have p2 := BX7.out.2 2 _ rfl
    have p3 := BX7.out.2 3 _ rfl
    have p4 := BX7.out.2 4 _ rfl
    have p5 := BX7.out.2 5 _ rfl
    have pl := BX7.out.1
    go_wp2_with fail
    clear p0 p1 p2 p3 p4 p5 pl
    refine (HMx.out _ _ _ _ OX7.out NX.out).mono ?_
    rintro e w8 ⟨rfl, -, f8⟩
    have K8 := Lib.hid (f8.below K7.out (fun b hb => by have := Xl.out b hb; have := K0s.out; have := N1.out; have := N2.out; have := N3.out; have := N4.out; have := Nx.out; have := N5.out; have := Gw.out; omega))
    have X8 := Lib.hid (bx_out X7.out f8 (fun hb => by have := Xl.out _ hb; have := K0s.out; have := N1.out; have := N2.out; have := N3.out; have := N4.out; have := Nx.out; have := N5.out; have := Gw.out; omega))
    have RW8 := Lib.hid (RW7.out.outF f8 (fun hb => by have := Xl.out _ hb; have := N1.out; have := N2.out; have := N3.out; have := N4.out; have := Nx.out; have := N5.out; have := Gw.out; omega))
    have OG8 := Lib.hid (OG7.out.outF f8 (fun b hb => by have := Xh.out b hb; have := N1.out; have := N2.out; have := N3.out; have := N4.out; have := Nx.out; have := N5.out; have := Gw.out; omega))
    clear f8 K7 X7 RW7 OG7 OX7 BX7 HMx NX
    go_wp2_with fail
    refine (HEs.out _ _ _ _ _ OG8.out RW8.out).mono ?_
    rintro e w9 ⟨rfl, b9⟩
    have K9 := Lib.hid (K8.out.trans (b9.mono K8.out.size))
    have X9 := Lib.hid (X8.out.below b9)
    have RW9 := Lib.hid (RW8.out.below b9)
    have OG9 := Lib.hid (OG8.out.below b9)
    clear K8
    clear X8
    clear RW8
    clear OG8
    have N9 := Lib.hid b9.size
    clear b9
    go_wp2_with fail
    refine (HMs.out _ _ _ OG9.out).mono ?_
    rintro e w10 ⟨rfl, m10, f10⟩
    have K10 := Lib.hid (K9.out.grown f10 K9.out.size (fun k hk => by have := Gb.out k hk; have := K0s.out; have := N1.out; have := N2.out; have := N3.out; have := N4.out; have := Nx.out; have := N5.out; have := Gw.out; omega))
    have X10 := Lib.hid (bx_grown X9.out f10 (fun hb => by have := Gb.out _ hb; have := K0s.out; have := N1.out; have := N2.out; have := N3.out; have := N4.out; have := Nx.out; have := N5.out; have := Gw.out; omega))
    have RW10 := Lib.hid (RW9.out.grown f10 (fun hb => by have := Gb.out _ hb; have := N1.out; have := N2.out; have := N3.out; have := N4.out; have := Nx.out; have := N5.out; have := Gw.out; omega))
    have OG10 := Lib.hid m10
    clear f10 m10 K9 X9 RW9 OG9 HMs
    go_wp2_with fail
    refine (HHs.out _ _ _ OG10.out).mono ?_
    rintro e w11 ⟨rfl, b11⟩
    have K11 := Lib.hid (K10.out.trans (b11.mono K10.out.size))
    have X11 := Lib.hid (X10.out.below b11)
    have RW11 := Lib.hid (RW10.out.below b11)
    have OG11 := Lib.hid (OG10.out.below b11)
    clear K10
    clear X10
    clear RW10
    clear OG10
    have N11 := Lib.hid b11.size
    clear b11
    have x0 := X11.out.2 0 _ rfl
    have x1 := X11.out.2 1 _ rfl
    have x2 := X11.out.2 2 _ rfl
    have x3 := X11.out.2 3 _ rfl
    have x4 := X11.out.2 4 _ rfl
    have x5 := X11.out.2 5 _ rfl
    have xl := X11.out.1
    go_wp2_with fail
    clear x0 x1 x2 x3 x4 x5 xl
    refine (HTo.out _ K11.out).mono ?_
    rintro e w12 ⟨g12, n12, F12, rfl, o12, -, -, b12⟩
    have R12 := Lib.hid o12.rd
    clear o12
    have K12 := Lib.hid (K11.out.trans (b12.mono K11.out.size))
    have X12 := Lib.hid (X11.out.below b12)
    have RW12 := Lib.hid (RW11.out.below b12)
    have OG12 := Lib.hid (OG11.out.below b12)
    clear K11
    clear X11
    clear RW11
    clear OG11
    have N12 := Lib.hid b12.size
    clear b12
    go_wp2_with fail
    refine (HI.out _ _ _ R12.out (HTb.out _ K12.out)).mono ?_
    rintro e w13 ⟨vh, rfl, o13, b13⟩
    clear R12
    have K13 := Lib.hid (K12.out.trans (b13.mono K12.out.size))
    have X13 := Lib.hid (X12.out.below b13)
    have RW13 := Lib.hid (RW12.out.below b13)
    have OG13 := Lib.hid (OG12.out.below b13)
    clear K12
    clear X12
    clear RW12
    clear OG12
    have N13 := Lib.hid b13.size
    clear b13
    have OJ13 := Lib.hid o13
    clear o13
    go_wp2_with fail
    refine (HEs.out _ _ _ _ _ OJ13.out RW13.out).mono ?_
    rintro e w14 ⟨rfl, b14⟩
    have K14 := Lib.hid (K13.out.trans (b14.mono K13.out.size))
    have X14 := Lib.hid (X13.out.below b14)
    have RW14 := Lib.hid (RW13.out.below b14)
    have OG14 := Lib.hid (OG13.out.below b14)
    have OJ14 := Lib.hid (OJ13.out.below b14)
    clear K13
    clear X13
    clear RW13
    clear OG13
    clear OJ13
    have N14 := Lib.hid b14.size
    clear b14
    go_wp2_with fail
    refine (HHs.out _ _ _ OG14.out).mono ?_
    rintro e w15 ⟨rfl, b15⟩
    have K15 := Lib.hid (K14.out.trans (b15.mono K14.out.size))
    have X15 := Lib.hid (X14.out.below b15)
    have RW15 := Lib.hid (RW14.out.below b15)
    have OG15 := Lib.hid (OG14.out.below b15)
    have OJ15 := Lib.hid (OJ14.out.below b15)
    clear K14
    clear X14
    clear RW14
    clear OG14
    clear OJ14
    have N15 := Lib.hid b15.size
    clear b15
    go_wp2_with fail
    go_ret
    exact ⟨rfl, K15.out⟩
  · have ht : szR 1048576 (szT x) = -1 := szR_no hfit
    rw [ht] at HSz
    clear ht hr hm ha hb hc hfit hT
    obtain ⟨op, wd, tx, af, ps⟩ := x
    simp only [op_mk, wd_mk, tx_mk, af_mk, ps_mk] at *
    generalize ps.length = n at *
    have HB := Lib.hid (box_below w (.cells #[.int .i64 nm, .int .i64 op, .string wd, .string tx, .string af, .slice B n c] 26))
    go_enter Tryd.func3, Tryd.ntmps3
    go_wp2_with fail
    refine (HSz.out _ HB.out).mono ?_
    rintro e w1 ⟨rfl, b1⟩
    have k1 := HB.out.trans (b1.mono HB.out.size)
    go_wp2_with fail
    go_ret
    exact ⟨rfl, k1⟩

set_option maxRecDepth 100000 in
theorem lifted (os : Os) (started : os.Started) (H : Type) (enc : TypeId × Value → H) :
    ReturnsInHanded {} Tryd.checked os 3 .any (fun w args => (Rows.fnExactFieldsUsedSpec.pre enc Tryd.prog Tryd.f3 Rows.fnExactFieldsUsedRow.domain false w args ∧ laidMetH Tryd.prog Rows.fnExactFieldsUsedRow.laid w) ∧ sizedMet enc Tryd.prog Tryd.f3 (OpenSpec.ofChange Rows.fnExactFieldsUsedSpec) false w args)
      (Rows.fnExactFieldsUsedSpec.post enc Tryd.prog Tryd.f3 false true false false) := by
  refine returnsInHanded_of_change_and (C := Tryd.checked) (X := fun w _ => laidMetH Tryd.prog Rows.fnExactFieldsUsedRow.laid w) (fun _ _ _ hh h => h.of_heap hh) own started (by kernel_rfl) Tryd.func3
    (ChangeSpec.witness_shaped (enc := enc) (C := Tryd.checked) (os := os) (X := fun w _ => laidMetH Tryd.prog Rows.fnExactFieldsUsedRow.laid w) false (World.laidAll Tryd.prog os Rows.fnExactFieldsUsedRow.laid) #[.agg #[.int .i64 0, .int .i64 0, .string ByteArray.empty, .string ByteArray.empty, .string ByteArray.empty, .slice none 0 0]] 8 (World.laidAll_os _ _ _)
      (World.shaped_of_ZipB (by kernel_rfl) (by kernel_rfl)) (by kernel_rfl) (by kernel_rfl) (by kernel_rfl)
      (by rw [MakeChecks.laidMetH_plain _ _ _ (by kernel_rfl)]; exact laidMet_laidAll _ (by kernel_rfl) (by kernel_rfl))) ?_
  intro W base args ds gs before hval0 hW hcnd _ hL _
  rw [MakeChecks.laidMetH_plain _ _ _ (by kernel_rfl)] at hL
  have hval : ∀ (j : Nat) t v, Tryd.f3.params[j]? = some t → args[j]? = some v → Value.okWide Tryd.prog W .any base t v := hval0
  have hW' := hW
  obtain ⟨p, q, hA0, hV, rfl, hfz, hnd⟩ := hW
  have hA : DataW.TrodAll enc Tryd.prog W 0 (fun _ => true) true Tryd.f3.params.toList args.toList ds p := hA0
  rw [Tryd.params3] at hA hval
  obtain ⟨v0, vs0, d0, ds0, p0, q0, hargs, rfl, rfl, h0, r0⟩ := trodAll_cons hA
  obtain ⟨rfl, rfl, rfl⟩ := trodAll_nil r0
  obtain rfl : args = #[v0] := by cases args; simp_all
  obtain ⟨_, _, _, _, _, _, _, _, _, _, _, _, rfl, _⟩ := trodVars_two hV
  have k0 := h0
  have lt0 : ∀ x ∈ p0, x.block < W.heap.size := by obtain ⟨m, hm⟩ := k0; exact DataW.trod_lt m _ _ _ hm
  obtain ⟨nm0, x0, B0, c0, dd0, rfl, hr0, hm0, ha0, hb0, hc0⟩ := open_style (hval 0 26 v0 rfl rfl) h0
  clear hA0 hval0
  refine (walk nm0 x0 B0 c0 dd0 W hr0 hm0 ha0 hb0 hc0 (tabs_of hL)).mono fun e W' ⟨he, bel⟩ => ?_
  subst he
  exact ⟨_, rfl, _, _, _, [], _, q, hW', trodAll_mk1 (shut_bool Tryd.underlying4 _), (trodAll_cons_mk (Below.trod laidOut (by kernel_rfl) (of_decide_eq_true (by kernel_rfl)) k0 bel lt0) trodAll_mk0), bel.trodVars laidOut (by kernel_rfl) hV, bel.frame _, fun h => by cases h⟩

theorem closed : joinedFacts Tryd.pinned.checked.prog 3 Tryd.f3 Rows.fnExactFieldsUsedSpec Rows.fnExactFieldsUsedRow = true := by kernel_rfl
theorem over : Rows.fnExactFieldsUsedRow.holds Tryd.pinned (OpenSpec.ofChange Rows.fnExactFieldsUsedSpec) :=
  OpenClaim.holds_of_wide 3 Tryd.f3 rfl rfl rfl rfl rfl rfl rfl ⟨rfl, rfl, rfl, rfl, rfl⟩ rfl rfl rfl rfl rfl (by kernel_rfl) Tryd.func3 closed
    (of_decide_eq_true (by kernel_rfl)) (by unfold Func.isWrapper; first | (rw [if_pos (by decide +kernel)]; kernel_rfl) | (rw [if_neg (by decide +kernel)]; exact ⟨rfl, rfl⟩))
    (fun os started H enc _ => lifted os started H enc)

theorem plain (f : FuncId) (fn : Func) (hf : Tryd.pinned.checked.prog.funcNamed "loop.example/g00896/laws.FnExactFieldsUsed" = some f) (hfn : Tryd.pinned.checked.prog.funcs[f]? = some fn) :
    false = Tryd.pinned.checked.prog.looks [] ∧ ∀ (j : Nat) t, fn.params[j]? = some t → Tryd.pinned.checked.prog.wantsStandIn t = false := by
  obtain rfl : f = 3 := Option.some.inj ((show Tryd.prog.funcNamed "loop.example/g00896/laws.FnExactFieldsUsed" = some 3 by kernel_rfl).symm.trans hf) |>.symm
  obtain rfl : fn = Tryd.f3 := (Option.some.inj (Tryd.func3.symm.trans hfn)).symm
  refine ⟨by kernel_rfl, fun j t ht => ?_⟩
  rw [Tryd.params3] at ht
  obtain rfl : t = 26 := by simpa using Array.mem_of_getElem? ht
  exact (show Tryd.prog.wantsStandIn 26 = false by kernel_rfl)

theorem card : Rows.FnExactFieldsUsedCardSaid :=
  Claim7.holds_tied_plain_at .later [] _ _ _ _ over (fun _ h => by cases h) (by kernel_rfl) (fun _ h => by cases h) fnExactFieldsUsed_row_tie rfl ⟨rfl, rfl⟩ (by kernel_rfl) rfl plain (by kernel_rfl)
#print axioms card
end Go.Proofs.YtbibjcmfgpmddaaDoor.fnExactFieldsUsed
