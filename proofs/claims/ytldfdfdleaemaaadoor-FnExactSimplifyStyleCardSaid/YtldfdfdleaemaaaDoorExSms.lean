/-
  Proved: for every style, however deep, the law FnExactSimplifyStyle returns true: SimplifyStyle answers as its model, writes into no argument, and its answer owns its memory; the argument reads as before. Condition: the listed tables nodeForms and kindWords lie as the program's text lays them.
-/
import Derived.Test.YtldfdfdleaemaaaDoorRows
import Derived.Test.YtldfdfdleaemaaaDoorNdM2
import Derived.Test.YtldfdfdleaemaaaDoorNdO
import Derived.Test.YtldfdfdleaemaaaDoorNdT
import Derived.Test.YtldfdfdleaemaaaDoorNdMr
import Derived.Test.YtldfdfdleaemaaaDoorNdMm
import Derived.Test.YtldfdfdleaemaaaDoorNdSm
import Derived.WalkKit
import Derived.OpenVars
import Derived.ChangeVars
import Derived.ProofKit
import Derived.OpenShut
import Derived.ShutString
import Derived.ChangeOld
import Derived.Below
import Derived.Lib.SmallJoins
import Derived.Test.YtldfdfdleaemaaaDoorCards
import Derived.Test.YtldfdfdleaemaaaDoorTie
import Derived.LaidMore
import Derived.Lay
import Derived.SevenTiedAt
import Derived.Stop.Joined
namespace Go.Proofs.YtldfdfdleaemaaaDoor.fnExactSimplifyStyle
open Go.ChangeShapes Go.WideShapes Go.ChangeAt Go.RowKit
open Go.ChangeMaps (open_string shut_string)
open NdPl Nd Ns
set_option linter.unusedVariables false
set_option linter.unusedSimpArgs false

theorem bx_out {w w' : World} {b : Nat} {vs : List Value} {F : List Nat} (h : Bx w b vs) (f : OutF F w w') (hb : b ∉ F) : Bx w' b vs := by
  have hk := f.block b h.1 hb
  exact ⟨Nat.lt_of_lt_of_le h.1 f.size, fun i v hv => (World.cell?_of_block (a := ⟨b, i, none⟩) hk).trans (h.2 i v hv)⟩
def StP (d : Nat) (w : World) (B : Nat) (r : Bool) (nm : Int) (zo : Int) (zw zt za : ByteArray) (zn : Nat) (zp : List Tr) (e : Ending) (w' : World) : Prop :=
  ∃ (A : Option Addr) (c : Nat) (F : List Nat), e = .returned (.tuple #[stV nm zo zw zt za A zn c, .bool r]) ∧ OwL d w' A c zp F ∧ F.Nodup ∧ (∀ b ∈ F, B ≤ b) ∧ Below w.heap.size w w'
theorem StP.of {P : Program} {f : FuncId} {args : Array Value} {d : Nat} {w : World} {B : Nat} {r : Bool} {nm : Int} {z : Tr} (h : Calls P f args w (StPost d w B r nm z)) : Calls P f args w (StP d w B r nm z.op z.wd z.tx z.af z.ps.length z.ps) :=
  h.mono (fun e w' h => h)
set_option maxRecDepth 100000 in
set_option maxHeartbeats 8000000 in
theorem walk (nm : Int) (x : Tr) (B : Option Addr) (c d : Nat) (w : World) (hr : RdL d w B x.ps) (hm : LimL d x.ps) (ha : x.wd.size ≤ maxLen) (hb : x.tx.size ≤ maxLen) (hc : x.af.size ≤ maxLen) (hT : Tabs w) :
    Calls Tryd.prog 4 #[stV nm x.op x.wd x.tx x.af B x.ps.length c] w fun e w' => e = .returned (.bool true) ∧ Below w.heap.size w w' := by
  have HSz := Lib.hid (fun w1 (h : Below w.heap.size w w1) => szStyle d nm x B c w1 (hr.below h) hm ha hb hc)
  by_cases hfit : szT x ≤ 1048576
  · have hps : x.ps.length + szS x.ps ≤ 1048576 := by rw [szT_eq] at hfit; omega
    obtain ⟨t, ht⟩ : ∃ t : Nat, szR 1048576 (szT x) = (t : Int) := ⟨1048576 - szT x, szR_ok hfit⟩
    rw [ht] at HSz
    have hsm := small_sm nm x
    obtain ⟨z, hz⟩ : ∃ z, z = cgT smF nm x := ⟨_, rfl⟩
    rw [← hz] at hsm
    have hzs : z.ps.length + szS z.ps ≤ 1048576 := by have := szT_eq z; omega
    have hzc : cntS z.ps ≤ 2000000 := by have := cntT_eq z; omega
    have hxc : cntS x.ps ≤ 2000000 := by have := (cnt_szS x.ps).1; omega
    have HTo := Lib.hid (fun w1 (h : Below w.heap.size w w1) => toStyle d nm x B c w1 (hr.below h) hps)
    have HTb := Lib.hid (fun w1 (h : Below w.heap.size w w1) => hT.below h)
    have HS := Lib.hid (fun w1 A c' (h : RdL d w1 A x.ps) (h2 : Tabs w1) => StP.of (simple_s sSm_all nm x A c' d w1 h hfit))
    have HI := Lib.hid (fun w1 A c' (h : RdL d w1 A x.ps) (h2 : Tabs w1) => StP.of (simple_i nm x A c' d w1 h hfit h2))
    have HE := Lib.hid (fun w1 A A' c1 c2 (h : RdL d w1 A x.ps) (h2 : RdL d w1 A' x.ps) => eqStyle d nm x A A' c1 c2 w1 h h2 hps)
    have HEz := Lib.hid (fun w1 A A' c1 c2 (h : RdL (d + 1) w1 A z.ps) (h2 : RdL (d + 1) w1 A' z.ps) => eqStyle (d + 1) (cgN smF nm x) z A A' c1 c2 w1 h h2 hzs)
    have HMx := Lib.hid (fun w1 A c' F (h : OwL d w1 A c' x.ps F) (hF : F.Nodup) => markStyle d nm x A c' F w1 h hF hxc)
    have HMz := Lib.hid (fun w1 A c' F (h : OwL (d + 1) w1 A c' z.ps F) (hF : F.Nodup) => markStyle (d + 1) (cgN smF nm x) z A c' F w1 h hF hzc)
    have HHz := Lib.hid (fun w1 A c' (h : RdL (d + 1) w1 A (mkS 1 z.ps)) => heldStyle (d + 1) (cgN smF nm x) z A c' w1 h hzc)
    rw [← hz] at HS HI
    generalize cgN smF nm x = rn at *
    generalize gdB nm x = rb at *
    have hvx : 1 + 4 * cntS x.ps ≤ 8388608 := by omega
    have hvz : 1 + 4 * cntS z.ps ≤ 8388608 := by omega
    generalize 1 + 4 * cntS x.ps = vx at *
    generalize 1 + 4 * cntS z.ps = vz at *
    clear hr hm ha hb hc hT hfit hps ht hsm hzs hzc hxc hz
    obtain ⟨op, wd, tx, af, ps⟩ := x
    obtain ⟨zo, zw, zt, za, zp⟩ := z
    simp only [op_mk, wd_mk, tx_mk, af_mk, ps_mk] at *
    generalize ps.length = n at *
    generalize zp.length = zn at *
    have K0 := Lib.hid (box_below w (.cells #[.int .i64 nm, .int .i64 op, .string wd, .string tx, .string af, .slice B n c] 26))
    have X0 := Lib.hid (Bx.new w #[.int .i64 nm, .int .i64 op, .string wd, .string tx, .string af, .slice B n c] 26)
    have K0s0 : Hid (w.heap.size < (w.alloc (.cells #[.int .i64 nm, .int .i64 op, .string wd, .string tx, .string af, .slice B n c] 26)).heap.size) := Lib.hid (by simp)
    go_enter Tryd.func4, Tryd.ntmps4
    go_wp2_with fail
    generalize w.alloc _ = w0 at K0 X0 K0s0 ⊢
    refine (HSz.out _ K0.out).mono ?_
    rintro e w1 ⟨rfl, b1⟩
    have K1 := Lib.hid (K0.out.trans (b1.mono K0.out.size))
    have X1 := Lib.hid (X0.out.below b1)
    clear K0
    clear X0
    have K0s := Lib.hid (Nat.lt_of_lt_of_le K0s0.out b1.size)
    clear K0s0
    have N1 := Lib.hid b1.size
    clear b1
    have x0 := X1.out.2 0 _ rfl
    have x1 := X1.out.2 1 _ rfl
    have x2 := X1.out.2 2 _ rfl
    have x3 := X1.out.2 3 _ rfl
    have x4 := X1.out.2 4 _ rfl
    have x5 := X1.out.2 5 _ rfl
    have xl := X1.out.1
    go_wp2_with fail
    clear x0 x1 x2 x3 x4 x5 xl
    refine (HTo.out _ K1.out).mono ?_
    rintro e w2 ⟨g2, n2, F2, rfl, o2, -, -, b2⟩
    have R2 := Lib.hid o2.rd
    clear o2
    have K2 := Lib.hid (K1.out.trans (b2.mono K1.out.size))
    have X2 := Lib.hid (X1.out.below b2)
    clear K1
    clear X1
    have N2 := Lib.hid b2.size
    clear b2
    go_wp2_with fail
    refine (HS.out _ _ _ R2.out (HTb.out _ K2.out)).mono ?_
    rintro e w3 ⟨zA, zc, Fw, rfl, o3, -, l3, b3⟩
    clear R2
    have K3 := Lib.hid (K2.out.trans (b3.mono K2.out.size))
    have X3 := Lib.hid (X2.out.below b3)
    clear K2
    clear X2
    have N3 := Lib.hid b3.size
    clear b3
    have Wl := Lib.hid l3
    have Wh := Lib.hid o3.lt
    have OW3 := Lib.hid o3
    clear o3 l3
    have bw := (Below.refl w3.heap.size w3).alloc (Nat.le_refl _) (.cells #[.int .i64 rn, .int .i64 zo, .string zw, .string zt, .string za, .slice zA zn zc] 32)
    have BW3 := Lib.hid (Bx.new w3 #[.int .i64 rn, .int .i64 zo, .string zw, .string zt, .string za, .slice zA zn zc] 32)
    have Nw : Hid (w3.heap.size < (w3.alloc (.cells #[.int .i64 rn, .int .i64 zo, .string zw, .string zt, .string za, .slice zA zn zc] 32)).heap.size) := Lib.hid (by simp)
    have Kv := Lib.hid (K3.out.trans (bw.mono K3.out.size))
    clear K3
    have Xv := Lib.hid (X3.out.below bw)
    clear X3
    have OWv := Lib.hid (OW3.out.below bw)
    clear OW3
    have BWv := BW3
    clear BW3
    have x0 := Xv.out.2 0 _ rfl
    have x1 := Xv.out.2 1 _ rfl
    have x2 := Xv.out.2 2 _ rfl
    have x3 := Xv.out.2 3 _ rfl
    have x4 := Xv.out.2 4 _ rfl
    have x5 := Xv.out.2 5 _ rfl
    have xl := Xv.out.1
    clear bw
    go_wp2_with fail
    generalize w3.alloc _ = wv at *
    clear x0 x1 x2 x3 x4 x5 xl
    refine (HTo.out _ Kv.out).mono ?_
    rintro e w4 ⟨g4, n4, Fx, rfl, o4, nx, l4, b4⟩
    have K4 := Lib.hid (Kv.out.trans (b4.mono Kv.out.size))
    have X4 := Lib.hid (Xv.out.below b4)
    have OW4 := Lib.hid (OWv.out.below b4)
    have BW4 := Lib.hid (BWv.out.below b4)
    clear Kv
    clear Xv
    clear OWv
    clear BWv
    have N4 := Lib.hid b4.size
    clear b4
    have Xl := Lib.hid l4
    have Xh := Lib.hid o4.lt
    have OX4 := Lib.hid o4
    have NX := Lib.hid nx
    clear o4 l4 nx
    have bx := (Below.refl w4.heap.size w4).alloc (Nat.le_refl _) (.cells #[.int .i64 nm, .int .i64 op, .string wd, .string tx, .string af, .slice (some ⟨g4, 0, none⟩) n n4] 32)
    have BX4 := Lib.hid (Bx.new w4 #[.int .i64 nm, .int .i64 op, .string wd, .string tx, .string af, .slice (some ⟨g4, 0, none⟩) n n4] 32)
    have Nx : Hid (w4.heap.size < (w4.alloc (.cells #[.int .i64 nm, .int .i64 op, .string wd, .string tx, .string af, .slice (some ⟨g4, 0, none⟩) n n4] 32)).heap.size) := Lib.hid (by simp)
    have Ku := Lib.hid (K4.out.trans (bx.mono K4.out.size))
    clear K4
    have Xu := Lib.hid (X4.out.below bx)
    clear X4
    have OWu := Lib.hid (OW4.out.below bx)
    clear OW4
    have BWu := Lib.hid (BW4.out.below bx)
    clear BW4
    have OXu := Lib.hid (OX4.out.below bx)
    clear OX4
    have BXu := BX4
    clear BX4 bx
    go_wp2_with fail
    generalize w4.alloc _ = wu at *
    refine (HI.out _ _ _ OXu.out.rd (HTb.out _ Ku.out)).mono ?_
    rintro e w5 ⟨hA, hc, Fg, rfl, o5, ng, l5, b5⟩
    have K5 := Lib.hid (Ku.out.trans (b5.mono Ku.out.size))
    have X5 := Lib.hid (Xu.out.below b5)
    have OW5 := Lib.hid (OWu.out.below b5)
    have BW5 := Lib.hid (BWu.out.below b5)
    have OX5 := Lib.hid (OXu.out.below b5)
    have BX5 := Lib.hid (BXu.out.below b5)
    clear Ku
    clear Xu
    clear OWu
    clear BWu
    clear OXu
    clear BXu
    have N5 := Lib.hid b5.size
    clear b5
    have Gl := Lib.hid l5
    have Gh := Lib.hid o5.lt
    have OG5 := Lib.hid o5
    have NG := Lib.hid ng
    clear o5 l5 ng
    have bg := (Below.refl w5.heap.size w5).alloc (Nat.le_refl _) (.cells #[.int .i64 rn, .int .i64 zo, .string zw, .string zt, .string za, .slice hA zn hc] 32)
    have BG5 := Lib.hid (Bx.new w5 #[.int .i64 rn, .int .i64 zo, .string zw, .string zt, .string za, .slice hA zn hc] 32)
    have Ng : Hid (w5.heap.size < (w5.alloc (.cells #[.int .i64 rn, .int .i64 zo, .string zw, .string zt, .string za, .slice hA zn hc] 32)).heap.size) := Lib.hid (by simp)
    have Kt := Lib.hid (K5.out.trans (bg.mono K5.out.size))
    clear K5
    have Xt := Lib.hid (X5.out.below bg)
    clear X5
    have OWt := Lib.hid (OW5.out.below bg)
    clear OW5
    have BWt := Lib.hid (BW5.out.below bg)
    clear BW5
    have OXt := Lib.hid (OX5.out.below bg)
    clear OX5
    have BXt := Lib.hid (BX5.out.below bg)
    clear BX5
    have OGt := Lib.hid (OG5.out.below bg)
    clear OG5
    have BGt := BG5
    clear BG5 bg
    have p0 := BWt.out.2 0 _ rfl
    have p1 := BWt.out.2 1 _ rfl
    have p2 := BWt.out.2 2 _ rfl
    have p3 := BWt.out.2 3 _ rfl
    have p4 := BWt.out.2 4 _ rfl
    have p5 := BWt.out.2 5 _ rfl
    have pl := BWt.out.1
    go_wp2_with fail
    generalize w5.alloc _ = wt at *
    clear p0 p1 p2 p3 p4 p5 pl
    refine (HEz.out _ _ _ _ _ OGt.out.rd OWt.out.rd).mono ?_
    rintro e w6 ⟨rfl, b6⟩
    have K6 := Lib.hid (Kt.out.trans (b6.mono Kt.out.size))
    have X6 := Lib.hid (Xt.out.below b6)
    have OW6 := Lib.hid (OWt.out.below b6)
    have BW6 := Lib.hid (BWt.out.below b6)
    have OX6 := Lib.hid (OXt.out.below b6)
    have BX6 := Lib.hid (BXt.out.below b6)
    have OG6 := Lib.hid (OGt.out.below b6)
    have BG6 := Lib.hid (BGt.out.below b6)
    clear Kt
    clear Xt
    clear OWt
    clear BWt
    clear OXt
    clear BXt
    clear OGt
    clear BGt
    have N6 := Lib.hid b6.size
    clear b6
    have HSt : Hid (∀ w', Kp w6 w' → ((w'.cell? ⟨w.heap.size, 0, none⟩ = some (.int .i64 nm) ∧ w'.cell? ⟨w.heap.size, 1, none⟩ = some (.int .i64 op) ∧ w'.cell? ⟨w.heap.size, 2, none⟩ = some (.string wd) ∧ w'.cell? ⟨w.heap.size, 3, none⟩ = some (.string tx) ∧ w'.cell? ⟨w.heap.size, 4, none⟩ = some (.string af) ∧ w'.cell? ⟨w.heap.size, 5, none⟩ = some (.slice B n c) ∧ w'.cell? ⟨w4.heap.size, 0, none⟩ = some (.int .i64 nm) ∧ w'.cell? ⟨w4.heap.size, 1, none⟩ = some (.int .i64 op) ∧ w'.cell? ⟨w4.heap.size, 2, none⟩ = some (.string wd) ∧ w'.cell? ⟨w4.heap.size, 3, none⟩ = some (.string tx) ∧ w'.cell? ⟨w4.heap.size, 4, none⟩ = some (.string af) ∧ w'.cell? ⟨w4.heap.size, 5, none⟩ = some (.slice (some ⟨g4, 0, none⟩) n n4)) ∧ Kp w6 w')) := Lib.hid (fun w' h => by
      obtain ⟨_, hx⟩ := X6.out.below h
      obtain ⟨_, hy⟩ := BX6.out.below h
      exact ⟨⟨hx 0 _ rfl, hx 1 _ rfl, hx 2 _ rfl, hx 3 _ rfl, hx 4 _ rfl, hx 5 _ rfl, hy 0 _ rfl, hy 1 _ rfl, hy 2 _ rfl, hy 3 _ rfl, hy 4 _ rfl, hy 5 _ rfl⟩, h⟩)
    have HK0 := Lib.hid (Kp.drew w6)
    have HTk := Lib.hid (fun w7 (h : Kp w6 w7) => HTo.out w7 (K6.out.trans (Below.mono h K6.out.size)))
    have RXk := Lib.hid (fun w7 (h : Kp w6 w7) => (OX6.out.below h).rd)
    go_wp2_with fail
    go_region_held3 (fun w' => (w'.cell? ⟨w.heap.size, 0, none⟩ = some (.int .i64 nm) ∧ w'.cell? ⟨w.heap.size, 1, none⟩ = some (.int .i64 op) ∧ w'.cell? ⟨w.heap.size, 2, none⟩ = some (.string wd) ∧ w'.cell? ⟨w.heap.size, 3, none⟩ = some (.string tx) ∧ w'.cell? ⟨w.heap.size, 4, none⟩ = some (.string af) ∧ w'.cell? ⟨w.heap.size, 5, none⟩ = some (.slice B n c) ∧ w'.cell? ⟨w4.heap.size, 0, none⟩ = some (.int .i64 nm) ∧ w'.cell? ⟨w4.heap.size, 1, none⟩ = some (.int .i64 op) ∧ w'.cell? ⟨w4.heap.size, 2, none⟩ = some (.string wd) ∧ w'.cell? ⟨w4.heap.size, 3, none⟩ = some (.string tx) ∧ w'.cell? ⟨w4.heap.size, 4, none⟩ = some (.string af) ∧ w'.cell? ⟨w4.heap.size, 5, none⟩ = some (.slice (some ⟨g4, 0, none⟩) n n4)) ∧ Kp w6 w')
      (first | exact HSt.out _ HK0.out | exact HSt.out _ (by assumption))
      (first
        | (go_at_call 10; with_reducible refine (HE.out _ _ _ _ _ (RXk.out _ (by first | exact HK0.out | assumption)) (by assumption)).mono ?_; rintro e w7 ⟨rfl, b7⟩; have hk7 : Kp w6 w7 := Kp.next (by assumption) b7)
        | (go_at_call 8; with_reducible refine (HTk.out _ (by first | exact HK0.out | assumption)).mono ?_; rintro e w6' ⟨g6, n6, F6, rfl, o6, -, -, b6⟩; have hk6 : Kp w6 w6' := Kp.next (by first | exact HK0.out | assumption) b6; have hrd6 := o6.rd))
    have c7 : Below w6.heap.size w6 w7 := hk7
    clear HSt HK0 HTk RXk HE hk7 hk6 hrd6 o6 b6 b7
    (try clear hHeld)
    have K7 := Lib.hid (K6.out.trans (c7.mono K6.out.size))
    have X7 := Lib.hid (X6.out.below c7)
    have OW7 := Lib.hid (OW6.out.below c7)
    have BW7 := Lib.hid (BW6.out.below c7)
    have OX7 := Lib.hid (OX6.out.below c7)
    have BX7 := Lib.hid (BX6.out.below c7)
    have OG7 := Lib.hid (OG6.out.below c7)
    have BG7 := Lib.hid (BG6.out.below c7)
    clear K6
    clear X6
    clear OW6
    clear BW6
    clear OX6
    clear BX6
    clear OG6
    clear BG6
    have N7 := Lib.hid c7.size
    clear c7
    have p0 := BX7.out.2 0 _ rfl
    have p1 := BX7.out.2 1 _ rfl
    have p2 := BX7.out.2 2 _ rfl
    have p3 := BX7.out.2 3 _ rfl
    have p4 := BX7.out.2 4 _ rfl
    have p5 := BX7.out.2 5 _ rfl
    have pl := BX7.out.1
    go_wp2_with fail
    clear p0 p1 p2 p3 p4 p5 pl
    refine (HMx.out _ _ _ _ OX7.out NX.out).mono ?_
    rintro e w8 ⟨rfl, -, f8⟩
    have K8 := Lib.hid (f8.below K7.out (fun b hb => by have := Xl.out b hb; have := K0s.out; have := N1.out; have := N2.out; have := N3.out; have := Nw.out; have := N4.out; have := Nx.out; have := N5.out; have := Ng.out; omega))
    have X8 := Lib.hid (bx_out X7.out f8 (fun hb => by have := Xl.out _ hb; have := K0s.out; have := N1.out; have := N2.out; have := N3.out; have := Nw.out; have := N4.out; have := Nx.out; have := N5.out; have := Ng.out; omega))
    have BW8 := Lib.hid (bx_out BW7.out f8 (fun hb => by have := Xl.out _ hb; have := N1.out; have := N2.out; have := N3.out; have := Nw.out; have := N4.out; have := Nx.out; have := N5.out; have := Ng.out; omega))
    have BG8 := Lib.hid (bx_out BG7.out f8 (fun hb => by have := Xh.out _ hb; have := N1.out; have := N2.out; have := N3.out; have := Nw.out; have := N4.out; have := Nx.out; have := N5.out; have := Ng.out; omega))
    have OW8 := Lib.hid (f8.own OW7.out (fun b h1 h2 => by have := Wh.out b h1; have := Xl.out b h2; have := N1.out; have := N2.out; have := N3.out; have := Nw.out; have := N4.out; have := Nx.out; have := N5.out; have := Ng.out; omega))
    have OG8 := Lib.hid (f8.own OG7.out (fun b h1 h2 => by have := Gl.out b h1; have := Xh.out b h2; have := N1.out; have := N2.out; have := N3.out; have := Nw.out; have := N4.out; have := Nx.out; have := N5.out; have := Ng.out; omega))
    clear f8 K7 X7 BW7 BG7 OW7 OG7 OX7 BX7 HMx NX
    have p0 := BG8.out.2 0 _ rfl
    have p1 := BG8.out.2 1 _ rfl
    have p2 := BG8.out.2 2 _ rfl
    have p3 := BG8.out.2 3 _ rfl
    have p4 := BG8.out.2 4 _ rfl
    have p5 := BG8.out.2 5 _ rfl
    have pl := BG8.out.1
    have s0 := BW8.out.2 0 _ rfl
    have s1 := BW8.out.2 1 _ rfl
    have s2 := BW8.out.2 2 _ rfl
    have s3 := BW8.out.2 3 _ rfl
    have s4 := BW8.out.2 4 _ rfl
    have s5 := BW8.out.2 5 _ rfl
    have sl := BW8.out.1
    go_wp2_with fail
    clear p0 p1 p2 p3 p4 p5 pl
    clear s0 s1 s2 s3 s4 s5 sl
    refine (HEz.out _ _ _ _ _ OG8.out.rd OW8.out.rd).mono ?_
    rintro e w9 ⟨rfl, b9⟩
    have K9 := Lib.hid (K8.out.trans (b9.mono K8.out.size))
    have X9 := Lib.hid (X8.out.below b9)
    have OW9 := Lib.hid (OW8.out.below b9)
    have BW9 := Lib.hid (BW8.out.below b9)
    have OG9 := Lib.hid (OG8.out.below b9)
    have BG9 := Lib.hid (BG8.out.below b9)
    clear K8
    clear X8
    clear OW8
    clear BW8
    clear OG8
    clear BG8
    have N9 := Lib.hid b9.size
    clear b9
    have p0 := BG9.out.2 0 _ rfl
    have p1 := BG9.out.2 1 _ rfl
    have p2 := BG9.out.2 2 _ rfl
    have p3 := BG9.out.2 3 _ rfl
    have p4 := BG9.out.2 4 _ rfl
    have p5 := BG9.out.2 5 _ rfl
    have pl := BG9.out.1
    go_wp2_with fail
    clear p0 p1 p2 p3 p4 p5 pl
    refine (HMz.out _ _ _ _ OG9.out NG.out).mono ?_
    rintro e w10 ⟨rfl, m10, f10⟩
    have K10 := Lib.hid (f10.below K9.out (fun b hb => by have := Gl.out b hb; have := K0s.out; have := N1.out; have := N2.out; have := N3.out; have := Nw.out; have := N4.out; have := Nx.out; have := N5.out; have := Ng.out; omega))
    have X10 := Lib.hid (bx_out X9.out f10 (fun hb => by have := Gl.out _ hb; have := K0s.out; have := N1.out; have := N2.out; have := N3.out; have := Nw.out; have := N4.out; have := Nx.out; have := N5.out; have := Ng.out; omega))
    have BW10 := Lib.hid (bx_out BW9.out f10 (fun hb => by have := Gl.out _ hb; have := N1.out; have := N2.out; have := N3.out; have := Nw.out; have := N4.out; have := Nx.out; have := N5.out; have := Ng.out; omega))
    have BG10 := Lib.hid (bx_out BG9.out f10 (fun hb => by have := Gh.out _ hb; have := N1.out; have := N2.out; have := N3.out; have := Nw.out; have := N4.out; have := Nx.out; have := N5.out; have := Ng.out; omega))
    have OW10 := Lib.hid (f10.own OW9.out (fun b h1 h2 => by have := Wh.out b h1; have := Gl.out b h2; have := N1.out; have := N2.out; have := N3.out; have := Nw.out; have := N4.out; have := Nx.out; have := N5.out; have := Ng.out; omega))
    have OG10 := Lib.hid m10
    clear f10 m10 K9 X9 BW9 BG9 OW9 OG9 HMz NG
    have p0 := BG10.out.2 0 _ rfl
    have p1 := BG10.out.2 1 _ rfl
    have p2 := BG10.out.2 2 _ rfl
    have p3 := BG10.out.2 3 _ rfl
    have p4 := BG10.out.2 4 _ rfl
    have p5 := BG10.out.2 5 _ rfl
    have pl := BG10.out.1
    go_wp2_with fail
    clear p0 p1 p2 p3 p4 p5 pl
    refine (HHz.out _ _ _ OG10.out.rd).mono ?_
    rintro e w11 ⟨rfl, b11⟩
    have K11 := Lib.hid (K10.out.trans (b11.mono K10.out.size))
    have X11 := Lib.hid (X10.out.below b11)
    have OW11 := Lib.hid (OW10.out.below b11)
    have BW11 := Lib.hid (BW10.out.below b11)
    have OG11 := Lib.hid (OG10.out.below b11)
    have BG11 := Lib.hid (BG10.out.below b11)
    clear K10
    clear X10
    clear OW10
    clear BW10
    clear OG10
    clear BG10
    have N11 := Lib.hid b11.size
    clear b11
    have x0 := X11.out.2 0 _ rfl
    have x1 := X11.out.2 1 _ rfl
    have x2 := X11.out.2 2 _ rfl
    have x3 := X11.out.2 3 _ rfl
    have x4 := X11.out.2 4 _ rfl
    have x5 := X11.out.2 5 _ rfl
    have xl := X11.out.1
    go_wp2_with fail
    clear x0 x1 x2 x3 x4 x5 xl
    refine (HTo.out _ K11.out).mono ?_
    rintro e w12 ⟨g12, n12, F12, rfl, o12, -, -, b12⟩
    have R12 := Lib.hid o12.rd
    clear o12
    have K12 := Lib.hid (K11.out.trans (b12.mono K11.out.size))
    have X12 := Lib.hid (X11.out.below b12)
    have OW12 := Lib.hid (OW11.out.below b12)
    have BW12 := Lib.hid (BW11.out.below b12)
    have OG12 := Lib.hid (OG11.out.below b12)
    have BG12 := Lib.hid (BG11.out.below b12)
    clear K11
    clear X11
    clear OW11
    clear BW11
    clear OG11
    clear BG11
    have N12 := Lib.hid b12.size
    clear b12
    go_wp2_with fail
    refine (HI.out _ _ _ R12.out (HTb.out _ K12.out)).mono ?_
    rintro e w13 ⟨jA, jc, Fj, rfl, o13, -, -, b13⟩
    clear R12
    have K13 := Lib.hid (K12.out.trans (b13.mono K12.out.size))
    have X13 := Lib.hid (X12.out.below b13)
    have OW13 := Lib.hid (OW12.out.below b13)
    have BW13 := Lib.hid (BW12.out.below b13)
    have OG13 := Lib.hid (OG12.out.below b13)
    have BG13 := Lib.hid (BG12.out.below b13)
    clear K12
    clear X12
    clear OW12
    clear BW12
    clear OG12
    clear BG12
    have N13 := Lib.hid b13.size
    clear b13
    have OJ13 := Lib.hid o13
    clear o13
    have bj := (Below.refl w13.heap.size w13).alloc (Nat.le_refl _) (.cells #[.int .i64 rn, .int .i64 zo, .string zw, .string zt, .string za, .slice jA zn jc] 32)
    have Ks := Lib.hid (K13.out.trans (bj.mono K13.out.size))
    clear K13
    have Xs := Lib.hid (X13.out.below bj)
    clear X13
    have OWs := Lib.hid (OW13.out.below bj)
    clear OW13
    have BWs := Lib.hid (BW13.out.below bj)
    clear BW13
    have OGs := Lib.hid (OG13.out.below bj)
    clear OG13
    have BGs := Lib.hid (BG13.out.below bj)
    clear BG13
    have OJs := Lib.hid (OJ13.out.below bj)
    clear OJ13
    have p0 := BWs.out.2 0 _ rfl
    have p1 := BWs.out.2 1 _ rfl
    have p2 := BWs.out.2 2 _ rfl
    have p3 := BWs.out.2 3 _ rfl
    have p4 := BWs.out.2 4 _ rfl
    have p5 := BWs.out.2 5 _ rfl
    have pl := BWs.out.1
    clear bj
    go_wp2_with fail
    generalize w13.alloc _ = ws at *
    clear p0 p1 p2 p3 p4 p5 pl
    refine (HEz.out _ _ _ _ _ OJs.out.rd OWs.out.rd).mono ?_
    rintro e w14 ⟨rfl, b14⟩
    have K14 := Lib.hid (Ks.out.trans (b14.mono Ks.out.size))
    have X14 := Lib.hid (Xs.out.below b14)
    have OW14 := Lib.hid (OWs.out.below b14)
    have BW14 := Lib.hid (BWs.out.below b14)
    have OG14 := Lib.hid (OGs.out.below b14)
    have BG14 := Lib.hid (BGs.out.below b14)
    have OJ14 := Lib.hid (OJs.out.below b14)
    clear Ks
    clear Xs
    clear OWs
    clear BWs
    clear OGs
    clear BGs
    clear OJs
    have N14 := Lib.hid b14.size
    clear b14
    have p0 := BG14.out.2 0 _ rfl
    have p1 := BG14.out.2 1 _ rfl
    have p2 := BG14.out.2 2 _ rfl
    have p3 := BG14.out.2 3 _ rfl
    have p4 := BG14.out.2 4 _ rfl
    have p5 := BG14.out.2 5 _ rfl
    have pl := BG14.out.1
    go_wp2_with fail
    clear p0 p1 p2 p3 p4 p5 pl
    refine (HHz.out _ _ _ OG14.out.rd).mono ?_
    rintro e w15 ⟨rfl, b15⟩
    have K15 := Lib.hid (K14.out.trans (b15.mono K14.out.size))
    have X15 := Lib.hid (X14.out.below b15)
    have OW15 := Lib.hid (OW14.out.below b15)
    have BW15 := Lib.hid (BW14.out.below b15)
    have OG15 := Lib.hid (OG14.out.below b15)
    have BG15 := Lib.hid (BG14.out.below b15)
    have OJ15 := Lib.hid (OJ14.out.below b15)
    clear K14
    clear X14
    clear OW14
    clear BW14
    clear OG14
    clear BG14
    clear OJ14
    have N15 := Lib.hid b15.size
    clear b15
    go_wp2_with fail
    go_ret
    exact ⟨rfl, K15.out⟩
  · have ht : szR 1048576 (szT x) = -1 := szR_no hfit
    rw [ht] at HSz
    clear ht hr hm ha hb hc hfit hT
    obtain ⟨op, wd, tx, af, ps⟩ := x
    simp only [op_mk, wd_mk, tx_mk, af_mk, ps_mk] at *
    generalize ps.length = n at *
    have HB := Lib.hid (box_below w (.cells #[.int .i64 nm, .int .i64 op, .string wd, .string tx, .string af, .slice B n c] 26))
    go_enter Tryd.func4, Tryd.ntmps4
    go_wp2_with fail
    refine (HSz.out _ HB.out).mono ?_
    rintro e w1 ⟨rfl, b1⟩
    have k1 := HB.out.trans (b1.mono HB.out.size)
    go_wp2_with fail
    go_ret
    exact ⟨rfl, k1⟩

set_option maxRecDepth 100000 in
theorem lifted (os : Os) (started : os.Started) (H : Type) (enc : TypeId × Value → H) :
    ReturnsInHanded {} Tryd.checked os 4 .any (fun w args => (Rows.fnExactSimplifyStyleSpec.pre enc Tryd.prog Tryd.f4 Rows.fnExactSimplifyStyleRow.domain false w args ∧ laidMetH Tryd.prog Rows.fnExactSimplifyStyleRow.laid w) ∧ sizedMet enc Tryd.prog Tryd.f4 (OpenSpec.ofChange Rows.fnExactSimplifyStyleSpec) false w args)
      (Rows.fnExactSimplifyStyleSpec.post enc Tryd.prog Tryd.f4 false true false false) := by
  refine returnsInHanded_of_change_and (C := Tryd.checked) (X := fun w _ => laidMetH Tryd.prog Rows.fnExactSimplifyStyleRow.laid w) (fun _ _ _ hh h => h.of_heap hh) own started (by kernel_rfl) Tryd.func4
    (ChangeSpec.witness_shaped (enc := enc) (C := Tryd.checked) (os := os) (X := fun w _ => laidMetH Tryd.prog Rows.fnExactSimplifyStyleRow.laid w) false (World.laidAll Tryd.prog os Rows.fnExactSimplifyStyleRow.laid) #[.agg #[.int .i64 0, .int .i64 0, .string ByteArray.empty, .string ByteArray.empty, .string ByteArray.empty, .slice none 0 0]] 8 (World.laidAll_os _ _ _)
      (World.shaped_of_ZipB (by kernel_rfl) (by kernel_rfl)) (by kernel_rfl) (by kernel_rfl) (by kernel_rfl)
      (by rw [MakeChecks.laidMetH_plain _ _ _ (by kernel_rfl)]; exact laidMet_laidAll _ (by kernel_rfl) (by kernel_rfl))) ?_
  intro W base args ds gs before hval0 hW hcnd _ hL _
  rw [MakeChecks.laidMetH_plain _ _ _ (by kernel_rfl)] at hL
  have hval : ∀ (j : Nat) t v, Tryd.f4.params[j]? = some t → args[j]? = some v → Value.okWide Tryd.prog W .any base t v := hval0
  have hW' := hW
  obtain ⟨p, q, hA0, hV, rfl, hfz, hnd⟩ := hW
  have hA : DataW.TrodAll enc Tryd.prog W 0 (fun _ => true) true Tryd.f4.params.toList args.toList ds p := hA0
  rw [Tryd.params4] at hA hval
  obtain ⟨v0, vs0, d0, ds0, p0, q0, hargs, rfl, rfl, h0, r0⟩ := trodAll_cons hA
  obtain ⟨rfl, rfl, rfl⟩ := trodAll_nil r0
  obtain rfl : args = #[v0] := by cases args; simp_all
  obtain ⟨_, _, _, _, _, _, _, _, _, _, _, _, rfl, _⟩ := trodVars_two hV
  have k0 := h0
  have lt0 : ∀ x ∈ p0, x.block < W.heap.size := by obtain ⟨m, hm⟩ := k0; exact DataW.trod_lt m _ _ _ hm
  obtain ⟨nm0, x0, B0, c0, dd0, rfl, hr0, hm0, ha0, hb0, hc0⟩ := open_style (hval 0 26 v0 rfl rfl) h0
  clear hA0 hval0
  refine (walk nm0 x0 B0 c0 dd0 W hr0 hm0 ha0 hb0 hc0 (tabs_of hL)).mono fun e W' ⟨he, bel⟩ => ?_
  subst he
  exact ⟨_, rfl, _, _, _, [], _, q, hW', trodAll_mk1 (shut_bool Tryd.underlying4 _), (trodAll_cons_mk (Below.trod laidOut (by kernel_rfl) (of_decide_eq_true (by kernel_rfl)) k0 bel lt0) trodAll_mk0), bel.trodVars laidOut (by kernel_rfl) hV, bel.frame _, fun h => by cases h⟩

theorem closed : joinedFacts Tryd.pinned.checked.prog 4 Tryd.f4 Rows.fnExactSimplifyStyleSpec Rows.fnExactSimplifyStyleRow = true := by kernel_rfl
theorem over : Rows.fnExactSimplifyStyleRow.holds Tryd.pinned (OpenSpec.ofChange Rows.fnExactSimplifyStyleSpec) :=
  OpenClaim.holds_of_wide 4 Tryd.f4 rfl rfl rfl rfl rfl rfl rfl ⟨rfl, rfl, rfl, rfl, rfl⟩ rfl rfl rfl rfl rfl (by kernel_rfl) Tryd.func4 closed
    (of_decide_eq_true (by kernel_rfl)) (by unfold Func.isWrapper; first | (rw [if_pos (by decide +kernel)]; kernel_rfl) | (rw [if_neg (by decide +kernel)]; exact ⟨rfl, rfl⟩))
    (fun os started H enc _ => lifted os started H enc)

theorem plain (f : FuncId) (fn : Func) (hf : Tryd.pinned.checked.prog.funcNamed "loop.example/g00896/laws.FnExactSimplifyStyle" = some f) (hfn : Tryd.pinned.checked.prog.funcs[f]? = some fn) :
    false = Tryd.pinned.checked.prog.looks [] ∧ ∀ (j : Nat) t, fn.params[j]? = some t → Tryd.pinned.checked.prog.wantsStandIn t = false := by
  obtain rfl : f = 4 := Option.some.inj ((show Tryd.prog.funcNamed "loop.example/g00896/laws.FnExactSimplifyStyle" = some 4 by kernel_rfl).symm.trans hf) |>.symm
  obtain rfl : fn = Tryd.f4 := (Option.some.inj (Tryd.func4.symm.trans hfn)).symm
  refine ⟨by kernel_rfl, fun j t ht => ?_⟩
  rw [Tryd.params4] at ht
  obtain rfl : t = 26 := by simpa using Array.mem_of_getElem? ht
  exact (show Tryd.prog.wantsStandIn 26 = false by kernel_rfl)

theorem card : Rows.FnExactSimplifyStyleCardSaid :=
  Claim7.holds_tied_plain_at .later [] _ _ _ _ over (fun _ h => by cases h) (by kernel_rfl) (fun _ h => by cases h) fnExactSimplifyStyle_row_tie rfl ⟨rfl, rfl⟩ (by kernel_rfl) rfl plain (by kernel_rfl)
#print axioms card
end Go.Proofs.YtldfdfdleaemaaaDoor.fnExactSimplifyStyle
