/-
  Contracts of the laws' helpers that look marks up: heldNodeS, heldNode, heldStyle; markNode, markStyle.
-/
import Derived.Test.YtbibjcmfgpmddaaDoorNdM
import Derived.Deep.RegionHeld3
namespace Go.Proofs.YtbibjcmfgpmddaaDoor.Nd
open Go.RowKit NdPl Strs
set_option linter.unusedSimpArgs false
set_option linter.unusedVariables false

theorem op_mk (o : Int) (a b c : ByteArray) (l : List Tr) : (Tr.mk o a b c l).op = o := rfl
theorem wd_mk (o : Int) (a b c : ByteArray) (l : List Tr) : (Tr.mk o a b c l).wd = a := rfl
theorem tx_mk (o : Int) (a b c : ByteArray) (l : List Tr) : (Tr.mk o a b c l).tx = b := rfl
theorem af_mk (o : Int) (a b c : ByteArray) (l : List Tr) : (Tr.mk o a b c l).af = c := rfl
theorem ps_mk (o : Int) (a b c : ByteArray) (l : List Tr) : (Tr.mk o a b c l).ps = l := rfl
/-- the tree of a style, marked from 1 on: what stands at the node itself stays -/
def mkR (x : Tr) : Tr := .mk x.op x.wd x.tx x.af (mkS 1 x.ps)
set_option maxHeartbeats 1000000 in
theorem markNode (d : Nat) (op : Int) (wd tx af : ByteArray) (L : List Tr) (A : Option Addr) (c N : Nat) (F : List Nat) (w : World) (ho : OwL d w A c L F) (hF : F.Nodup) (hn : L.length = N) (hk : cntS L ≤ 2000000) :
    Calls Tryd.prog 22 #[ndV op wd tx af A N c, .int .i64 1] w fun e w' => e = .returned (.int .i64 ((1 + 4 * cntS L : Nat) : Int)) ∧ OwL d w' A c (mkS 1 L) F ∧ OutF F w w' := by
  have HM := Lib.hid (fun w1 (h : Below w.heap.size w w1) => markL_all d L A c N F 1 w1 (ho.below h) hF hn (by decide) (by omega))
  have e1 : ((1 : Nat) : Int) = 1 := rfl
  rw [e1] at HM
  generalize 1 + 4 * cntS L = v at *
  have HB := Lib.hid (box_below w (.cells #[.int .i64 op, .string wd, .string tx, .string af, .slice A N c] 33))
  clear ho hF hn hk e1
  go_enter Tryd.func22, Tryd.ntmps22
  go_wp2_with fail
  refine (HM.out _ HB.out).mono ?_
  rintro e w1 ⟨rfl, o1, f1⟩
  have HO := Lib.hid o1
  have HF := Lib.hid f1
  clear o1 f1 HM
  go_wp2_with fail
  go_ret
  exact ⟨rfl, HO.out, (OutF.of_below HB.out).trans HF.out⟩
set_option maxHeartbeats 1000000 in
theorem markStyle (d : Nat) (nm : Int) (x : Tr) (A : Option Addr) (c : Nat) (F : List Nat) (w : World) (ho : OwL d w A c x.ps F) (hF : F.Nodup) (hk : cntS x.ps ≤ 2000000) :
    Calls Tryd.prog 10 #[stV nm x.op x.wd x.tx x.af A x.ps.length c, .int .i64 1] w fun e w' => e = .returned (.int .i64 ((1 + 4 * cntS x.ps : Nat) : Int)) ∧ OwL d w' A c (mkS 1 x.ps) F ∧ OutF F w w' := by
  have HM := Lib.hid (fun w1 (h : Below w.heap.size w w1) => markNode d x.op x.wd x.tx x.af x.ps A c x.ps.length F w1 (ho.below h) hF rfl hk)
  clear ho hF hk
  obtain ⟨op, wd, tx, af, ps⟩ := x
  simp only [Tr.op, Tr.wd, Tr.tx, Tr.af, Tr.ps] at *
  generalize 1 + 4 * cntS ps = v at *
  generalize ps.length = n at *
  have HB := Lib.hid (box_below w (.cells #[.int .i64 nm, .int .i64 op, .string wd, .string tx, .string af, .slice A n c] 35))
  go_enter Tryd.func10, Tryd.ntmps10
  go_wp2_with fail
  refine (HM.out _ HB.out).mono ?_
  rintro e w1 ⟨rfl, o1, f1⟩
  have HO := Lib.hid o1
  have HF := Lib.hid f1
  clear o1 f1 HM
  go_wp2_with fail
  go_ret
  exact ⟨rfl, HO.out, (OutF.of_below HB.out).trans HF.out⟩
end Go.Proofs.YtbibjcmfgpmddaaDoor.Nd
