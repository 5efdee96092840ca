/-
  Drawing functions of chapter 2: DrawCompareNames.
-/
import Derived.Test.YtgabgmogcniedaaDoorDnW
namespace Go.Proofs.YtgabgmogcniedaaDoor.StN
open Go.RowKit Pl Cur Draw0 Strs Help Name
set_option linter.unusedVariables false
set_option linter.unusedSimpArgs false

/-- two drawn names, to be read -/
def DrawnNm (w : World) (e : Ending) (w' : World) : Prop :=
  ∃ Aa ca xs p f s Ab cb ys p2 f2 s2, e = .returned (.tuple #[nmV (.slice Aa (xs : List ByteArray).length ca) p f s, nmV (.slice Ab (ys : List ByteArray).length cb) p2 f2 s2]) ∧ Rdn w' Aa xs.length xs ∧ Rdn w' Ab ys.length ys ∧ xs.length ≤ ca ∧ ys.length ≤ cb ∧ xs.length ≤ 4 ∧ ys.length ≤ 4 ∧ (∀ x ∈ xs, Sm x) ∧ (∀ x ∈ ys, Sm x) ∧ Sm p ∧ Sm f ∧ Sm s ∧ Sm p2 ∧ Sm f2 ∧ Sm s2 ∧ Below w.heap.size w w'
theorem bel4 {w W : World} {b : Nat} {v0 v1 v2 v3 : Value} (h : Below w.heap.size w W) (hb : w.heap.size ≤ b) : Below w.heap.size w ((((W.setCell ⟨b, 0, none⟩ v0).setCell ⟨b, 1, none⟩ v1).setCell ⟨b, 2, none⟩ v2).setCell ⟨b, 3, none⟩ v3) :=
  Below.setCell (p := ⟨b, 3, none⟩) (Below.setCell (p := ⟨b, 2, none⟩) (Below.setCell (p := ⟨b, 1, none⟩) (Below.setCell (p := ⟨b, 0, none⟩) h hb v0) hb v1) hb v2) hb v3
theorem fin8b {w W2 : World} {b b' B : Nat} {xs ys : List ByteArray} {va vb : Value} (hS : Below w.heap.size w W2) (hb : w.heap.size ≤ b) (hb2 : b < B) (hb' : w.heap.size ≤ b') (hb2' : b' < B) (hne : b ≠ b')
    {v0 v1 : Value} {e1 e2 e3 e4 e5 e6 : ByteArray} (hp : C4F W2 b v0 e1 e2 e3) (hq : C4F W2 b' v1 e4 e5 e6) (hGa : Gv W2 B va xs) (hGb : Gv W2 B vb ys) (pa fa sa pb fb sb : ByteArray) :
    Below w.heap.size w ((((((((W2.setCell ⟨b, 0, none⟩ va).setCell ⟨b, 1, none⟩ (.string pa)).setCell ⟨b, 2, none⟩ (.string fa)).setCell ⟨b, 3, none⟩ (.string sa)).setCell ⟨b', 0, none⟩ vb).setCell ⟨b', 1, none⟩ (.string pb)).setCell ⟨b', 2, none⟩ (.string fb)).setCell ⟨b', 3, none⟩ (.string sb)) ∧ C4 ((((((((W2.setCell ⟨b, 0, none⟩ va).setCell ⟨b, 1, none⟩ (.string pa)).setCell ⟨b, 2, none⟩ (.string fa)).setCell ⟨b, 3, none⟩ (.string sa)).setCell ⟨b', 0, none⟩ vb).setCell ⟨b', 1, none⟩ (.string pb)).setCell ⟨b', 2, none⟩ (.string fb)).setCell ⟨b', 3, none⟩ (.string sb)) b va pa fa sa ∧ C4 ((((((((W2.setCell ⟨b, 0, none⟩ va).setCell ⟨b, 1, none⟩ (.string pa)).setCell ⟨b, 2, none⟩ (.string fa)).setCell ⟨b, 3, none⟩ (.string sa)).setCell ⟨b', 0, none⟩ vb).setCell ⟨b', 1, none⟩ (.string pb)).setCell ⟨b', 2, none⟩ (.string fb)).setCell ⟨b', 3, none⟩ (.string sb)) b' vb pb fb sb ∧ Gv ((((((((W2.setCell ⟨b, 0, none⟩ va).setCell ⟨b, 1, none⟩ (.string pa)).setCell ⟨b, 2, none⟩ (.string fa)).setCell ⟨b, 3, none⟩ (.string sa)).setCell ⟨b', 0, none⟩ vb).setCell ⟨b', 1, none⟩ (.string pb)).setCell ⟨b', 2, none⟩ (.string fb)).setCell ⟨b', 3, none⟩ (.string sb)) B va xs ∧ Gv ((((((((W2.setCell ⟨b, 0, none⟩ va).setCell ⟨b, 1, none⟩ (.string pa)).setCell ⟨b, 2, none⟩ (.string fa)).setCell ⟨b, 3, none⟩ (.string sa)).setCell ⟨b', 0, none⟩ vb).setCell ⟨b', 1, none⟩ (.string pb)).setCell ⟨b', 2, none⟩ (.string fb)).setCell ⟨b', 3, none⟩ (.string sb)) B vb ys :=
  ⟨bel4 (bel4 hS hb) hb', ((hp.set4 va pa fa sa).far4 (Ne.symm hne)).1, ((hq.far4 hne).set4 vb pb fb sb).1, (hGa.set4 hb2 _ _ _ _).set4 hb2' _ _ _ _, (hGb.set4 hb2 _ _ _ _).set4 hb2' _ _ _ _⟩
set_option maxRecDepth 100000 in
set_option maxHeartbeats 2000000 in
theorem drawCompare_any (A : Option Addr) (n c : Nat) (w : World) (hn : n ≤ 65536) (hr : RdB w A n) (ha : Apart A n w.heap.size) :
    Calls Tryd.prog 5 #[.slice A n c] w (DrawnNm w) := by
  have HB := Lib.hid (((Below.refl _ w).alloc (Nat.le_refl _) (.cells #[.slice none 0 0, .string ⟨#[]⟩, .string ⟨#[]⟩, .string ⟨#[]⟩] 26)).alloc (show w.heap.size ≤ (w.alloc (.cells #[.slice none 0 0, .string ⟨#[]⟩, .string ⟨#[]⟩, .string ⟨#[]⟩] 26)).heap.size by simp) (.cells #[.slice none 0 0, .string ⟨#[]⟩, .string ⟨#[]⟩, .string ⟨#[]⟩] 26))
  have HP := Lib.hid ((C4F.new w (.slice none 0 0) ⟨#[]⟩ ⟨#[]⟩ ⟨#[]⟩ 26).alloc (.cells #[.slice none 0 0, .string ⟨#[]⟩, .string ⟨#[]⟩, .string ⟨#[]⟩] 26))
  have HQ : Hid (C4F ((w.alloc (.cells #[.slice none 0 0, .string ⟨#[]⟩, .string ⟨#[]⟩, .string ⟨#[]⟩] 26)).alloc (.cells #[.slice none 0 0, .string ⟨#[]⟩, .string ⟨#[]⟩, .string ⟨#[]⟩] 26)) (w.heap.size + 1) (.slice none 0 0) ⟨#[]⟩ ⟨#[]⟩ ⟨#[]⟩) := Lib.hid (by
    have h := C4F.new (w.alloc (.cells #[.slice none 0 0, .string ⟨#[]⟩, .string ⟨#[]⟩, .string ⟨#[]⟩] 26)) (.slice none 0 0) ⟨#[]⟩ ⟨#[]⟩ ⟨#[]⟩ 26
    rwa [show (w.alloc (.cells #[.slice none 0 0, .string ⟨#[]⟩, .string ⟨#[]⟩, .string ⟨#[]⟩] 26)).heap.size = w.heap.size + 1 by simp] at h)
  have HR := Lib.hid (rdb_below hr ha HB.out)
  have HA := Lib.hid ha
  have HSz : Hid (((w.alloc (.cells #[.slice none 0 0, .string ⟨#[]⟩, .string ⟨#[]⟩, .string ⟨#[]⟩] 26)).alloc (.cells #[.slice none 0 0, .string ⟨#[]⟩, .string ⟨#[]⟩, .string ⟨#[]⟩] 26)).heap.size = w.heap.size + 1 + 1) := Lib.hid (by simp)
  clear hr ha
  go_enter Tryd.func5, Tryd.ntmps5
  go_wp2_with fail
  generalize hW : ((w.alloc (.cells #[.slice none 0 0, .string ⟨#[]⟩, .string ⟨#[]⟩, .string ⟨#[]⟩] 26)).alloc (.cells #[.slice none 0 0, .string ⟨#[]⟩, .string ⟨#[]⟩, .string ⟨#[]⟩] 26)) = w1 at HP HQ HB HR HSz ⊢
  clear hW
  have HA1 : Hid (Apart A n w1.heap.size) := Lib.hid (fun hp a h => Nat.lt_of_lt_of_le (HA.out hp a h) HB.out.size)
  have HC := Lib.hid (cur_new w1 A n c)
  have HR2 := Lib.hid (rdb_new HR.out HA1.out (.cells #[.slice A n c, .int .i64 0, .int .u64 0] 37))
  rw [HSz.out] at HC HA1
  refine (twoNames_any (w.heap.size + 1 + 1) A n c 0 0 _ (by omega) (by omega) HC.out HR2.out HA1.out).mono ?_
  rintro e w2 ⟨Av, cv, xs, p, fam, sf, Bv, dv, ys, p2, fam2, sf2, rfl, hG, hH, hxl, hyl, hX, hY, hp, hf, hs, hp2, hf2, hs2, hl⟩
  have hg := hl.2
  rw [← HSz.out] at hg
  have hbn : Below w1.heap.size w1 w2 := below_new hg
  have HB2 := Lib.hid (HB.out.trans (hbn.mono HB.out.size))
  have HP2 := Lib.hid (C4F.grown hl.2 (by simp <;> omega) (HP.out.alloc (.cells #[.slice A n c, .int .i64 0, .int .u64 0] 37)))
  have HQ2 := Lib.hid (C4F.grown hl.2 (by simp <;> omega) (HQ.out.alloc (.cells #[.slice A n c, .int .i64 0, .int .u64 0] 37)))
  have HG2 := Lib.hid (hG.base (show w.heap.size + 2 ≤ (w1.alloc (.cells #[.slice A n c, .int .i64 0, .int .u64 0] 37)).heap.size + 2 by have := HSz.out; simp; omega))
  have HH2 := Lib.hid (hH.base (show w.heap.size + 2 ≤ (w1.alloc (.cells #[.slice A n c, .int .i64 0, .int .u64 0] 37)).heap.size + 2 by have := HSz.out; simp; omega))
  have HX := Lib.hid hX
  have HY := Lib.hid hY
  clear hg hbn hl hG hH hX hY HB HP HQ HR HA HSz HA1 HC HR2
  obtain ⟨⟨pl, p0, p1, pp2, p3⟩, pf0, pf1, pf2, pf3⟩ := HP2.out
  obtain ⟨⟨ql, q0, q1, q2, q3⟩, qf0, qf1, qf2, qf3⟩ := HQ2.out
  go_wp2_with fail
  have HF := fin8b (b := w.heap.size) (b' := w.heap.size + 1) (B := w.heap.size + 2) HB2.out (Nat.le_refl _) (by omega) (by omega) (by omega) (by omega) HP2.out HQ2.out HG2.out HH2.out p fam sf p2 fam2 sf2
  generalize hW : ((((((((w2.setCell ⟨w.heap.size, 0, none⟩ (.slice Av xs.length cv)).setCell ⟨w.heap.size, 1, none⟩ (.string p)).setCell ⟨w.heap.size, 2, none⟩ (.string fam)).setCell ⟨w.heap.size, 3, none⟩ (.string sf)).setCell ⟨w.heap.size + 1, 0, none⟩ (.slice Bv ys.length dv)).setCell ⟨w.heap.size + 1, 1, none⟩ (.string p2)).setCell ⟨w.heap.size + 1, 2, none⟩ (.string fam2)).setCell ⟨w.heap.size + 1, 3, none⟩ (.string sf2)) = W3 at HF ⊢
  clear hW p0 p1 pp2 p3 pf0 pf1 pf2 pf3 q0 q1 q2 q3 qf0 qf1 qf2 qf3 HP2 HQ2 HG2 HH2 HB2
  obtain ⟨hS3, hp3, hq3, hg3, hh3⟩ := HF
  obtain ⟨_, u0, u1, u2, u3⟩ := hp3
  obtain ⟨_, t0, t1, t2, t3⟩ := hq3
  obtain ⟨_, _, e1, c1⟩ := hg3.form
  obtain ⟨_, _, e2, c2⟩ := hh3.form
  simp only [Value.slice.injEq] at e1 e2
  exact bodyPost_ret (v := .tuple #[nmV (.slice Av xs.length cv) p fam sf, nmV (.slice Bv ys.length dv) p2 fam2 sf2]) (by simp [results, Tryd.results5, go_sem, u0, u1, u2, u3, t0, t1, t2, t3]) rfl ⟨Av, cv, xs, p, fam, sf, Bv, dv, ys, p2, fam2, sf2, rfl, Rdn.own hg3, Rdn.own hh3, by omega, by omega, hxl, hyl, HX.out, HY.out, hp, hf, hs, hp2, hf2, hs2, hS3⟩
end Go.Proofs.YtgabgmogcniedaaDoor.StN
