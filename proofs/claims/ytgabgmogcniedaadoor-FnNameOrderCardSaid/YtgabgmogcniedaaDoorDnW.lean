/-
  Drawing functions of chapter 2: twoNames.
-/
import Derived.Test.YtgabgmogcniedaaDoorDnA
import Derived.RegionTactic
import Derived.BigRegion
namespace Go.Proofs.YtgabgmogcniedaaDoor.StN
open Go.RowKit Pl Cur Draw0 Strs Help Name
set_option linter.unusedVariables false
set_option linter.unusedSimpArgs false

/-- two drawn names -/
def TwoNm (w : World) (g : Nat) (A : Option Addr) (n c k m q : Nat) (e : Ending) (w' : World) : Prop :=
  ∃ Aa ca xs p f s Ab cb ys p2 f2 s2, e = .returned (.tuple #[nmV (.slice Aa (xs : List ByteArray).length ca) p f s, nmV (.slice Ab (ys : List ByteArray).length cb) p2 f2 s2]) ∧ Gv w' (w.heap.size + 2) (.slice Aa xs.length ca) xs ∧ Gv w' (w.heap.size + 2) (.slice Ab ys.length cb) ys ∧ xs.length ≤ q ∧ ys.length ≤ q ∧ (∀ x ∈ xs, Sm x) ∧ (∀ x ∈ ys, Sm x) ∧ Sm p ∧ Sm f ∧ Sm s ∧ Sm p2 ∧ Sm f2 ∧ Sm s2 ∧ LeftC w g A n c k m w'
theorem C4F.set4 {W : World} {b : Nat} {v : Value} {p f s : ByteArray} (h : C4F W b v p f s) (v' : Value) (p' f' s' : ByteArray) : C4F ((((W.setCell ⟨b, 0, none⟩ v').setCell ⟨b, 1, none⟩ (.string p')).setCell ⟨b, 2, none⟩ (.string f')).setCell ⟨b, 3, none⟩ (.string s')) b v' p' f' s' := (((h.set0 v').set1 p').set2 f').set3 s'
theorem C4F.far4 {W : World} {b b' : Nat} {v0 v1 v2 v3 v : Value} {p f s : ByteArray} (hne : b ≠ b') (h : C4F W b' v p f s) : C4F ((((W.setCell ⟨b, 0, none⟩ v0).setCell ⟨b, 1, none⟩ v1).setCell ⟨b, 2, none⟩ v2).setCell ⟨b, 3, none⟩ v3) b' v p f s := (((h.far hne).far hne).far hne).far hne
theorem St.set4 {w W : World} {g : Nat} {A : Option Addr} {n c k m : Nat} (h : St w g A n c k m W) (b : Nat) (v0 v1 v2 v3 : Value) (hb : w.heap.size ≤ b) : St w g A n c k m ((((W.setCell ⟨b, 0, none⟩ v0).setCell ⟨b, 1, none⟩ v1).setCell ⟨b, 2, none⟩ v2).setCell ⟨b, 3, none⟩ v3) := (((h.set b 0 v0 hb).set b 1 v1 hb).set b 2 v2 hb).set b 3 v3 hb
theorem Gv.set4 {W : World} {B b : Nat} {u : Value} {xs : List ByteArray} (h : Gv W B u xs) (hb : b < B) (v0 v1 v2 v3 : Value) : Gv ((((W.setCell ⟨b, 0, none⟩ v0).setCell ⟨b, 1, none⟩ v1).setCell ⟨b, 2, none⟩ v2).setCell ⟨b, 3, none⟩ v3) B u xs := (((h.setc hb 0 v0).setc hb 1 v1).setc hb 2 v2).setc hb 3 v3
theorem gen8n {P : World → Prop} {w W2 : World} {g : Nat} {A : Option Addr} {n c k m b b' : Nat} {xs ys : List ByteArray} {va vb : Value} (hS : St w g A n c k m W2) (hb : w.heap.size ≤ b) (hb2 : b < w.heap.size + 2) (hb' : w.heap.size ≤ b') (hb2' : b' < w.heap.size + 2) (hne : b ≠ b')
    {v0 v1 : Value} {e1 e2 e3 e4 e5 e6 : ByteArray} (hp : C4F W2 b v0 e1 e2 e3) (hq : C4F W2 b' v1 e4 e5 e6) (hGa : Gv W2 (w.heap.size + 2) va xs) (hGb : Gv W2 (w.heap.size + 2) vb ys) {pa fa sa pb fb sb : ByteArray}
    (h : ∀ W3, St w g A n c k m W3 → C4 W3 b va pa fa sa → C4 W3 b' vb pb fb sb → Gv W3 (w.heap.size + 2) va xs → Gv W3 (w.heap.size + 2) vb ys → P W3) :
    P ((((((((W2.setCell ⟨b, 0, none⟩ va).setCell ⟨b, 1, none⟩ (.string pa)).setCell ⟨b, 2, none⟩ (.string fa)).setCell ⟨b, 3, none⟩ (.string sa)).setCell ⟨b', 0, none⟩ vb).setCell ⟨b', 1, none⟩ (.string pb)).setCell ⟨b', 2, none⟩ (.string fb)).setCell ⟨b', 3, none⟩ (.string sb)).drew := by
  have key : ∀ X, St w g A n c k m X → C4 X b va pa fa sa → C4 X b' vb pb fb sb → Gv X (w.heap.size + 2) va xs → Gv X (w.heap.size + 2) vb ys → P X.drew := fun X a c d e f => h X.drew a.drew c d e f
  exact key _ ((hS.set4 b _ _ _ _ hb).set4 b' _ _ _ _ hb') ((hp.set4 va pa fa sa).far4 (Ne.symm hne)).1 ((hq.far4 hne).set4 vb pb fb sb).1 ((hGa.set4 hb2 _ _ _ _).set4 hb2' _ _ _ _) ((hGb.set4 hb2 _ _ _ _).set4 hb2' _ _ _ _)
set_option maxRecDepth 100000 in
set_option maxHeartbeats 4000000 in
theorem twoNames_any (g : Nat) (A : Option Addr) (n c k : Nat) (s : Int) (w : World) (hk : k ≤ 1020000) (hn : n ≤ 1048576) (hcur : IsCur w g A n c k s) (hr : RdB w A n) (ha : Apart A n g) :
    Calls Tryd.prog 11 #[.pointer (some ⟨g, 0, none⟩)] w (TwoNm w g A n c k 90 4) := by
  have hgl : g < w.heap.size := hcur.lt
  have HA := Lib.hid ha
  have HS1 := Lib.hid (((St.start hcur hr ha).alloc (.cells #[.slice none 0 0, .string ⟨#[]⟩, .string ⟨#[]⟩, .string ⟨#[]⟩] 26)).alloc (.cells #[.slice none 0 0, .string ⟨#[]⟩, .string ⟨#[]⟩, .string ⟨#[]⟩] 26))
  have HP1 := Lib.hid ((C4F.new w (.slice none 0 0) ⟨#[]⟩ ⟨#[]⟩ ⟨#[]⟩ 26).alloc (.cells #[.slice none 0 0, .string ⟨#[]⟩, .string ⟨#[]⟩, .string ⟨#[]⟩] 26))
  have HQ1 : Hid (C4F ((w.alloc (.cells #[.slice none 0 0, .string ⟨#[]⟩, .string ⟨#[]⟩, .string ⟨#[]⟩] 26)).alloc (.cells #[.slice none 0 0, .string ⟨#[]⟩, .string ⟨#[]⟩, .string ⟨#[]⟩] 26)) (w.heap.size + 1) (.slice none 0 0) ⟨#[]⟩ ⟨#[]⟩ ⟨#[]⟩) := Lib.hid (by
    have h := C4F.new (w.alloc (.cells #[.slice none 0 0, .string ⟨#[]⟩, .string ⟨#[]⟩, .string ⟨#[]⟩] 26)) (.slice none 0 0) ⟨#[]⟩ ⟨#[]⟩ ⟨#[]⟩ 26
    rwa [show (w.alloc (.cells #[.slice none 0 0, .string ⟨#[]⟩, .string ⟨#[]⟩, .string ⟨#[]⟩] 26)).heap.size = w.heap.size + 1 by simp] at h)
  clear hcur hr ha
  go_enter Tryd.func11, Tryd.ntmps11
  go_wp2_with fail
  generalize hW : (w.alloc _).alloc _ = w1 at HP1 HQ1 HS1 ⊢
  clear hW
  have hq1 : w.heap.size + 1 < w1.heap.size := HQ1.out.1.1
  obtain ⟨k1, s1, hk1, hc1⟩ := HS1.out.cur
  refine (anyName_any g A n c k1 s1 _ (by omega) hn hc1 HS1.out.rd HA.out).mono ?_
  rintro e w2 ⟨Av, cv, xs, p, fam, sf, rfl, hG, hxl, hX, hp, hf, hs, hl⟩
  have HX := Lib.hid hX
  have HS2 := Lib.hid (HS1.out.call hk1 hl)
  have HP2 := Lib.hid (C4F.grown hl.2 (by simp <;> omega) HP1.out)
  have HQ2 := Lib.hid (C4F.grown hl.2 (by simp <;> omega) HQ1.out)
  have HG2 := Lib.hid (hG.base (show w.heap.size + 2 ≤ w1.heap.size + 1 by omega))
  have hq2 : w.heap.size + 1 < w2.heap.size := HQ2.out.1.1
  clear hl hc1 HS1 HP1 HQ1 hX hG
  go_wp2_with fail
  obtain ⟨k2, s2, hk2, hc2⟩ := HS2.out.cur
  refine (anyName_any g A n c k2 s2 _ (by omega) hn hc2 HS2.out.rd HA.out).mono ?_
  rintro e w3 ⟨Bv, dv, ys, p2, fam2, sf2, rfl, hG', hyl, hY, hp2, hf2, hs2, hl⟩
  have HY := Lib.hid hY
  have HS3 := Lib.hid (HS2.out.call hk2 hl)
  have HP3 := Lib.hid (C4F.grown hl.2 (by simp <;> omega) HP2.out)
  have HQ3 := Lib.hid (C4F.grown hl.2 (by simp <;> omega) HQ2.out)
  have HG3 := Lib.hid (HG2.out.call hl.2 (by omega))
  have HH3 := Lib.hid (hG'.base (show w.heap.size + 2 ≤ w2.heap.size + 1 by omega))
  have hna : ∀ j, (Value.slice Av xs.length cv).ownBlock = some j → j < w3.heap.size := fun j hj => (HG3.out.at_least hj).1
  have hnb : ∀ j, (Value.slice Bv ys.length dv).ownBlock = some j → j < w3.heap.size := fun j hj => (HH3.out.at_least hj).1
  have hq3 : w.heap.size + 1 < w3.heap.size := HQ3.out.1.1
  clear hl hc2 HS2 HP2 HQ2 HG2 hY hG'
  go_wp2_with fail
  have HS4 := Lib.hid ((HS3.out.alloc (.cells #[.slice Av xs.length cv, .string p, .string fam, .string sf] 26)).alloc (.cells #[.slice Bv ys.length dv, .string p2, .string fam2, .string sf2] 26))
  have HP4 := Lib.hid ((HP3.out.alloc (.cells #[.slice Av xs.length cv, .string p, .string fam, .string sf] 26)).alloc (.cells #[.slice Bv ys.length dv, .string p2, .string fam2, .string sf2] 26))
  have HQ4 := Lib.hid ((HQ3.out.alloc (.cells #[.slice Av xs.length cv, .string p, .string fam, .string sf] 26)).alloc (.cells #[.slice Bv ys.length dv, .string p2, .string fam2, .string sf2] 26))
  have HG4 := Lib.hid ((HG3.out.alloc (.cells #[.slice Av xs.length cv, .string p, .string fam, .string sf] 26)).alloc (.cells #[.slice Bv ys.length dv, .string p2, .string fam2, .string sf2] 26))
  have HH4 := Lib.hid ((HH3.out.alloc (.cells #[.slice Av xs.length cv, .string p, .string fam, .string sf] 26)).alloc (.cells #[.slice Bv ys.length dv, .string p2, .string fam2, .string sf2] 26))
  have HA4 := Lib.hid ((C4F.new w3 (.slice Av xs.length cv) p fam sf 26).alloc (.cells #[.slice Bv ys.length dv, .string p2, .string fam2, .string sf2] 26))
  have HB4 : Hid (C4F ((w3.alloc (.cells #[.slice Av xs.length cv, .string p, .string fam, .string sf] 26)).alloc (.cells #[.slice Bv ys.length dv, .string p2, .string fam2, .string sf2] 26)) (w3.heap.size + 1) (.slice Bv ys.length dv) p2 fam2 sf2) := Lib.hid (by
    have h := C4F.new (w3.alloc (.cells #[.slice Av xs.length cv, .string p, .string fam, .string sf] 26)) (.slice Bv ys.length dv) p2 fam2 sf2 26
    rwa [show (w3.alloc (.cells #[.slice Av xs.length cv, .string p, .string fam, .string sf] 26)).heap.size = w3.heap.size + 1 by simp] at h)
  clear HS3 HP3 HQ3 HG3 HH3
  generalize hW : (w3.alloc _).alloc _ = w4 at HS4 HP4 HQ4 HG4 HH4 HA4 HB4 ⊢
  clear hW
  generalize hb : w3.heap.size = bx at *
  clear hb
  obtain ⟨k4, s4, hk4, hc4⟩ := HS4.out.cur
  refine (one_any 2 (by omega) (by omega) g A n c k4 s4 _ (by omega) hn hc4 HS4.out.rd HA.out).mono ?_
  rintro e w5 ⟨q, rfl, hl⟩
  have HS5 := Lib.hid (HS4.out.call hk4 hl)
  have HP5 := Lib.hid (C4F.grown hl.2 (by simp <;> omega) HP4.out)
  have HQ5 := Lib.hid (C4F.grown hl.2 (by simp <;> omega) HQ4.out)
  have HA5 := Lib.hid (C4F.grown hl.2 (by simp <;> omega) HA4.out)
  have HB5 := Lib.hid (C4F.grown hl.2 (by simp <;> omega) HB4.out)
  have HG5 := Lib.hid (HG4.out.call hl.2 (by omega))
  have HH5 := Lib.hid (HH4.out.call hl.2 (by omega))
  clear hl hc4 HS4 HP4 HQ4 HG4 HH4 HA4 HB4
  have hn1 : w.heap.size ≠ bx := by omega
  have hn2 : w.heap.size ≠ bx + 1 := by omega
  have hn3 : w.heap.size + 1 ≠ bx := by omega
  have hn4 : w.heap.size + 1 ≠ bx + 1 := by omega
  have hn5 : bx ≠ bx + 1 := by omega
  cases q with
  | true =>
    obtain ⟨⟨al, a0, a1, a2, a3⟩, af0, af1, af2, af3⟩ := HA5.out
    obtain ⟨⟨bl, b0, b1, b2, b3⟩, bf0, bf1, bf2, bf3⟩ := HB5.out
    have S1 := ((HS5.out.set (bx + 1) 2 (.string fam) (by omega)).set (bx + 1) 1 (.string p) (by omega)).set (bx + 1) 3 (.string sf) (by omega)
    have P1 := ((HP5.out.far (b := bx + 1) (j := 2) (u := .string fam) (by omega)).far (b := bx + 1) (j := 1) (u := .string p) (by omega)).far (b := bx + 1) (j := 3) (u := .string sf) (by omega)
    have Q1 := ((HQ5.out.far (b := bx + 1) (j := 2) (u := .string fam) (by omega)).far (b := bx + 1) (j := 1) (u := .string p) (by omega)).far (b := bx + 1) (j := 3) (u := .string sf) (by omega)
    have A1 := ((HA5.out.far (b := bx + 1) (j := 2) (u := .string fam) (by omega)).far (b := bx + 1) (j := 1) (u := .string p) (by omega)).far (b := bx + 1) (j := 3) (u := .string sf) (by omega)
    have B1 := ((HB5.out.set2 fam).set1 p).set3 sf
    have oa : (Value.slice Av xs.length cv).ownBlock ≠ some (bx + 1) := fun e => by have := hna _ e; omega
    have ob : (Value.slice Bv ys.length dv).ownBlock ≠ some (bx + 1) := fun e => by have := hnb _ e; omega
    have G1 := ((HG5.out.kept (grown_setc _ (bx + 1) 2 (.string fam)) (.inr oa)).kept (grown_setc _ (bx + 1) 1 (.string p)) (.inr oa)).kept (grown_setc _ (bx + 1) 3 (.string sf)) (.inr oa)
    have H1 := ((HH5.out.kept (grown_setc _ (bx + 1) 2 (.string fam)) (.inr ob)).kept (grown_setc _ (bx + 1) 1 (.string p)) (.inr ob)).kept (grown_setc _ (bx + 1) 3 (.string sf)) (.inr ob)
    have HS6 := Lib.hid S1
    have HP6 := Lib.hid P1
    have HQ6 := Lib.hid Q1
    have HA6 := Lib.hid A1
    have HB6 := Lib.hid B1
    have HG6 := Lib.hid G1
    have HH6 := Lib.hid H1
    clear S1 P1 Q1 A1 B1 G1 H1 HS5 HP5 HQ5 HA5 HB5 HG5 HH5 oa ob
    go_upto_region 6 with fail
    generalize hW : ((w5.setCell _ _).setCell _ _).setCell _ _ = w6 at HS6 HP6 HQ6 HA6 HB6 HG6 HH6 ⊢
    clear hW al a0 a1 a2 a3 af0 af1 af2 af3 bl b0 b1 b2 b3 bf0 bf1 bf2 bf3
    obtain ⟨⟨al, a0, a1, a2, a3⟩, af0, af1, af2, af3⟩ := HA6.out
    obtain ⟨⟨bl, b0, b1, b2, b3⟩, bf0, bf1, bf2, bf3⟩ := HB6.out
    obtain ⟨⟨pl, p0, p1, pp2, p3⟩, pf0, pf1, pf2, pf3⟩ := HP6.out
    obtain ⟨⟨ql, q0, q1, q2, q3⟩, qf0, qf1, qf2, qf3⟩ := HQ6.out
    go_region
    all_goals go_wp2_with fail
    all_goals refine gen8n (P := fun W => bodyPost _ _ _ _ _ W) HS6.out (Nat.le_refl _) (by omega) (by omega) (by omega) (by omega) HP6.out HQ6.out HG6.out HH6.out ?_
    all_goals intro W3 hS3 hp3 hq3 hg3 hh3
    all_goals
      obtain ⟨_, u0, u1, u2, u3⟩ := hp3
      obtain ⟨_, t0, t1, t2, t3⟩ := hq3
      exact bodyPost_ret (v := .tuple #[nmV (.slice Av xs.length cv) p fam sf, nmV (.slice Bv ys.length dv) p fam sf]) (by simp [results, Tryd.results11, go_sem, u0, u1, u2, u3, t0, t1, t2, t3]) rfl ⟨Av, cv, xs, p, fam, sf, Bv, dv, ys, p, fam, sf, rfl, hg3, hh3, hxl, hyl, HX.out, HY.out, hp, hf, hs, hp, hf, hs, (St.mono hS3 (by omega)).left⟩
  | false =>
    obtain ⟨⟨al, a0, a1, a2, a3⟩, af0, af1, af2, af3⟩ := HA5.out
    obtain ⟨⟨bl, b0, b1, b2, b3⟩, bf0, bf1, bf2, bf3⟩ := HB5.out
    obtain ⟨⟨pl, p0, p1, pp2, p3⟩, pf0, pf1, pf2, pf3⟩ := HP5.out
    obtain ⟨⟨ql, q0, q1, q2, q3⟩, qf0, qf1, qf2, qf3⟩ := HQ5.out
    go_upto_region 6 with fail
    go_region
    all_goals go_wp2_with fail
    all_goals refine gen8n (P := fun W => bodyPost _ _ _ _ _ W) HS5.out (Nat.le_refl _) (by omega) (by omega) (by omega) (by omega) HP5.out HQ5.out HG5.out HH5.out ?_
    all_goals intro W3 hS3 hp3 hq3 hg3 hh3
    all_goals
      obtain ⟨_, u0, u1, u2, u3⟩ := hp3
      obtain ⟨_, t0, t1, t2, t3⟩ := hq3
      exact bodyPost_ret (v := .tuple #[nmV (.slice Av xs.length cv) p fam sf, nmV (.slice Bv ys.length dv) p2 fam2 sf2]) (by simp [results, Tryd.results11, go_sem, u0, u1, u2, u3, t0, t1, t2, t3]) rfl ⟨Av, cv, xs, p, fam, sf, Bv, dv, ys, p2, fam2, sf2, rfl, hg3, hh3, hxl, hyl, HX.out, HY.out, hp, hf, hs, hp2, hf2, hs2, (St.mono hS3 (by omega)).left⟩
end Go.Proofs.YtgabgmogcniedaaDoor.StN
