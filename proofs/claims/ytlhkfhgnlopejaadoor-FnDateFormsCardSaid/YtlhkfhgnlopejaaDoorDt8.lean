/-
  Contracts of chapter 3: DateBounds of both.
-/
import Derived.Test.YtlhkfhgnlopejaaDoorDt7
import Derived.Test.YtlhkfhgnlopejaaDoorLaw2
import Derived.RegionTactic
import Derived.BigRegion
namespace Go.Proofs.YtlhkfhgnlopejaaDoor.Dt
open Go.RowKit DtPl Law2
set_option linter.unusedSimpArgs false
set_option linter.unusedVariables false

def loM (m : Int) : Int := if m = 0 then 1 else m
def hiM (m : Int) : Int := if m = 0 then 12 else m
theorem lo_ne {m : Int} (h : ¬ m = 0) : loM m = m := if_neg h
theorem hi_ne {m : Int} (h : ¬ m = 0) : hiM m = m := if_neg h
def zero3 : Value := .tuple #[dtV 0 0 0 false, dtV 0 0 0 false, .bool false]
/-- what DateBounds answers -/
def bdV (y m d : Int) (c : Bool) : Value :=
  if okB y m d c = true ∧ ¬ y = 0 ∧ c = false then .tuple #[dtV y (loM m) (if d = 0 then 1 else d) false, dtV y (hiM m) (if d = 0 then dim y (hiM m) else d) false, .bool true] else zero3
theorem bd_no {y m d : Int} {c : Bool} (h : okB y m d c = false ∨ y = 0 ∨ c = true) : bdV y m d c = zero3 := by
  unfold bdV
  rw [if_neg]
  rintro ⟨h1, h2, h3⟩
  rcases h with h | h | h
  · rw [h] at h1; cases h1
  · exact h2 h
  · rw [h] at h3; cases h3
theorem bd_yes {y m d : Int} (h : okB y m d false = true) (hy : ¬ y = 0) : bdV y m d false = .tuple #[dtV y (loM m) (if d = 0 then 1 else d) false, dtV y (hiM m) (if d = 0 then dim y (hiM m) else d) false, .bool true] := by
  unfold bdV; rw [if_pos ⟨h, hy, rfl⟩]
theorem bd_form (y m d : Int) (c : Bool) : ∃ a b e f a' b' e' f' r, bdV y m d c = .tuple #[dtV a b e f, dtV a' b' e' f', .bool r] := by
  unfold bdV; split
  · exact ⟨_, _, _, _, _, _, _, _, _, rfl⟩
  · exact ⟨_, _, _, _, _, _, _, _, _, rfl⟩
/-- the boxes of the argument and of the two results -/
structure Res (W : World) (n : Nat) (y m d : Int) (c : Bool) : Prop where
  a : D4 W n y m d c
  p : D4F W (n + 1) 0 0 0 false
  q : D4F W (n + 1 + 1) 0 0 0 false
theorem Res.below {W w' : World} {n : Nat} {y m d : Int} {c : Bool} (h : Res W n y m d c) (hb : Below W.heap.size W w') : Res w' n y m d c :=
  ⟨h.a.below hb, D4F.below hb h.p, D4F.below hb h.q⟩
theorem res3 (w : World) (y m d : Int) (c : Bool) : Res (((w.alloc (.cells #[.int .i64 y, .int .i64 m, .int .i64 d, .bool c] 25)).alloc (.cells #[.int .i64 0, .int .i64 0, .int .i64 0, .bool false] 25)).alloc (.cells #[.int .i64 0, .int .i64 0, .int .i64 0, .bool false] 25)) w.heap.size y m d c := by
  have h := three w y m d c 0 0 0 false
  refine ⟨h.a, ⟨h.b, ?_⟩, h.z⟩
  have z := D4F.new (w.alloc (.cells #[.int .i64 y, .int .i64 m, .int .i64 d, .bool c] 25)) 0 0 0 false 25
  have z' := D4F.below (box_below _ (.cells #[.int .i64 0, .int .i64 0, .int .i64 0, .bool false] 25)) z
  rw [show (w.alloc (.cells #[.int .i64 y, .int .i64 m, .int .i64 d, .bool c] 25)).heap.size = w.heap.size + 1 by simp] at z'
  exact z'.2
theorem below_drew {W w1 : World} (h : Below W.heap.size W w1) : Below W.heap.size W w1.drew := ⟨h.os, h.tape, h.output, h.size, h.block⟩
/-- two new boxes -/
theorem gen2 {P : World → Prop} {w1 : World} {x0 x1 x2 y0 y1 y2 : Int} {x3 y3 : Bool} (h : ∀ W2, Kept w1 W2 → D4 W2 w1.heap.size x0 x1 x2 x3 → D4 W2 (w1.heap.size + 1) y0 y1 y2 y3 → P W2) :
    P ((w1.alloc (.cells #[.int .i64 x0, .int .i64 x1, .int .i64 x2, .bool x3] 25)).alloc (.cells #[.int .i64 y0, .int .i64 y1, .int .i64 y2, .bool y3] 25)).drew := by
  have t := Two.new w1 x0 x1 x2 x3 y0 y1 y2 y3 25 25
  exact h _ (below_drew (box2 w1 _ _)) t.1 t.2
theorem c_far {W : World} {b b' i j : Nat} {v : Value} (h : b ≠ b') : (W.setCell ⟨b, i, none⟩ v).cell? ⟨b', j, none⟩ = W.cell? ⟨b', j, none⟩ := World.cell?_setCell_other W _ _ _ (fun e => h (by cases e; rfl))
theorem d4_far {W : World} {b b' : Nat} {y m d : Int} {c : Bool} {v0 v1 v2 v3 : Value} (hne : b ≠ b') (h : D4 W b' y m d c) : D4 ((((W.setCell ⟨b, 0, none⟩ v0).setCell ⟨b, 1, none⟩ v1).setCell ⟨b, 2, none⟩ v2).setCell ⟨b, 3, none⟩ v3) b' y m d c := by
  obtain ⟨hl, h0, h1, h2, h3⟩ := h
  refine ⟨by simpa [World.setCell] using hl, ?_, ?_, ?_, ?_⟩
  all_goals rw [c_far hne, c_far hne, c_far hne, c_far hne]; assumption
theorem f4_far {W : World} {b b' : Nat} {v0 v1 v2 v3 : Value} (h : F4 W b') : F4 ((((W.setCell ⟨b, 0, none⟩ v0).setCell ⟨b, 1, none⟩ v1).setCell ⟨b, 2, none⟩ v2).setCell ⟨b, 3, none⟩ v3) b' := by
  obtain ⟨h0, h1, h2, h3⟩ := h
  refine ⟨?_, ?_, ?_, ?_⟩
  all_goals rw [World.frozen?_setCell, World.frozen?_setCell, World.frozen?_setCell, World.frozen?_setCell]; assumption
theorem fin8 {W W2 : World} {b b' : Nat} (k2 : Below W.heap.size W W2) (hb : W.heap.size ≤ b) (hb' : W.heap.size ≤ b') (hne : b ≠ b') (hp : D4F W2 b 0 0 0 false) (hq : D4F W2 b' 0 0 0 false) (x0 x1 x2 y0 y1 y2 : Int) (x3 y3 : Bool) :
    Below W.heap.size W ((((((((W2.setCell ⟨b, 0, none⟩ (.int .i64 x0)).setCell ⟨b, 1, none⟩ (.int .i64 x1)).setCell ⟨b, 2, none⟩ (.int .i64 x2)).setCell ⟨b, 3, none⟩ (.bool x3)).setCell ⟨b', 0, none⟩ (.int .i64 y0)).setCell ⟨b', 1, none⟩ (.int .i64 y1)).setCell ⟨b', 2, none⟩ (.int .i64 y2)).setCell ⟨b', 3, none⟩ (.bool y3))
    ∧ D4 ((((((((W2.setCell ⟨b, 0, none⟩ (.int .i64 x0)).setCell ⟨b, 1, none⟩ (.int .i64 x1)).setCell ⟨b, 2, none⟩ (.int .i64 x2)).setCell ⟨b, 3, none⟩ (.bool x3)).setCell ⟨b', 0, none⟩ (.int .i64 y0)).setCell ⟨b', 1, none⟩ (.int .i64 y1)).setCell ⟨b', 2, none⟩ (.int .i64 y2)).setCell ⟨b', 3, none⟩ (.bool y3)) b x0 x1 x2 x3
    ∧ D4 ((((((((W2.setCell ⟨b, 0, none⟩ (.int .i64 x0)).setCell ⟨b, 1, none⟩ (.int .i64 x1)).setCell ⟨b, 2, none⟩ (.int .i64 x2)).setCell ⟨b, 3, none⟩ (.bool x3)).setCell ⟨b', 0, none⟩ (.int .i64 y0)).setCell ⟨b', 1, none⟩ (.int .i64 y1)).setCell ⟨b', 2, none⟩ (.int .i64 y2)).setCell ⟨b', 3, none⟩ (.bool y3)) b' y0 y1 y2 y3 :=
  ⟨set4 (set4 k2 hb) hb', d4_far (Ne.symm hne) (D4F.set4 hp x0 x1 x2 x3), D4F.set4 ⟨d4_far hne hq.1, f4_far hq.2⟩ y0 y1 y2 y3⟩
theorem gen8 {P : World → Prop} {W W2 : World} {b b' : Nat} (k2 : Below W.heap.size W W2) (hb : W.heap.size ≤ b) (hb' : W.heap.size ≤ b') (hne : b ≠ b') (hp : D4F W2 b 0 0 0 false) (hq : D4F W2 b' 0 0 0 false) {x0 x1 x2 y0 y1 y2 : Int} {x3 y3 : Bool}
    (h : ∀ W3, Below W.heap.size W W3 → D4 W3 b x0 x1 x2 x3 → D4 W3 b' y0 y1 y2 y3 → P W3) :
    P ((((((((W2.setCell ⟨b, 0, none⟩ (.int .i64 x0)).setCell ⟨b, 1, none⟩ (.int .i64 x1)).setCell ⟨b, 2, none⟩ (.int .i64 x2)).setCell ⟨b, 3, none⟩ (.bool x3)).setCell ⟨b', 0, none⟩ (.int .i64 y0)).setCell ⟨b', 1, none⟩ (.int .i64 y1)).setCell ⟨b', 2, none⟩ (.int .i64 y2)).setCell ⟨b', 3, none⟩ (.bool y3)) := by
  obtain ⟨a, c, e⟩ := fin8 k2 hb hb' hne hp hq x0 x1 x2 y0 y1 y2 x3 y3
  exact h _ a c e
theorem gen8d {P : World → Prop} {W W2 : World} {b b' : Nat} (k2 : Below W.heap.size W W2) (hb : W.heap.size ≤ b) (hb' : W.heap.size ≤ b') (hne : b ≠ b') (hp : D4F W2 b 0 0 0 false) (hq : D4F W2 b' 0 0 0 false) {x0 x1 x2 y0 y1 y2 : Int} {x3 y3 : Bool}
    (h : ∀ W3, Below W.heap.size W W3 → D4 W3 b x0 x1 x2 x3 → D4 W3 b' y0 y1 y2 y3 → P W3) :
    P ((((((((W2.setCell ⟨b, 0, none⟩ (.int .i64 x0)).setCell ⟨b, 1, none⟩ (.int .i64 x1)).setCell ⟨b, 2, none⟩ (.int .i64 x2)).setCell ⟨b, 3, none⟩ (.bool x3)).setCell ⟨b', 0, none⟩ (.int .i64 y0)).setCell ⟨b', 1, none⟩ (.int .i64 y1)).setCell ⟨b', 2, none⟩ (.int .i64 y2)).setCell ⟨b', 3, none⟩ (.bool y3)).drew := by
  obtain ⟨a, c, e⟩ := fin8 k2 hb hb' hne hp hq x0 x1 x2 y0 y1 y2 x3 y3
  have key : ∀ X, Below W.heap.size W X → D4 X b x0 x1 x2 x3 → D4 X b' y0 y1 y2 y3 → P X.drew := fun X a c e => h X.drew (below_drew a) c e
  exact key _ a c e

set_option maxHeartbeats 8000000 in
theorem iBounds (y m d : Int) (c : Bool) (v : Value) (w : World) (hv : bdV y m d c = v) :
    Calls Tryd.prog 14 #[dtV y m d c] w fun e w' => e = .returned v ∧ Below w.heap.size w w' := by
  have HV := Lib.hid hv
  have HT := Lib.hid (res3 w y m d c)
  have HK := Lib.hid (box3 w (.cells #[.int .i64 y, .int .i64 m, .int .i64 d, .bool c] 25) (.cells #[.int .i64 0, .int .i64 0, .int .i64 0, .bool false] 25) (.cells #[.int .i64 0, .int .i64 0, .int .i64 0, .bool false] 25))
  clear hv
  generalize hra : okB y m d c = ra
  have HA := Lib.hid hra
  clear hra
  cases ra with
  | false =>
    have HE : Hid (v = zero3) := Lib.hid (by rw [← HV.out]; exact bd_no (.inl HA.out))
    go_enter Tryd.func14, Tryd.ntmps14
    go_wp2_with fail
    refine (iValid _ _ _ _ false _ HA.out).mono ?_
    rintro e w1 ⟨rfl, b1⟩
    have k1 := HK.out.trans (b1.mono HK.out.size)
    have HT1 := Lib.hid (HT.out.below b1)
    clear b1
    obtain ⟨hal, ha0, ha1, ha2, ha3⟩ := HT1.out.a
    obtain ⟨⟨hbl, hb0, hb1, hb2, hb3⟩, hg0, hg1, hg2, hg3⟩ := HT1.out.p
    obtain ⟨⟨hzl, hz0, hz1, hz2, hz3⟩, hf0, hf1, hf2, hf3⟩ := HT1.out.q
    go_wp2_with fail
    refine gen8 (P := fun W => bodyPost _ _ _ _ _ W) k1 (by omega) (by omega) (by omega) HT1.out.p HT1.out.q ?_
    intro W3 k3 hp3 hq3
    obtain ⟨_, u0, u1, u2, u3⟩ := hp3
    obtain ⟨_, t0, t1, t2, t3⟩ := hq3
    exact bodyPost_ret (v := .tuple #[dtV 0 0 0 false, dtV 0 0 0 false, .bool false]) (by simp [results, Tryd.results14, go_sem, u0, u1, u2, u3, t0, t1, t2, t3]) rfl ⟨by rw [HE.out]; rfl, k3⟩
  | true =>
    by_cases hy0 : y = 0
    · have HE : Hid (v = zero3) := Lib.hid (by rw [← HV.out]; exact bd_no (.inr (.inl hy0)))
      have HZ : Hid (zB y m d c = true) := Lib.hid (by rw [ok_zero HA.out]; exact decide_eq_true hy0)
      clear hy0
      go_enter Tryd.func14, Tryd.ntmps14
      go_wp2_with fail
      refine (iValid _ _ _ _ true _ HA.out).mono ?_
      rintro e w0 ⟨rfl, b0⟩
      have k0 := HK.out.trans (b0.mono HK.out.size)
      have HT0 := Lib.hid (HT.out.below b0)
      clear b0
      obtain ⟨hal, ha0, ha1, ha2, ha3⟩ := HT0.out.a
      go_wp2_with fail
      refine (isUnknown _ _ _ _ true _ HZ.out).mono ?_
      rintro e w1 ⟨rfl, b2⟩
      have k1 := k0.trans (b2.mono k0.size)
      have HT1 := Lib.hid (HT0.out.below b2)
      clear b2 hal ha0 ha1 ha2 ha3 k0 HT0
      obtain ⟨hal, ha0, ha1, ha2, ha3⟩ := HT1.out.a
      obtain ⟨⟨hbl, hb0, hb1, hb2, hb3⟩, hg0, hg1, hg2, hg3⟩ := HT1.out.p
      obtain ⟨⟨hzl, hz0, hz1, hz2, hz3⟩, hf0, hf1, hf2, hf3⟩ := HT1.out.q
      go_wp2_with fail
      refine gen8 (P := fun W => bodyPost _ _ _ _ _ W) k1 (by omega) (by omega) (by omega) HT1.out.p HT1.out.q ?_
      intro W3 k3 hp3 hq3
      obtain ⟨_, u0, u1, u2, u3⟩ := hp3
      obtain ⟨_, t0, t1, t2, t3⟩ := hq3
      exact bodyPost_ret (v := .tuple #[dtV 0 0 0 false, dtV 0 0 0 false, .bool false]) (by simp [results, Tryd.results14, go_sem, u0, u1, u2, u3, t0, t1, t2, t3]) rfl ⟨by rw [HE.out]; rfl, k3⟩
    · have hyn : (y == 0) = false := by simpa using hy0
      have HZ : Hid (zB y m d c = false) := Lib.hid (by rw [ok_zero HA.out]; exact decide_eq_false hy0)
      cases c with
      | true =>
        have HE : Hid (v = zero3) := Lib.hid (by rw [← HV.out]; exact bd_no (.inr (.inr rfl)))
        go_enter Tryd.func14, Tryd.ntmps14
        go_wp2_with fail
        refine (iValid _ _ _ _ true _ HA.out).mono ?_
        rintro e w0 ⟨rfl, b0⟩
        have k0 := HK.out.trans (b0.mono HK.out.size)
        have HT0 := Lib.hid (HT.out.below b0)
        clear b0
        obtain ⟨hal, ha0, ha1, ha2, ha3⟩ := HT0.out.a
        go_wp2_with fail
        refine (isUnknown _ _ _ _ false _ HZ.out).mono ?_
        rintro e w1 ⟨rfl, b2⟩
        have k1 := k0.trans (b2.mono k0.size)
        have HT1 := Lib.hid (HT0.out.below b2)
        clear b2 hal ha0 ha1 ha2 ha3 k0 HT0
        obtain ⟨hal, ha0, ha1, ha2, ha3⟩ := HT1.out.a
        obtain ⟨⟨hbl, hb0, hb1, hb2, hb3⟩, hg0, hg1, hg2, hg3⟩ := HT1.out.p
        obtain ⟨⟨hzl, hz0, hz1, hz2, hz3⟩, hf0, hf1, hf2, hf3⟩ := HT1.out.q
        go_wp2_with fail
        refine gen8 (P := fun W => bodyPost _ _ _ _ _ W) k1 (by omega) (by omega) (by omega) HT1.out.p HT1.out.q ?_
        intro W3 k3 hp3 hq3
        obtain ⟨_, u0, u1, u2, u3⟩ := hp3
        obtain ⟨_, t0, t1, t2, t3⟩ := hq3
        exact bodyPost_ret (v := .tuple #[dtV 0 0 0 false, dtV 0 0 0 false, .bool false]) (by simp [results, Tryd.results14, go_sem, u0, u1, u2, u3, t0, t1, t2, t3]) rfl ⟨by rw [HE.out]; rfl, k3⟩
      | false =>
        have hbd : 1 ≤ y ∧ y ≤ 2999 := by have := ok_bd HA.out; omega
        obtain ⟨hyA, hyB⟩ := hbd
        by_cases hm0 : m = 0
        · have hd0 : d = 0 := by have := (okF y m d).1 (okB_iff.1 HA.out); omega
          subst hm0
          subst hd0
          have HE : Hid (v = .tuple #[dtV y 1 1 false, dtV y 12 (dim y 12) false, .bool true]) := Lib.hid (by rw [← HV.out, bd_yes HA.out hy0]; rfl)
          clear hy0
          go_enter Tryd.func14, Tryd.ntmps14
          go_wp2_with fail
          refine (iValid _ _ _ _ true _ HA.out).mono ?_
          rintro e w0 ⟨rfl, b0⟩
          have k0 := HK.out.trans (b0.mono HK.out.size)
          have HT0 := Lib.hid (HT.out.below b0)
          clear b0
          obtain ⟨hal, ha0, ha1, ha2, ha3⟩ := HT0.out.a
          go_wp2_with fail
          refine (isUnknown _ _ _ _ false _ HZ.out).mono ?_
          rintro e w1 ⟨rfl, b2⟩
          have k1 := k0.trans (b2.mono k0.size)
          have HT1 := Lib.hid (HT0.out.below b2)
          clear b2 hal ha0 ha1 ha2 ha3 k0 HT0
          obtain ⟨hal, ha0, ha1, ha2, ha3⟩ := HT1.out.a
          obtain ⟨⟨hbl, hb0, hb1, hb2, hb3⟩, hg0, hg1, hg2, hg3⟩ := HT1.out.p
          obtain ⟨⟨hzl, hz0, hz1, hz2, hz3⟩, hf0, hf1, hf2, hf3⟩ := HT1.out.q
          go_wp2_with fail
          go_region
          all_goals go_wp2_with (go_at_call 33; refine (daysInMonth _ _ _ (by omega) (by omega) (by omega) (by omega)).mono ?_; rintro e w' ⟨rfl, rfl⟩)
          all_goals refine gen2 (P := fun W => Code.wp _ _ _ _ W) ?_
          all_goals intro W2 hk2 hX hY
          all_goals
            have HT2 := Lib.hid (HT1.out.below hk2)
            have k2 := k1.trans (Below.mono hk2 k1.size)
            have kd := below_drew k2
            clear hal ha0 ha1 ha2 ha3 hbl hb0 hb1 hb2 hb3 hg0 hg1 hg2 hg3 hzl hz0 hz1 hz2 hz3 hf0 hf1 hf2 hf3 hk2
            obtain ⟨⟨hbl, hb0, hb1, hb2, hb3⟩, hg0, hg1, hg2, hg3⟩ := HT2.out.p
            obtain ⟨⟨hzl, hz0, hz1, hz2, hz3⟩, hf0, hf1, hf2, hf3⟩ := HT2.out.q
            obtain ⟨hxl, hx0, hx1, hx2, hx3⟩ := hX
            obtain ⟨hyl, hy0, hy1, hy2, hy3⟩ := hY
            have hn1 : w.heap.size + 1 + 1 < w1.heap.size := HT1.out.q.1.1
            generalize hs1 : w1.heap.size = B at *
            clear hs1
            go_region
            all_goals go_wp2_with fail
            all_goals refine gen8d (P := fun W => bodyPost _ _ _ _ _ W) k2 (by omega) (by omega) (by omega) HT2.out.p HT2.out.q ?_
            all_goals intro W3 k3 hp3 hq3
            all_goals
              obtain ⟨_, u0, u1, u2, u3⟩ := hp3
              obtain ⟨_, t0, t1, t2, t3⟩ := hq3
              exact bodyPost_ret (v := .tuple #[dtV y 1 1 false, dtV y 12 (dim y 12) false, .bool true]) (by simp [results, Tryd.results14, go_sem, u0, u1, u2, u3, t0, t1, t2, t3]) rfl ⟨by rw [HE.out], k3⟩
        · have hmb : 1 ≤ m ∧ m ≤ 12 := by have := (okF y m d).1 (okB_iff.1 HA.out); omega
          obtain ⟨hmA, hmB⟩ := hmb
          have hmn : (m == 0) = false := by simpa using hm0
          by_cases hd0 : d = 0
          · subst hd0
            have HE : Hid (v = .tuple #[dtV y m 1 false, dtV y m (dim y m) false, .bool true]) := Lib.hid (by rw [← HV.out, bd_yes HA.out hy0, lo_ne hm0, hi_ne hm0]; rfl)
            clear hy0 hm0
            go_enter Tryd.func14, Tryd.ntmps14
            go_wp2_with fail
            refine (iValid _ _ _ _ true _ HA.out).mono ?_
            rintro e w0 ⟨rfl, b0⟩
            have k0 := HK.out.trans (b0.mono HK.out.size)
            have HT0 := Lib.hid (HT.out.below b0)
            clear b0
            obtain ⟨hal, ha0, ha1, ha2, ha3⟩ := HT0.out.a
            go_wp2_with fail
            refine (isUnknown _ _ _ _ false _ HZ.out).mono ?_
            rintro e w1 ⟨rfl, b2⟩
            have k1 := k0.trans (b2.mono k0.size)
            have HT1 := Lib.hid (HT0.out.below b2)
            clear b2 hal ha0 ha1 ha2 ha3 k0 HT0
            obtain ⟨hal, ha0, ha1, ha2, ha3⟩ := HT1.out.a
            obtain ⟨⟨hbl, hb0, hb1, hb2, hb3⟩, hg0, hg1, hg2, hg3⟩ := HT1.out.p
            obtain ⟨⟨hzl, hz0, hz1, hz2, hz3⟩, hf0, hf1, hf2, hf3⟩ := HT1.out.q
            go_wp2_with fail
            go_region
            all_goals go_wp2_with (go_at_call 33; refine (daysInMonth _ _ _ (by omega) (by omega) (by omega) (by omega)).mono ?_; rintro e w' ⟨rfl, rfl⟩)
            all_goals refine gen2 (P := fun W => Code.wp _ _ _ _ W) ?_
            all_goals intro W2 hk2 hX hY
            all_goals
              have HT2 := Lib.hid (HT1.out.below hk2)
              have k2 := k1.trans (Below.mono hk2 k1.size)
              have kd := below_drew k2
              clear hal ha0 ha1 ha2 ha3 hbl hb0 hb1 hb2 hb3 hg0 hg1 hg2 hg3 hzl hz0 hz1 hz2 hz3 hf0 hf1 hf2 hf3 hk2
              obtain ⟨⟨hbl, hb0, hb1, hb2, hb3⟩, hg0, hg1, hg2, hg3⟩ := HT2.out.p
              obtain ⟨⟨hzl, hz0, hz1, hz2, hz3⟩, hf0, hf1, hf2, hf3⟩ := HT2.out.q
              obtain ⟨hxl, hx0, hx1, hx2, hx3⟩ := hX
              obtain ⟨hyl, hy0, hy1, hy2, hy3⟩ := hY
              have hn1 : w.heap.size + 1 + 1 < w1.heap.size := HT1.out.q.1.1
              generalize hs1 : w1.heap.size = B at *
              clear hs1
              go_region
              all_goals go_wp2_with fail
              all_goals refine gen8d (P := fun W => bodyPost _ _ _ _ _ W) k2 (by omega) (by omega) (by omega) HT2.out.p HT2.out.q ?_
              all_goals intro W3 k3 hp3 hq3
              all_goals
                obtain ⟨_, u0, u1, u2, u3⟩ := hp3
                obtain ⟨_, t0, t1, t2, t3⟩ := hq3
                exact bodyPost_ret (v := .tuple #[dtV y m 1 false, dtV y m (dim y m) false, .bool true]) (by simp [results, Tryd.results14, go_sem, u0, u1, u2, u3, t0, t1, t2, t3]) rfl ⟨by rw [HE.out], k3⟩
          · have hdn : (d == 0) = false := by simpa using hd0
            have HE : Hid (v = .tuple #[dtV y m d false, dtV y m d false, .bool true]) := Lib.hid (by rw [← HV.out, bd_yes HA.out hy0, lo_ne hm0, hi_ne hm0, if_neg hd0, if_neg hd0])
            clear hy0 hm0 hd0
            go_enter Tryd.func14, Tryd.ntmps14
            go_wp2_with fail
            refine (iValid _ _ _ _ true _ HA.out).mono ?_
            rintro e w0 ⟨rfl, b0⟩
            have k0 := HK.out.trans (b0.mono HK.out.size)
            have HT0 := Lib.hid (HT.out.below b0)
            clear b0
            obtain ⟨hal, ha0, ha1, ha2, ha3⟩ := HT0.out.a
            go_wp2_with fail
            refine (isUnknown _ _ _ _ false _ HZ.out).mono ?_
            rintro e w1 ⟨rfl, b2⟩
            have k1 := k0.trans (b2.mono k0.size)
            have HT1 := Lib.hid (HT0.out.below b2)
            clear b2 hal ha0 ha1 ha2 ha3 k0 HT0
            obtain ⟨hal, ha0, ha1, ha2, ha3⟩ := HT1.out.a
            obtain ⟨⟨hbl, hb0, hb1, hb2, hb3⟩, hg0, hg1, hg2, hg3⟩ := HT1.out.p
            obtain ⟨⟨hzl, hz0, hz1, hz2, hz3⟩, hf0, hf1, hf2, hf3⟩ := HT1.out.q
            go_wp2_with fail
            go_region
            all_goals go_wp2_with fail
            all_goals refine gen2 (P := fun W => Code.wp _ _ _ _ W) ?_
            all_goals intro W2 hk2 hX hY
            all_goals
              have HT2 := Lib.hid (HT1.out.below hk2)
              have k2 := k1.trans (Below.mono hk2 k1.size)
              have kd := below_drew k2
              clear hal ha0 ha1 ha2 ha3 hbl hb0 hb1 hb2 hb3 hg0 hg1 hg2 hg3 hzl hz0 hz1 hz2 hz3 hf0 hf1 hf2 hf3 hk2
              obtain ⟨⟨hbl, hb0, hb1, hb2, hb3⟩, hg0, hg1, hg2, hg3⟩ := HT2.out.p
              obtain ⟨⟨hzl, hz0, hz1, hz2, hz3⟩, hf0, hf1, hf2, hf3⟩ := HT2.out.q
              obtain ⟨hxl, hx0, hx1, hx2, hx3⟩ := hX
              obtain ⟨hyl, hy0, hy1, hy2, hy3⟩ := hY
              have hn1 : w.heap.size + 1 + 1 < w1.heap.size := HT1.out.q.1.1
              generalize hs1 : w1.heap.size = B at *
              clear hs1
              go_region
              all_goals go_wp2_with fail
              all_goals refine gen8d (P := fun W => bodyPost _ _ _ _ _ W) k2 (by omega) (by omega) (by omega) HT2.out.p HT2.out.q ?_
              all_goals intro W3 k3 hp3 hq3
              all_goals
                obtain ⟨_, u0, u1, u2, u3⟩ := hp3
                obtain ⟨_, t0, t1, t2, t3⟩ := hq3
                exact bodyPost_ret (v := .tuple #[dtV y m d false, dtV y m d false, .bool true]) (by simp [results, Tryd.results14, go_sem, u0, u1, u2, u3, t0, t1, t2, t3]) rfl ⟨by rw [HE.out], k3⟩

end Go.Proofs.YtlhkfhgnlopejaaDoor.Dt
