/-
  Contracts of chapter 3: l3Compare, CompareDates of both.
-/
import Derived.Test.YtlhkfhgnlopejaaDoorDt5
import Derived.Test.YtlhkfhgnlopejaaDoorLaw2
import Derived.Deep.RegionHeld3
namespace Go.Proofs.YtlhkfhgnlopejaaDoor.Dt
open Go.RowKit DtPl Law2
set_option linter.unusedSimpArgs false
set_option linter.unusedVariables false

set_option maxHeartbeats 4000000 in
theorem l3Compare (y m d : Int) (c : Bool) (y' m' d' : Int) (c' : Bool) (x : Int) (w : World) (hv : okB y m d c = true) (hv' : okB y' m' d' c' = true) (hx : cmpD y m d c y' m' d' c' = x) :
    Calls Tryd.prog 30 #[dtV y m d c, dtV y' m' d' c'] w fun e w' => e = .returned (.int .i64 x) ∧ Below w.heap.size w w' := by
  have HX := Lib.hid hx
  have HM := Lib.hid (cmp_model hv hv' _ rfl)
  obtain ⟨a0, a1, a2, a3, a4, a5⟩ := ok_bd hv
  obtain ⟨b0, b1, b2, b3, b4, b5⟩ := ok_bd hv'
  clear hx hv hv'
  cases c <;> cases c'
  all_goals
    go_enter Tryd.func30, Tryd.ntmps30
    go_wp2_with fail
    all_goals go_ret
    all_goals refine ⟨ret_int ?_, box2 _ _ _⟩
    all_goals rw [← HX.out, HM.out]
    all_goals try simp only [beq_iff_eq, beq_eq_false_iff_ne, ne_eq] at *
    all_goals simp
    all_goals omega
theorem compareInt_r (x y r : Int) (w : World) (hr : cmpI x y = r) : Calls Tryd.prog 28 #[.int .i64 x, .int .i64 y] w fun e w' => e = .returned (.int .i64 r) ∧ w = w' := by
  subst hr; exact compareInt x y w
theorem compareBools_r (a b : Bool) (r : Int) (w : World) (hr : cmpB a b = r) : Calls Tryd.prog 29 #[.bool a, .bool b] w fun e w' => e = .returned (.int .i64 r) ∧ w = w' := by
  subst hr; exact compareBools a b w
theorem rdi_lit {w : World} {cs : Array Value} {t : TypeId} {xs : List Int} (h : cs = (xs.map (Value.int .i64)).toArray) : RdI (w.alloc (.cells cs t)) (some ⟨w.heap.size, 0, none⟩) xs := by
  intro j x hx
  subst h
  refine ⟨w.heap.size, 0, rfl, ?_⟩
  rw [Nat.zero_add, World.cell?_alloc_mark]
  simp [hx]
theorem rdi4 (a b c d : Int) (w : World) : RdI (w.alloc (.cells #[.int .i64 a, .int .i64 b, .int .i64 c, .int .i64 d] 3)).drew (some ⟨w.heap.size, 0, none⟩) [a, b, c, d] :=
  fun j x hx => rdi_lit (xs := [a, b, c, d]) (w := w) (t := 3) rfl j x hx
theorem or4 (a b c d : Int) : orL [a, b, c, d] = orI a (orI b (orI c d)) := by
  unfold orL orI
  simp only [List.foldr_cons, List.foldr_nil]
  have h : (if d = 0 then 0 else d) = d := by split <;> omega
  rw [h]
theorem box_drew1 (w : World) (o : Obj) : Below w.heap.size w (w.alloc o).drew := by
  have h := box_below w o
  exact ⟨h.os, h.tape, h.output, h.size, h.block⟩

set_option maxHeartbeats 2000000 in
theorem iCompare (y m d : Int) (c : Bool) (y' m' d' : Int) (c' : Bool) (ra rb : Bool) (x : Int) (w : World) (ha : okB y m d c = ra) (hb : okB y' m' d' c' = rb) (hx : (if (ra && rb) = true then orI (cmpI y y') (orI (cmpI m m') (orI (cmpI d d') (cmpB c c'))) else 0) = x) :
    Calls Tryd.prog 11 #[dtV y m d c, dtV y' m' d' c'] w fun e w' => e = .returned (.tuple #[.int .i64 x, .bool (ra && rb)]) ∧ Below w.heap.size w w' := by
  have HVa := Lib.hid ha
  have HVb := Lib.hid hb
  have HX := Lib.hid hx
  have HK := Lib.hid (box2 w (.cells #[.int .i64 y, .int .i64 m, .int .i64 d, .bool c] 25) (.cells #[.int .i64 y', .int .i64 m', .int .i64 d', .bool c'] 25))
  have HA := Lib.hid ((D4.new w y m d c 25).below (box_below (w.alloc (.cells #[.int .i64 y, .int .i64 m, .int .i64 d, .bool c] 25)) (.cells #[.int .i64 y', .int .i64 m', .int .i64 d', .bool c'] 25)))
  have HB : Hid (D4 ((w.alloc (.cells #[.int .i64 y, .int .i64 m, .int .i64 d, .bool c] 25)).alloc (.cells #[.int .i64 y', .int .i64 m', .int .i64 d', .bool c'] 25)) (w.heap.size + 1) y' m' d' c') := Lib.hid (by
    have h := D4.new (w.alloc (.cells #[.int .i64 y, .int .i64 m, .int .i64 d, .bool c] 25)) y' m' d' c' 25
    rwa [show (w.alloc (.cells #[.int .i64 y, .int .i64 m, .int .i64 d, .bool c] 25)).heap.size = w.heap.size + 1 by simp] at h)
  clear ha hb hx
  cases ra with
  | false =>
    go_enter Tryd.func11, Tryd.ntmps11
    go_wp2_with fail
    refine (iValid y m d c false _ HVa.out).mono ?_
    rintro e w1 ⟨rfl, b1⟩
    go_wp2_with fail
    go_ret2
    exact ⟨by rw [← HX.out]; rfl, HK.out.trans (b1.mono HK.out.size)⟩
  | true =>
    cases rb with
    | false =>
      go_enter Tryd.func11, Tryd.ntmps11
      go_wp2_with fail
      refine (iValid y m d c true _ HVa.out).mono ?_
      rintro e w1 ⟨rfl, b1⟩
      have k1 := HK.out.trans (b1.mono HK.out.size)
      obtain ⟨hbl, hb0, hb1, hb2, hb3⟩ := HB.out.below b1
      clear b1
      go_wp2_with fail
      refine (iValid y' m' d' c' false _ HVb.out).mono ?_
      rintro e w2 ⟨rfl, b2⟩
      have k2 := k1.trans (b2.mono k1.size)
      clear hbl hb0 hb1 hb2 hb3 b2 k1
      go_wp2_with fail
      go_ret2
      exact ⟨by rw [← HX.out]; rfl, k2⟩
    | true =>
      go_enter Tryd.func11, Tryd.ntmps11
      go_wp2_with fail
      refine (iValid y m d c true _ HVa.out).mono ?_
      rintro e w1 ⟨rfl, b1⟩
      have k1 := HK.out.trans (b1.mono HK.out.size)
      have HA1 := Lib.hid (HA.out.below b1)
      have HB1 := Lib.hid (HB.out.below b1)
      obtain ⟨hbl, hb0, hb1, hb2, hb3⟩ := HB1.out
      clear b1
      go_wp2_with fail
      refine (iValid y' m' d' c' true _ HVb.out).mono ?_
      rintro e w2 ⟨rfl, b2⟩
      have k2 := k1.trans (b2.mono k1.size)
      have HA2 := Lib.hid (HA1.out.below b2)
      have HB2 := Lib.hid (HB1.out.below b2)
      clear hbl hb0 hb1 hb2 hb3 b2 k1 HA1 HB1
      obtain ⟨hbl, hb0, hb1, hb2, hb3⟩ := HB2.out
      obtain ⟨hal, ha0, ha1, ha2, ha3⟩ := HA2.out
      go_wp2_with fail
      clear hbl hb0 hb1 hb2 hb3 hal ha0 ha1 ha2 ha3
      have HS : Hid (∀ w', Kept w2 w' → ((w'.cell? ⟨w.heap.size, 0, none⟩ = some (.int .i64 y) ∧ w'.cell? ⟨w.heap.size, 1, none⟩ = some (.int .i64 m) ∧ w'.cell? ⟨w.heap.size, 2, none⟩ = some (.int .i64 d) ∧ w'.cell? ⟨w.heap.size, 3, none⟩ = some (.bool c)) ∧ (w'.cell? ⟨w.heap.size + 1, 0, none⟩ = some (.int .i64 y') ∧ w'.cell? ⟨w.heap.size + 1, 1, none⟩ = some (.int .i64 m') ∧ w'.cell? ⟨w.heap.size + 1, 2, none⟩ = some (.int .i64 d') ∧ w'.cell? ⟨w.heap.size + 1, 3, none⟩ = some (.bool c')) ∧ Kept w2 w')) := Lib.hid (fun w' h => ⟨(HA2.out.below h).2, (HB2.out.below h).2, h⟩)
      have HK0 := Lib.hid (Kept.drew w2)
      generalize hq1 : cmpI y y' = q1 at HX
      generalize hq2 : cmpI m m' = q2 at HX
      generalize hq3 : cmpI d d' = q3 at HX
      generalize hq4 : cmpB c c' = q4 at HX
      have HQ1 := Lib.hid hq1
      have HQ2 := Lib.hid hq2
      have HQ3 := Lib.hid hq3
      have HQ4 := Lib.hid hq4
      clear hq1 hq2 hq3 hq4
      go_wp2_with fail
      go_region_held3 (fun w' => (w'.cell? ⟨w.heap.size, 0, none⟩ = some (.int .i64 y) ∧ w'.cell? ⟨w.heap.size, 1, none⟩ = some (.int .i64 m) ∧ w'.cell? ⟨w.heap.size, 2, none⟩ = some (.int .i64 d) ∧ w'.cell? ⟨w.heap.size, 3, none⟩ = some (.bool c)) ∧ (w'.cell? ⟨w.heap.size + 1, 0, none⟩ = some (.int .i64 y') ∧ w'.cell? ⟨w.heap.size + 1, 1, none⟩ = some (.int .i64 m') ∧ w'.cell? ⟨w.heap.size + 1, 2, none⟩ = some (.int .i64 d') ∧ w'.cell? ⟨w.heap.size + 1, 3, none⟩ = some (.bool c')) ∧ Kept w2 w')
        (first | exact HS.out _ HK0.out | exact HS.out _ (box_drew1 _ _) | exact HS.out _ (by assumption))
        (first
          | (go_at_call 28; (with_reducible refine (compareInt_r y y' q1 _ HQ1.out).mono ?_); rintro e w' ⟨rfl, rfl⟩)
          | (go_at_call 28; (with_reducible refine (compareInt_r m m' q2 _ HQ2.out).mono ?_); rintro e w' ⟨rfl, rfl⟩)
          | (go_at_call 28; (with_reducible refine (compareInt_r d d' q3 _ HQ3.out).mono ?_); rintro e w' ⟨rfl, rfl⟩)
          | (go_at_call 29; (with_reducible refine (compareBools_r c c' q4 _ HQ4.out).mono ?_); rintro e w' ⟨rfl, rfl⟩)
          | (go_at_call 27; (with_reducible refine (orInt _ 4 _ [q1, q2, q3, q4] _ (rdi4 q1 q2 q3 q4 w2) rfl (by omega)).mono ?_); rintro e w' ⟨rfl, rfl⟩))
      have b3 := box_drew1 w2 (.cells #[.int .i64 q1, .int .i64 q2, .int .i64 q3, .int .i64 q4] 3)
      have HO : Hid (orL [q1, q2, q3, q4] = x) := Lib.hid (by rw [← HX.out]; exact or4 q1 q2 q3 q4)
      rw [HO.out]
      go_wp2_with fail
      go_ret2
      exact ⟨rfl, k2.trans (b3.mono k2.size)⟩


set_option maxHeartbeats 2000000 in
theorem sCompare (y m d : Int) (c : Bool) (y' m' d' : Int) (c' : Bool) (ra rb : Bool) (x : Int) (w : World) (ha : okB y m d c = ra) (hb : okB y' m' d' c' = rb) (hx : (if (ra && rb) = true then cmpD y m d c y' m' d' c' else 0) = x) :
    Calls Tryd.prog 12 #[dtV y m d c, dtV y' m' d' c'] w fun e w' => e = .returned (.tuple #[.int .i64 x, .bool (ra && rb)]) ∧ Below w.heap.size w w' := by
  have HVa := Lib.hid ha
  have HVb := Lib.hid hb
  have HX := Lib.hid hx
  have HK := Lib.hid (box2 w (.cells #[.int .i64 y, .int .i64 m, .int .i64 d, .bool c] 25) (.cells #[.int .i64 y', .int .i64 m', .int .i64 d', .bool c'] 25))
  have HA := Lib.hid ((D4.new w y m d c 25).below (box_below (w.alloc (.cells #[.int .i64 y, .int .i64 m, .int .i64 d, .bool c] 25)) (.cells #[.int .i64 y', .int .i64 m', .int .i64 d', .bool c'] 25)))
  have HB : Hid (D4 ((w.alloc (.cells #[.int .i64 y, .int .i64 m, .int .i64 d, .bool c] 25)).alloc (.cells #[.int .i64 y', .int .i64 m', .int .i64 d', .bool c'] 25)) (w.heap.size + 1) y' m' d' c') := Lib.hid (by
    have h := D4.new (w.alloc (.cells #[.int .i64 y, .int .i64 m, .int .i64 d, .bool c] 25)) y' m' d' c' 25
    rwa [show (w.alloc (.cells #[.int .i64 y, .int .i64 m, .int .i64 d, .bool c] 25)).heap.size = w.heap.size + 1 by simp] at h)
  clear ha hb hx
  cases ra with
  | false =>
    go_enter Tryd.func12, Tryd.ntmps12
    go_wp2_with fail
    refine (l3Good y m d c false _ HVa.out).mono ?_
    rintro e w1 ⟨rfl, b1⟩
    go_wp2_with fail
    go_ret2
    exact ⟨by rw [← HX.out]; rfl, HK.out.trans (b1.mono HK.out.size)⟩
  | true =>
    cases rb with
    | false =>
      go_enter Tryd.func12, Tryd.ntmps12
      go_wp2_with fail
      refine (l3Good y m d c true _ HVa.out).mono ?_
      rintro e w1 ⟨rfl, b1⟩
      have k1 := HK.out.trans (b1.mono HK.out.size)
      obtain ⟨hbl, hb0, hb1, hb2, hb3⟩ := HB.out.below b1
      clear b1
      go_wp2_with fail
      refine (l3Good y' m' d' c' false _ HVb.out).mono ?_
      rintro e w2 ⟨rfl, b2⟩
      have k2 := k1.trans (b2.mono k1.size)
      clear hbl hb0 hb1 hb2 hb3 b2 k1
      go_wp2_with fail
      go_ret2
      exact ⟨by rw [← HX.out]; rfl, k2⟩
    | true =>
      go_enter Tryd.func12, Tryd.ntmps12
      go_wp2_with fail
      refine (l3Good y m d c true _ HVa.out).mono ?_
      rintro e w1 ⟨rfl, b1⟩
      have k1 := HK.out.trans (b1.mono HK.out.size)
      have HA1 := Lib.hid (HA.out.below b1)
      have HB1 := Lib.hid (HB.out.below b1)
      obtain ⟨hbl, hb0, hb1, hb2, hb3⟩ := HB1.out
      clear b1
      go_wp2_with fail
      refine (l3Good y' m' d' c' true _ HVb.out).mono ?_
      rintro e w2 ⟨rfl, b2⟩
      have k2 := k1.trans (b2.mono k1.size)
      have HA2 := Lib.hid (HA1.out.below b2)
      have HB2 := Lib.hid (HB1.out.below b2)
      clear hbl hb0 hb1 hb2 hb3 b2 k1 HA1 HB1
      obtain ⟨hbl, hb0, hb1, hb2, hb3⟩ := HB2.out
      obtain ⟨hal, ha0, ha1, ha2, ha3⟩ := HA2.out
      go_wp2_with fail
      refine (l3Compare y m d c y' m' d' c' x _ HVa.out HVb.out HX.out).mono ?_
      rintro e w3 ⟨rfl, b3⟩
      go_wp2_with fail
      go_ret2
      exact ⟨rfl, k2.trans (b3.mono k2.size)⟩

theorem iCompareD (y m d : Int) (c : Bool) (y' m' d' : Int) (c' : Bool) (ra rb : Bool) (x : Int) (w : World) (ha : okB y m d c = ra) (hb : okB y' m' d' c' = rb) (hx : (if (ra && rb) = true then cmpD y m d c y' m' d' c' else 0) = x) :
    Calls Tryd.prog 11 #[dtV y m d c, dtV y' m' d' c'] w fun e w' => e = .returned (.tuple #[.int .i64 x, .bool (ra && rb)]) ∧ Below w.heap.size w w' :=
  iCompare y m d c y' m' d' c' ra rb x w ha hb hx
end Go.Proofs.YtlhkfhgnlopejaaDoor.Dt
