/-
  Contracts of chapter 3: MergeDates of both.
-/
import Derived.Test.YtfnkaoobnhjlbaaDt4
namespace Go.Proofs.Ytfnkaoobnhjlbaa.Dt
open Go.RowKit DtPl
set_option linter.unusedSimpArgs false
set_option linter.unusedVariables false

def zeroV : Value := .tuple #[dtV 0 0 0 false, .bool false]
/-- what MergeDates answers -/
def mgV (y m d : Int) (c : Bool) (y' m' d' : Int) (c' : Bool) : Value :=
  if okB y m d c = true ∧ okB y' m' d' c' = true then
    (if rfB y m d c y' m' d' c' = true then .tuple #[dtV y m d c, .bool true] else if rfB y' m' d' c' y m d c = true then .tuple #[dtV y' m' d' c', .bool true] else zeroV) else zeroV
theorem mg_no {y m d : Int} {c : Bool} {y' m' d' : Int} {c' : Bool} (h : okB y m d c = false ∨ okB y' m' d' c' = false) : mgV y m d c y' m' d' c' = zeroV := by
  unfold mgV
  rw [if_neg]
  rintro ⟨h1, h2⟩
  rcases h with h | h <;> simp_all
theorem mg_form (y m d : Int) (c : Bool) (y' m' d' : Int) (c' : Bool) : ∃ a b e f r, mgV y m d c y' m' d' c' = .tuple #[dtV a b e f, .bool r] := by
  unfold mgV
  split
  · split
    · exact ⟨_, _, _, _, _, rfl⟩
    · split
      · exact ⟨_, _, _, _, _, rfl⟩
      · exact ⟨_, _, _, _, _, rfl⟩
  · exact ⟨_, _, _, _, _, rfl⟩
theorem box3 (w : World) (o o' o2 : Obj) : Below w.heap.size w (((w.alloc o).alloc o').alloc o2) := (box2 w o o').alloc (by simp; omega) o2
/-- block b holds a date and may be written -/
def F4 (W : World) (b : Nat) : Prop := W.frozen? ⟨b, 0, none⟩ = false ∧ W.frozen? ⟨b, 1, none⟩ = false ∧ W.frozen? ⟨b, 2, none⟩ = false ∧ W.frozen? ⟨b, 3, none⟩ = false
theorem F4.below {W w' : World} {b : Nat} (hlt : b < W.heap.size) (h : F4 W b) (hb : Below W.heap.size W w') : F4 w' b :=
  ⟨(hb.frozen (p := ⟨b, 0, none⟩) hlt).trans h.1, (hb.frozen (p := ⟨b, 1, none⟩) hlt).trans h.2.1, (hb.frozen (p := ⟨b, 2, none⟩) hlt).trans h.2.2.1, (hb.frozen (p := ⟨b, 3, none⟩) hlt).trans h.2.2.2⟩
/-- the boxes of the two arguments and of the result -/
structure Three (W : World) (n : Nat) (y m d : Int) (c : Bool) (y' m' d' : Int) (c' : Bool) : Prop where
  a : D4 W n y m d c
  b : D4 W (n + 1) y' m' d' c'
  z : D4 W (n + 1 + 1) 0 0 0 false ∧ F4 W (n + 1 + 1)
theorem Three.below {W w' : World} {n : Nat} {y m d : Int} {c : Bool} {y' m' d' : Int} {c' : Bool} (h : Three W n y m d c y' m' d' c') (hb : Below W.heap.size W w') : Three w' n y m d c y' m' d' c' :=
  ⟨h.a.below hb, h.b.below hb, h.z.1.below hb, F4.below h.z.1.1 h.z.2 hb⟩
theorem three (w : World) (y m d : Int) (c : Bool) (y' m' d' : Int) (c' : Bool) : Three (((w.alloc (.cells #[.int .i64 y, .int .i64 m, .int .i64 d, .bool c] 25)).alloc (.cells #[.int .i64 y', .int .i64 m', .int .i64 d', .bool c'] 25)).alloc (.cells #[.int .i64 0, .int .i64 0, .int .i64 0, .bool false] 25)) w.heap.size y m d c y' m' d' c' := by
  have h1 : (w.alloc (.cells #[.int .i64 y, .int .i64 m, .int .i64 d, .bool c] 25)).heap.size = w.heap.size + 1 := by simp
  have h2 : ((w.alloc (.cells #[.int .i64 y, .int .i64 m, .int .i64 d, .bool c] 25)).alloc (.cells #[.int .i64 y', .int .i64 m', .int .i64 d', .bool c'] 25)).heap.size = w.heap.size + 1 + 1 := by simp
  have a := (D4.new w y m d c 25).below (box_below _ (.cells #[.int .i64 y', .int .i64 m', .int .i64 d', .bool c'] 25))
  have b := D4.new (w.alloc (.cells #[.int .i64 y, .int .i64 m, .int .i64 d, .bool c] 25)) y' m' d' c' 25
  rw [h1] at b
  have z := D4.new ((w.alloc (.cells #[.int .i64 y, .int .i64 m, .int .i64 d, .bool c] 25)).alloc (.cells #[.int .i64 y', .int .i64 m', .int .i64 d', .bool c'] 25)) 0 0 0 false 25
  rw [h2] at z
  refine ⟨a.below (box_below _ _), b.below (box_below _ _), z, ?_⟩
  have e : ((w.alloc (.cells #[.int .i64 y, .int .i64 m, .int .i64 d, .bool c] 25)).alloc (.cells #[.int .i64 y', .int .i64 m', .int .i64 d', .bool c'] 25)).heap.size = w.heap.size + 1 + 1 := h2
  generalize (w.alloc (.cells #[.int .i64 y, .int .i64 m, .int .i64 d, .bool c] 25)).alloc (.cells #[.int .i64 y', .int .i64 m', .int .i64 d', .bool c'] 25) = W at *
  rw [← e]
  exact ⟨by simp, by simp, by simp, by simp⟩
/-- four stores into a new block -/
theorem set4 {W w1 : World} {b : Nat} {v0 v1 v2 v3 : Value} (h : Below W.heap.size W w1) (hb : W.heap.size ≤ b) : Below W.heap.size W ((((w1.setCell ⟨b, 0, none⟩ v0).setCell ⟨b, 1, none⟩ v1).setCell ⟨b, 2, none⟩ v2).setCell ⟨b, 3, none⟩ v3) :=
  (((h.setCell (p := ⟨b, 0, none⟩) hb _).setCell (p := ⟨b, 1, none⟩) hb _).setCell (p := ⟨b, 2, none⟩) hb _).setCell (p := ⟨b, 3, none⟩) hb _

set_option maxHeartbeats 4000000 in
theorem sMerge (y m d : Int) (c : Bool) (y' m' d' : Int) (c' : Bool) (v : Value) (w : World) (hv : mgV y m d c y' m' d' c' = v) :
    Calls Try.prog 22 #[dtV y m d c, dtV y' m' d' c'] w fun e w' => e = .returned v ∧ Below w.heap.size w w' := by
  have HV := Lib.hid hv
  have HT := Lib.hid (three w y m d c y' m' d' c')
  have HK := Lib.hid (box3 w (.cells #[.int .i64 y, .int .i64 m, .int .i64 d, .bool c] 25) (.cells #[.int .i64 y', .int .i64 m', .int .i64 d', .bool c'] 25) (.cells #[.int .i64 0, .int .i64 0, .int .i64 0, .bool false] 25))
  clear hv
  generalize hra : okB y m d c = ra
  generalize hrb : okB y' m' d' c' = rb
  have HA := Lib.hid hra
  have HB := Lib.hid hrb
  clear hra hrb
  cases ra with
  | false =>
    have HE : Hid (v = zeroV) := Lib.hid (by rw [← HV.out]; exact mg_no (.inl HA.out))
    go_enter Try.func22, Try.ntmps22
    go_wp2_with fail
    refine (l3Good y m d c false _ HA.out).mono ?_
    rintro e w1 ⟨rfl, b1⟩
    have k1 := HK.out.trans (b1.mono HK.out.size)
    obtain ⟨⟨pz, hz0, hz1, hz2, hz3⟩, hf0, hf1, hf2, hf3⟩ := (HT.out.below b1).z
    clear b1
    go_wp2_with fail
    exact bodyPost_ret (v := .tuple #[dtV 0 0 0 false, .bool false]) (by simp [results, Try.results22, go_sem, *]) rfl ⟨by rw [HE.out]; rfl, set4 k1 (by omega)⟩
  | true =>
    cases rb with
    | false =>
      have HE : Hid (v = zeroV) := Lib.hid (by rw [← HV.out]; exact mg_no (.inr HB.out))
      go_enter Try.func22, Try.ntmps22
      go_wp2_with fail
      refine (l3Good y m d c true _ HA.out).mono ?_
      rintro e w1 ⟨rfl, b1⟩
      have k1 := HK.out.trans (b1.mono HK.out.size)
      have HT1 := Lib.hid (HT.out.below b1)
      obtain ⟨hbl, hb0, hb1, hb2, hb3⟩ := HT1.out.b
      clear b1
      go_wp2_with fail
      refine (l3Good y' m' d' c' false _ HB.out).mono ?_
      rintro e w2 ⟨rfl, b2⟩
      have k2 := k1.trans (b2.mono k1.size)
      obtain ⟨⟨pz, hz0, hz1, hz2, hz3⟩, hf0, hf1, hf2, hf3⟩ := (HT1.out.below b2).z
      clear b2 hbl hb0 hb1 hb2 hb3 k1
      go_wp2_with fail
      exact bodyPost_ret (v := .tuple #[dtV 0 0 0 false, .bool false]) (by simp [results, Try.results22, go_sem, *]) rfl ⟨by rw [HE.out]; rfl, set4 k2 (by omega)⟩
    | true =>
      go_enter Try.func22, Try.ntmps22
      go_wp2_with fail
      refine (l3Good y m d c true _ HA.out).mono ?_
      rintro e w1 ⟨rfl, b1⟩
      have k1 := HK.out.trans (b1.mono HK.out.size)
      have HT1 := Lib.hid (HT.out.below b1)
      obtain ⟨hbl, hb0, hb1, hb2, hb3⟩ := HT1.out.b
      clear b1
      go_wp2_with fail
      refine (l3Good y' m' d' c' true _ HB.out).mono ?_
      rintro e w2 ⟨rfl, b2⟩
      have k2 := k1.trans (b2.mono k1.size)
      have HT2 := Lib.hid (HT1.out.below b2)
      clear b2 hbl hb0 hb1 hb2 hb3 k1 HT1
      obtain ⟨hbl, hb0, hb1, hb2, hb3⟩ := HT2.out.b
      obtain ⟨hal, ha0, ha1, ha2, ha3⟩ := HT2.out.a
      generalize hr1 : rfB y m d c y' m' d' c' = r1
      have HR1 := Lib.hid hr1
      clear hr1
      go_wp2_with fail
      refine (l3Refines y m d c y' m' d' c' r1 _ HR1.out).mono ?_
      rintro e w3 ⟨rfl, b3⟩
      have k3 := k2.trans (b3.mono k2.size)
      have HT3 := Lib.hid (HT2.out.below b3)
      clear b3 hbl hb0 hb1 hb2 hb3 hal ha0 ha1 ha2 ha3 k2 HT2
      cases r1 with
      | true =>
        have HE : Hid (v = .tuple #[dtV y m d c, .bool true]) := Lib.hid (by rw [← HV.out]; unfold mgV; rw [if_pos ⟨HA.out, HB.out⟩, if_pos HR1.out])
        obtain ⟨⟨pz, hz0, hz1, hz2, hz3⟩, hf0, hf1, hf2, hf3⟩ := HT3.out.z
        obtain ⟨hal, ha0, ha1, ha2, ha3⟩ := HT3.out.a
        go_wp2_with fail
        exact bodyPost_ret (v := .tuple #[dtV y m d c, .bool true]) (by simp [results, Try.results22, go_sem, *]) rfl ⟨by rw [HE.out], set4 k3 (by omega)⟩
      | false =>
        obtain ⟨hbl, hb0, hb1, hb2, hb3⟩ := HT3.out.b
        obtain ⟨hal, ha0, ha1, ha2, ha3⟩ := HT3.out.a
        generalize hr2 : rfB y' m' d' c' y m d c = r2
        have HR2 := Lib.hid hr2
        clear hr2
        go_wp2_with fail
        refine (l3Refines y' m' d' c' y m d c r2 _ HR2.out).mono ?_
        rintro e w4 ⟨rfl, b4⟩
        have k4 := k3.trans (b4.mono k3.size)
        have HT4 := Lib.hid (HT3.out.below b4)
        clear b4 hbl hb0 hb1 hb2 hb3 hal ha0 ha1 ha2 ha3 k3 HT3
        obtain ⟨⟨pz, hz0, hz1, hz2, hz3⟩, hf0, hf1, hf2, hf3⟩ := HT4.out.z
        obtain ⟨hbl, hb0, hb1, hb2, hb3⟩ := HT4.out.b
        cases r2 with
        | true =>
          have HE : Hid (v = .tuple #[dtV y' m' d' c', .bool true]) := Lib.hid (by rw [← HV.out]; unfold mgV; rw [if_pos ⟨HA.out, HB.out⟩, if_neg (by rw [HR1.out]; decide), if_pos HR2.out])
          go_wp2_with fail
          exact bodyPost_ret (v := .tuple #[dtV y' m' d' c', .bool true]) (by simp [results, Try.results22, go_sem, *]) rfl ⟨by rw [HE.out], set4 k4 (by omega)⟩
        | false =>
          have HE : Hid (v = zeroV) := Lib.hid (by rw [← HV.out]; unfold mgV; rw [if_pos ⟨HA.out, HB.out⟩, if_neg (by rw [HR1.out]; decide), if_neg (by rw [HR2.out]; decide)])
          go_wp2_with fail
          exact bodyPost_ret (v := .tuple #[dtV 0 0 0 false, .bool false]) (by simp [results, Try.results22, go_sem, *]) rfl ⟨by rw [HE.out]; rfl, set4 k4 (by omega)⟩


set_option maxHeartbeats 4000000 in
theorem iMerge (y m d : Int) (c : Bool) (y' m' d' : Int) (c' : Bool) (v : Value) (w : World) (hv : mgV y m d c y' m' d' c' = v) :
    Calls Try.prog 23 #[dtV y m d c, dtV y' m' d' c'] w fun e w' => e = .returned v ∧ Below w.heap.size w w' := by
  have HV := Lib.hid hv
  have HT := Lib.hid (three w y m d c y' m' d' c')
  have HK := Lib.hid (box3 w (.cells #[.int .i64 y, .int .i64 m, .int .i64 d, .bool c] 25) (.cells #[.int .i64 y', .int .i64 m', .int .i64 d', .bool c'] 25) (.cells #[.int .i64 0, .int .i64 0, .int .i64 0, .bool false] 25))
  clear hv
  generalize hra : okB y m d c = ra
  generalize hrb : okB y' m' d' c' = rb
  have HA := Lib.hid hra
  have HB := Lib.hid hrb
  clear hra hrb
  cases ra with
  | false =>
    have HE : Hid (v = zeroV) := Lib.hid (by rw [← HV.out]; exact mg_no (.inl HA.out))
    go_enter Try.func23, Try.ntmps23
    go_wp2_with fail
    refine (iValid y m d c false _ HA.out).mono ?_
    rintro e w1 ⟨rfl, b1⟩
    have k1 := HK.out.trans (b1.mono HK.out.size)
    obtain ⟨⟨pz, hz0, hz1, hz2, hz3⟩, hf0, hf1, hf2, hf3⟩ := (HT.out.below b1).z
    clear b1
    go_wp2_with fail
    exact bodyPost_ret (v := .tuple #[dtV 0 0 0 false, .bool false]) (by simp [results, Try.results23, go_sem, *]) rfl ⟨by rw [HE.out]; rfl, set4 k1 (by omega)⟩
  | true =>
    cases rb with
    | false =>
      have HE : Hid (v = zeroV) := Lib.hid (by rw [← HV.out]; exact mg_no (.inr HB.out))
      go_enter Try.func23, Try.ntmps23
      go_wp2_with fail
      refine (iValid y m d c true _ HA.out).mono ?_
      rintro e w1 ⟨rfl, b1⟩
      have k1 := HK.out.trans (b1.mono HK.out.size)
      have HT1 := Lib.hid (HT.out.below b1)
      obtain ⟨hbl, hb0, hb1, hb2, hb3⟩ := HT1.out.b
      clear b1
      go_wp2_with fail
      refine (iValid y' m' d' c' false _ HB.out).mono ?_
      rintro e w2 ⟨rfl, b2⟩
      have k2 := k1.trans (b2.mono k1.size)
      obtain ⟨⟨pz, hz0, hz1, hz2, hz3⟩, hf0, hf1, hf2, hf3⟩ := (HT1.out.below b2).z
      clear b2 hbl hb0 hb1 hb2 hb3 k1
      go_wp2_with fail
      exact bodyPost_ret (v := .tuple #[dtV 0 0 0 false, .bool false]) (by simp [results, Try.results23, go_sem, *]) rfl ⟨by rw [HE.out]; rfl, set4 k2 (by omega)⟩
    | true =>
      go_enter Try.func23, Try.ntmps23
      go_wp2_with fail
      refine (iValid y m d c true _ HA.out).mono ?_
      rintro e w1 ⟨rfl, b1⟩
      have k1 := HK.out.trans (b1.mono HK.out.size)
      have HT1 := Lib.hid (HT.out.below b1)
      obtain ⟨hbl, hb0, hb1, hb2, hb3⟩ := HT1.out.b
      clear b1
      go_wp2_with fail
      refine (iValid y' m' d' c' true _ HB.out).mono ?_
      rintro e w2 ⟨rfl, b2⟩
      have k2 := k1.trans (b2.mono k1.size)
      have HT2 := Lib.hid (HT1.out.below b2)
      clear b2 hbl hb0 hb1 hb2 hb3 k1 HT1
      obtain ⟨hbl, hb0, hb1, hb2, hb3⟩ := HT2.out.b
      obtain ⟨hal, ha0, ha1, ha2, ha3⟩ := HT2.out.a
      generalize hr1 : rfB y m d c y' m' d' c' = r1
      have HR1 := Lib.hid hr1
      clear hr1
      go_wp2_with fail
      refine (refines y m d c y' m' d' c' r1 _ HB.out HR1.out).mono ?_
      rintro e w3 ⟨rfl, b3⟩
      have k3 := k2.trans (b3.mono k2.size)
      have HT3 := Lib.hid (HT2.out.below b3)
      clear b3 hbl hb0 hb1 hb2 hb3 hal ha0 ha1 ha2 ha3 k2 HT2
      cases r1 with
      | true =>
        have HE : Hid (v = .tuple #[dtV y m d c, .bool true]) := Lib.hid (by rw [← HV.out]; unfold mgV; rw [if_pos ⟨HA.out, HB.out⟩, if_pos HR1.out])
        obtain ⟨⟨pz, hz0, hz1, hz2, hz3⟩, hf0, hf1, hf2, hf3⟩ := HT3.out.z
        obtain ⟨hal, ha0, ha1, ha2, ha3⟩ := HT3.out.a
        go_wp2_with fail
        exact bodyPost_ret (v := .tuple #[dtV y m d c, .bool true]) (by simp [results, Try.results23, go_sem, *]) rfl ⟨by rw [HE.out], set4 k3 (by omega)⟩
      | false =>
        obtain ⟨hbl, hb0, hb1, hb2, hb3⟩ := HT3.out.b
        obtain ⟨hal, ha0, ha1, ha2, ha3⟩ := HT3.out.a
        generalize hr2 : rfB y' m' d' c' y m d c = r2
        have HR2 := Lib.hid hr2
        clear hr2
        go_wp2_with fail
        refine (refines y' m' d' c' y m d c r2 _ HA.out HR2.out).mono ?_
        rintro e w4 ⟨rfl, b4⟩
        have k4 := k3.trans (b4.mono k3.size)
        have HT4 := Lib.hid (HT3.out.below b4)
        clear b4 hbl hb0 hb1 hb2 hb3 hal ha0 ha1 ha2 ha3 k3 HT3
        obtain ⟨⟨pz, hz0, hz1, hz2, hz3⟩, hf0, hf1, hf2, hf3⟩ := HT4.out.z
        obtain ⟨hbl, hb0, hb1, hb2, hb3⟩ := HT4.out.b
        cases r2 with
        | true =>
          have HE : Hid (v = .tuple #[dtV y' m' d' c', .bool true]) := Lib.hid (by rw [← HV.out]; unfold mgV; rw [if_pos ⟨HA.out, HB.out⟩, if_neg (by rw [HR1.out]; decide), if_pos HR2.out])
          go_wp2_with fail
          exact bodyPost_ret (v := .tuple #[dtV y' m' d' c', .bool true]) (by simp [results, Try.results23, go_sem, *]) rfl ⟨by rw [HE.out], set4 k4 (by omega)⟩
        | false =>
          have HE : Hid (v = zeroV) := Lib.hid (by rw [← HV.out]; unfold mgV; rw [if_pos ⟨HA.out, HB.out⟩, if_neg (by rw [HR1.out]; decide), if_neg (by rw [HR2.out]; decide)])
          go_wp2_with fail
          exact bodyPost_ret (v := .tuple #[dtV 0 0 0 false, .bool false]) (by simp [results, Try.results23, go_sem, *]) rfl ⟨by rw [HE.out]; rfl, set4 k4 (by omega)⟩

end Go.Proofs.Ytfnkaoobnhjlbaa.Dt
