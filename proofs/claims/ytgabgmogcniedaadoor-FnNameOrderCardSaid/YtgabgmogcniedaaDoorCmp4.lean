/-
  Contracts of CompareNames of both.
-/
import Derived.Test.YtgabgmogcniedaaDoorCmp3
import Derived.Test.YtgabgmogcniedaaDoorNmV
namespace Go.Proofs.YtgabgmogcniedaaDoor.Cmp
open Go.RowKit Pl Strs Help Name Stands SplitPl NmPl Word Part NGood Forms CmpPl Nms
set_option linter.unusedSimpArgs false
set_option linter.unusedVariables false

/-- what CompareNames answers -/
def cnV (z : Int) : Bool → Value
  | true => .tuple #[.int .i64 z, .bool true]
  | false => .tuple #[.int .i64 0, .bool false]
theorem cnV_form (z : Int) (b : Bool) : ∃ x y, cnV z b = .tuple #[.int .i64 x, .bool y] := by cases b <;> exact ⟨_, _, rfl⟩
theorem compare_b (A B : Option Addr) (c d n : Nat) (xs ys : List ByteArray) (w : World) (h1 : RdS w A xs) (h2 : RdS w B ys) (hn : xs.length = n) (hm : ys.length = n) (hN : n ≤ 1048576) :
    Calls Tryd.prog 13 #[.slice A n c, .slice B n d] w fun e w' => e = .returned (.int .i64 (cmpL xs ys)) ∧ Below w.heap.size w w' :=
  (compareS A B c d n xs ys w h1 h2 hn hm hN).mono fun _ _ ⟨he, hw⟩ => ⟨he, hw ▸ Below.refl _ _⟩

set_option maxHeartbeats 4000000 in
theorem specCompare (A B : Option Addr) (c d n m : Nat) (xs ys : List ByteArray) (p f s p2 f2 s2 : ByteArray) (w : World) (h1 : Rdn w A n xs) (h2 : Rdn w B m ys) (hl1 : n + lens xs + p.size + f.size + s.size ≤ 1048576) (hl2 : m + lens ys + p2.size + f2.size + s2.size ≤ 1048576) :
    Calls Tryd.prog 7 #[nmV (.slice A n c) p f s, nmV (.slice B m d) p2 f2 s2] w fun e w' => e = .returned (cnV (cmpM xs p f s ys p2 f2 s2) (okN xs p f s && okN ys p2 f2 s2)) ∧ Below w.heap.size w w' := by
  obtain ⟨W0, hW0⟩ : ∃ W0, W0 = (w.alloc (.cells #[.slice A n c, .string p, .string f, .string s] 26)).alloc (.cells #[.slice B m d, .string p2, .string f2, .string s2] 26) := ⟨_, rfl⟩
  have HB : Hid (Below w.heap.size w W0) := Lib.hid (by rw [hW0]; exact ((Below.refl _ w).alloc (Nat.le_refl _) _).alloc (by simp) _)
  have R1 := Lib.hid (h1.below HB.out)
  have R2 := Lib.hid (h2.below HB.out)
  have HCa : Hid (C4 W0 w.heap.size (.slice A n c) p f s) := Lib.hid (by rw [hW0]; exact (C4.new w (.slice A n c) p f s 26).below ((Below.refl _ _).alloc (Nat.le_refl _) _))
  have HCb : Hid (C4 W0 (w.heap.size + 1) (.slice B m d) p2 f2 s2) := Lib.hid (by
    rw [hW0]
    have := C4.new (w.alloc (.cells #[.slice A n c, .string p, .string f, .string s] 26)) (.slice B m d) p2 f2 s2 26
    simpa using this)
  have HX1 : Hid (∀ x ∈ xs, x.size ≤ 1048576) := Lib.hid (fun x hx => by have := mem_lens hx; omega)
  have HX2 : Hid (∀ x ∈ ys, x.size ≤ 1048576) := Lib.hid (fun x hx => by have := mem_lens hx; omega)
  have HW0 := Lib.hid hW0
  clear h1 h2 hW0
  cases ok1 : okN xs p f s with
  | false =>
    have HO1 := Lib.hid ok1
    clear ok1
    go_enter Tryd.func7, Tryd.ntmps7
    go_wp2_with fail
    rw [← HW0.out]
    refine (l2Good_b A c n xs p f s false _ R1.out.1 R1.out.2.1 R1.out.2.2 (by omega) HX1.out (by omega) (by omega) (by omega) HO1.out).mono ?_
    rintro e w1 ⟨rfl, b1⟩
    go_wp2_with fail
    go_ret2
    exact ⟨rfl, HB.out.trans (b1.mono HB.out.size)⟩
  | true =>
    have HO1 := Lib.hid ok1
    cases ok2 : okN ys p2 f2 s2 with
    | false =>
      have HO2 := Lib.hid ok2
      clear ok1 ok2
      go_enter Tryd.func7, Tryd.ntmps7
      go_wp2_with fail
      rw [← HW0.out]
      refine (l2Good_b A c n xs p f s true _ R1.out.1 R1.out.2.1 R1.out.2.2 (by omega) HX1.out (by omega) (by omega) (by omega) HO1.out).mono ?_
      rintro e w1 ⟨rfl, b1⟩
      have Cb1 := Lib.hid (HCb.out.below b1)
      have R21 := Lib.hid (R2.out.below b1)
      obtain ⟨lb, hb0, hb1, hb2, hb3⟩ := Cb1.out
      go_wp2_with fail
      refine (l2Good_b B d m ys p2 f2 s2 false _ R21.out.1 R21.out.2.1 R21.out.2.2 (by omega) HX2.out (by omega) (by omega) (by omega) HO2.out).mono ?_
      rintro e w2 ⟨rfl, b2⟩
      go_wp2_with fail
      go_ret2
      exact ⟨rfl, HB.out.trans ((b1.trans (b2.mono b1.size)).mono HB.out.size)⟩
    | true =>
      have HO2 := Lib.hid ok2
      have hs1 := ok_small ok1
      have hs2 := ok_small ok2
      rw [R1.out.2.2] at hs1
      rw [R2.out.2.2] at hs2
      have HM := Lib.hid (fun w' (hk : Below W0.heap.size W0 w') => l2Compare A B c d n m xs ys p f s p2 f2 s2 w' (R1.out.below hk) (R2.out.below hk) (by omega) (by omega))
      clear ok1 ok2
      generalize cmpM xs p f s ys p2 f2 s2 = r at *
      go_enter Tryd.func7, Tryd.ntmps7
      go_wp2_with fail
      rw [← HW0.out]
      refine (l2Good_b A c n xs p f s true _ R1.out.1 R1.out.2.1 R1.out.2.2 (by omega) HX1.out (by omega) (by omega) (by omega) HO1.out).mono ?_
      rintro e w1 ⟨rfl, b1⟩
      have Cb1 := Lib.hid (HCb.out.below b1)
      have R21 := Lib.hid (R2.out.below b1)
      obtain ⟨lb, hb0, hb1, hb2, hb3⟩ := Cb1.out
      go_wp2_with fail
      refine (l2Good_b B d m ys p2 f2 s2 true _ R21.out.1 R21.out.2.1 R21.out.2.2 (by omega) HX2.out (by omega) (by omega) (by omega) HO2.out).mono ?_
      rintro e w2 ⟨rfl, b2⟩
      have b02 := b1.trans (b2.mono b1.size)
      clear lb hb0 hb1 hb2 hb3
      have Ca2 := Lib.hid (HCa.out.below b02)
      have Cb2 := Lib.hid (HCb.out.below b02)
      obtain ⟨la, ha0, ha1, ha2, ha3⟩ := Ca2.out
      obtain ⟨lb, hb0, hb1, hb2, hb3⟩ := Cb2.out
      go_wp2_with fail
      refine (HM.out _ b02).mono ?_
      rintro e w3 ⟨rfl, b3⟩
      go_wp2_with fail
      go_ret2
      exact ⟨rfl, HB.out.trans ((b02.trans (b3.mono b02.size)).mono HB.out.size)⟩
set_option maxHeartbeats 4000000 in
theorem implCompare (A B : Option Addr) (c d n m : Nat) (xs ys : List ByteArray) (p f s p2 f2 s2 : ByteArray) (w : World) (h1 : Rdn w A n xs) (h2 : Rdn w B m ys) (hl1 : n + lens xs + p.size + f.size + s.size ≤ 1048576) (hl2 : m + lens ys + p2.size + f2.size + s2.size ≤ 1048576) (hc1 : n ≤ c) (hc2 : m ≤ d) :
    Calls Tryd.prog 6 #[nmV (.slice A n c) p f s, nmV (.slice B m d) p2 f2 s2] w fun e w' => e = .returned (cnV (cmpM xs p f s ys p2 f2 s2) (okN xs p f s && okN ys p2 f2 s2)) ∧ Below w.heap.size w w' := by
  obtain ⟨W0, hW0⟩ : ∃ W0, W0 = (w.alloc (.cells #[.slice A n c, .string p, .string f, .string s] 26)).alloc (.cells #[.slice B m d, .string p2, .string f2, .string s2] 26) := ⟨_, rfl⟩
  have HB : Hid (Below w.heap.size w W0) := Lib.hid (by rw [hW0]; exact ((Below.refl _ w).alloc (Nat.le_refl _) _).alloc (by simp) _)
  have R1 := Lib.hid (h1.below HB.out)
  have R2 := Lib.hid (h2.below HB.out)
  have HCa : Hid (C4 W0 w.heap.size (.slice A n c) p f s) := Lib.hid (by rw [hW0]; exact (C4.new w (.slice A n c) p f s 26).below ((Below.refl _ _).alloc (Nat.le_refl _) _))
  have HCb : Hid (C4 W0 (w.heap.size + 1) (.slice B m d) p2 f2 s2) := Lib.hid (by
    rw [hW0]
    have := C4.new (w.alloc (.cells #[.slice A n c, .string p, .string f, .string s] 26)) (.slice B m d) p2 f2 s2 26
    simpa using this)
  have hz0 : W0.heap.size = w.heap.size + 1 + 1 := by rw [hW0]; simp
  have HV := Lib.hid (areValid (some ⟨W0.heap.size, 0, none⟩) 2 2 [⟨A, n, c, xs, p, f, s⟩, ⟨B, m, d, ys, p2, f2, s2⟩] _ (rdns_two (x := ⟨A, n, c, xs, p, f, s⟩) (y := ⟨B, m, d, ys, p2, f2, s2⟩) ⟨R1.out, (by show n ≤ 1048576; omega), (by show p.size ≤ 1048576; omega)⟩ ⟨R2.out, (by show m ≤ 1048576; omega), (by show p2.size ≤ 1048576; omega)⟩ 26) rfl (by omega))
  have e1 : [(⟨A, n, c, xs, p, f, s⟩ : Nm), ⟨B, m, d, ys, p2, f2, s2⟩].all Nm.ok = (okN xs p f s && okN ys p2 f2 s2) := by simp [Nm.ok]
  rw [e1, hz0] at HV
  have HB1 := Lib.hid ((Below.refl _ W0).alloc (Nat.le_refl _) (.cells #[.slice A n c, .string p, .string f, .string s, .slice B m d, .string p2, .string f2, .string s2] 26))
  have HW0 := Lib.hid hW0
  clear h1 h2 hz0 hW0 e1
  cases hok : (okN xs p f s && okN ys p2 f2 s2) with
  | false =>
    rw [hok] at HV
    clear hok
    go_enter Tryd.func6, Tryd.ntmps6
    go_wp2_with fail
    rw [← HW0.out]
    refine HV.out.mono ?_
    rintro e w1 ⟨rfl, b1⟩
    go_wp2_with fail
    go_ret2
    exact ⟨rfl, HB.out.trans ((HB1.out.trans (b1.mono HB1.out.size)).mono HB.out.size)⟩
  | true =>
    rw [hok] at HV
    obtain ⟨ok1, ok2⟩ := Bool.and_eq_true_iff.1 hok
    have hs1 := ok_small ok1
    have hs2 := ok_small ok2
    rw [R1.out.2.2] at hs1
    rw [R2.out.2.2] at hs2
    have CA := Lib.hid (fun w' (hk : Kept W0 w') => compared A c n xs p f s w' (R1.out.below hk) hc1 ok1 (by omega))
    have CB := Lib.hid (fun w' (hk : Kept W0 w') => compared B d m ys p2 f2 s2 w' (R2.out.below hk) hc2 ok2 (by omega))
    have HE := Lib.hid (cmpM_eq xs p f s ys p2 f2 s2)
    have HL1 : Hid ((cpL xs p f s).length = 4) := Lib.hid rfl
    have HL2 : Hid ((cpL ys p2 f2 s2).length = 4) := Lib.hid rfl
    clear hok ok1 ok2 hs1 hs2
    generalize cmpM xs p f s ys p2 f2 s2 = r at *
    generalize cpL xs p f s = X at *
    generalize cpL ys p2 f2 s2 = Y at *
    go_enter Tryd.func6, Tryd.ntmps6
    go_wp2_with fail
    rw [← HW0.out]
    refine HV.out.mono ?_
    rintro e w1 ⟨rfl, b1⟩
    have b01 : Kept W0 w1 := HB1.out.trans (b1.mono HB1.out.size)
    have HS : Hid (∀ w', Kept W0 w' → ((w'.cell? ⟨w.heap.size, 0, none⟩ = some (.slice A n c) ∧ w'.cell? ⟨w.heap.size, 1, none⟩ = some (.string p) ∧ w'.cell? ⟨w.heap.size, 2, none⟩ = some (.string f) ∧ w'.cell? ⟨w.heap.size, 3, none⟩ = some (.string s)) ∧ (w'.cell? ⟨(w.heap.size + 1), 0, none⟩ = some (.slice B m d) ∧ w'.cell? ⟨(w.heap.size + 1), 1, none⟩ = some (.string p2) ∧ w'.cell? ⟨(w.heap.size + 1), 2, none⟩ = some (.string f2) ∧ w'.cell? ⟨(w.heap.size + 1), 3, none⟩ = some (.string s2)) ∧ Kept W0 w')) := Lib.hid (fun w' h => ⟨(HCa.out.below h).2, (HCb.out.below h).2, h⟩)
    have HK0 : Hid (Kept W0 w1.drew) := Lib.hid (Kept.next b01 (Kept.drew w1))
    clear b1
    go_wp2_with fail
    go_region_held3 (fun w' => ((w'.cell? ⟨w.heap.size, 0, none⟩ = some (.slice A n c) ∧ w'.cell? ⟨w.heap.size, 1, none⟩ = some (.string p) ∧ w'.cell? ⟨w.heap.size, 2, none⟩ = some (.string f) ∧ w'.cell? ⟨w.heap.size, 3, none⟩ = some (.string s)) ∧ (w'.cell? ⟨(w.heap.size + 1), 0, none⟩ = some (.slice B m d) ∧ w'.cell? ⟨(w.heap.size + 1), 1, none⟩ = some (.string p2) ∧ w'.cell? ⟨(w.heap.size + 1), 2, none⟩ = some (.string f2) ∧ w'.cell? ⟨(w.heap.size + 1), 3, none⟩ = some (.string s2)) ∧ Kept W0 w'))
      (first | exact HS.out _ HK0.out | exact HS.out _ (by assumption))
      (first
        | (go_at_call 14; with_reducible refine (CB.out _ hk2).mono ?_; rintro e w3 ⟨B', rfl, R3, b3⟩; have hk3 : Kept W0 w3 := Kept.next hk2 b3; have R23 := R2'.below b3)
        | (go_at_call 14; with_reducible refine (CA.out _ (by first | exact HK0.out | assumption)).mono ?_; rintro e w2 ⟨A', rfl, R2', b2⟩; have hk2 : Kept W0 w2 := Kept.next (by first | exact HK0.out | assumption) b2)
        | (go_at_call 13; refine (compare_b A' B' 4 4 4 X Y _ R23.1 R3.1 HL1.out HL2.out (by omega)).mono ?_; rintro e w4 ⟨rfl, b4⟩; rw [HE.out]; have hk4 : Kept W0 w4 := Kept.next hk3 b4))
    go_wp2_with fail
    go_ret2
    exact ⟨rfl, HB.out.trans (Below.mono hk4 HB.out.size)⟩

end Go.Proofs.YtgabgmogcniedaaDoor.Cmp
