/-
  Contracts of impl.areValidNames, impl.MayBeSame and spec.MayBeSame.
-/
import Derived.Test.YtgabgmogcniedaaDoorMay2
import Derived.Test.YtgabgmogcniedaaDoorNmV
namespace Go.Proofs.YtgabgmogcniedaaDoor.May
open Go.RowKit Pl Strs Help Name Stands SplitPl NmPl Word Part NGood Nms

/-- what MayBeSame answers -/
def mbV (r : Bool) : Bool → Value
  | true => .tuple #[.bool r, .bool true]
  | false => .tuple #[.bool false, .bool false]
theorem mbV_form (r b : Bool) : ∃ x y, mbV r b = .tuple #[.bool x, .bool y] := by cases b <;> exact ⟨_, _, rfl⟩
set_option maxHeartbeats 4000000 in
theorem implMayBe (A B : Option Addr) (c d n m : Nat) (xs ys : List ByteArray) (p f s p2 f2 s2 : ByteArray) (w : World) (h1 : Rdn w A n xs) (h2 : Rdn w B m ys) (hn : n ≤ 1048576) (hm : m ≤ 1048576) (hp : p.size ≤ 1048576) (hp2 : p2.size ≤ 1048576) :
    Calls Tryd.prog 8 #[nmV (.slice A n c) p f s, nmV (.slice B m d) p2 f2 s2] w fun e w' => e = .returned (mbV (mayB xs p f s ys p2 f2 s2) (okN xs p f s && okN ys p2 f2 s2)) ∧ Below w.heap.size w w' := by
  obtain ⟨W0, hW0⟩ : ∃ W0, W0 = (w.alloc (.cells #[.slice A n c, .string p, .string f, .string s] 26)).alloc (.cells #[.slice B m d, .string p2, .string f2, .string s2] 26) := ⟨_, rfl⟩
  have HB : Hid (Below w.heap.size w W0) := Lib.hid (by rw [hW0]; exact ((Below.refl _ w).alloc (Nat.le_refl _) _).alloc (by simp) _)
  have R1 := Lib.hid (h1.below HB.out)
  have R2 := Lib.hid (h2.below HB.out)
  have HCa : Hid (C4 W0 w.heap.size (.slice A n c) p f s) := Lib.hid (by rw [hW0]; exact (C4.new w (.slice A n c) p f s 26).below ((Below.refl _ _).alloc (Nat.le_refl _) _))
  have HCb : Hid (C4 W0 (w.heap.size + 1) (.slice B m d) p2 f2 s2) := Lib.hid (by
    rw [hW0]
    have := C4.new (w.alloc (.cells #[.slice A n c, .string p, .string f, .string s] 26)) (.slice B m d) p2 f2 s2 26
    simpa using this)
  have hz0 : W0.heap.size = w.heap.size + 1 + 1 := by rw [hW0]; simp
  have HV := Lib.hid (areValid (some ⟨W0.heap.size, 0, none⟩) 2 2 [⟨A, n, c, xs, p, f, s⟩, ⟨B, m, d, ys, p2, f2, s2⟩] _ (rdns_two (x := ⟨A, n, c, xs, p, f, s⟩) (y := ⟨B, m, d, ys, p2, f2, s2⟩) ⟨R1.out, hn, hp⟩ ⟨R2.out, hm, hp2⟩ 26) rfl (by omega))
  have e1 : [(⟨A, n, c, xs, p, f, s⟩ : Nm), ⟨B, m, d, ys, p2, f2, s2⟩].all Nm.ok = (okN xs p f s && okN ys p2 f2 s2) := by simp [Nm.ok]
  rw [e1, hz0] at HV
  have HB1 := Lib.hid ((Below.refl _ W0).alloc (Nat.le_refl _) (.cells #[.slice A n c, .string p, .string f, .string s, .slice B m d, .string p2, .string f2, .string s2] 26))
  have HW0 := Lib.hid hW0
  clear h1 h2 hz0 hW0 e1
  cases hok : (okN xs p f s && okN ys p2 f2 s2) with
  | false =>
    rw [hok] at HV
    clear hok
    go_enter Tryd.func8, Tryd.ntmps8
    go_wp2_with fail
    rw [← HW0.out]
    refine HV.out.mono ?_
    rintro e w1 ⟨rfl, b1⟩
    go_wp2_with fail
    go_ret2
    exact ⟨rfl, HB.out.trans ((HB1.out.trans (b1.mono HB1.out.size)).mono HB.out.size)⟩
  | true =>
    rw [hok] at HV
    obtain ⟨ok1, ok2⟩ := Bool.and_eq_true_iff.1 hok
    have HM := Lib.hid (fun w' (hk : Below W0.heap.size W0 w') => implMay A B c d n m xs ys p f s p2 f2 s2 w' (R1.out.below hk) (R2.out.below hk) hn hm (okN_ne ok1) (okN_ne ok2))
    clear hok ok1 ok2
    generalize mayB xs p f s ys p2 f2 s2 = r at *
    go_enter Tryd.func8, Tryd.ntmps8
    go_wp2_with fail
    rw [← HW0.out]
    refine HV.out.mono ?_
    rintro e w1 ⟨rfl, b1⟩
    have b01 := HB1.out.trans (b1.mono HB1.out.size)
    have Ca1 := Lib.hid (HCa.out.below b01)
    have Cb1 := Lib.hid (HCb.out.below b01)
    obtain ⟨la, ha0, ha1, ha2, ha3⟩ := Ca1.out
    obtain ⟨lb, hb0, hb1, hb2, hb3⟩ := Cb1.out
    go_wp2_with fail
    refine (HM.out _ b01).mono ?_
    rintro e w2 ⟨rfl, b2⟩
    go_wp2_with fail
    go_ret2
    exact ⟨rfl, HB.out.trans ((b01.trans (b2.mono b01.size)).mono HB.out.size)⟩

set_option maxHeartbeats 4000000 in
theorem specMayBe (A B : Option Addr) (c d n m : Nat) (xs ys : List ByteArray) (p f s p2 f2 s2 : ByteArray) (w : World) (h1 : Rdn w A n xs) (h2 : Rdn w B m ys) (hl1 : n + lens xs + p.size + f.size + s.size ≤ 1048576) (hl2 : m + lens ys + p2.size + f2.size + s2.size ≤ 1048576) :
    Calls Tryd.prog 9 #[nmV (.slice A n c) p f s, nmV (.slice B m d) p2 f2 s2] w fun e w' => e = .returned (mbV (mayB xs p f s ys p2 f2 s2) (okN xs p f s && okN ys p2 f2 s2)) ∧ Below w.heap.size w w' := by
  obtain ⟨W0, hW0⟩ : ∃ W0, W0 = (w.alloc (.cells #[.slice A n c, .string p, .string f, .string s] 26)).alloc (.cells #[.slice B m d, .string p2, .string f2, .string s2] 26) := ⟨_, rfl⟩
  have HB : Hid (Below w.heap.size w W0) := Lib.hid (by rw [hW0]; exact ((Below.refl _ w).alloc (Nat.le_refl _) _).alloc (by simp) _)
  have R1 := Lib.hid (h1.below HB.out)
  have R2 := Lib.hid (h2.below HB.out)
  have HCa : Hid (C4 W0 w.heap.size (.slice A n c) p f s) := Lib.hid (by rw [hW0]; exact (C4.new w (.slice A n c) p f s 26).below ((Below.refl _ _).alloc (Nat.le_refl _) _))
  have HCb : Hid (C4 W0 (w.heap.size + 1) (.slice B m d) p2 f2 s2) := Lib.hid (by
    rw [hW0]
    have := C4.new (w.alloc (.cells #[.slice A n c, .string p, .string f, .string s] 26)) (.slice B m d) p2 f2 s2 26
    simpa using this)
  have HX1 : Hid (∀ x ∈ xs, x.size ≤ 1048576) := Lib.hid (fun x hx => by have := mem_lens hx; omega)
  have HX2 : Hid (∀ x ∈ ys, x.size ≤ 1048576) := Lib.hid (fun x hx => by have := mem_lens hx; omega)
  have HW0 := Lib.hid hW0
  clear h1 h2 hW0
  cases ok1 : okN xs p f s with
  | false =>
    have HO1 := Lib.hid ok1
    clear ok1
    go_enter Tryd.func9, Tryd.ntmps9
    go_wp2_with fail
    rw [← HW0.out]
    refine (l2Good_b A c n xs p f s false _ R1.out.1 R1.out.2.1 R1.out.2.2 (by omega) HX1.out (by omega) (by omega) (by omega) HO1.out).mono ?_
    rintro e w1 ⟨rfl, b1⟩
    go_wp2_with fail
    go_ret2
    exact ⟨rfl, HB.out.trans (b1.mono HB.out.size)⟩
  | true =>
    have HO1 := Lib.hid ok1
    cases ok2 : okN ys p2 f2 s2 with
    | false =>
      have HO2 := Lib.hid ok2
      clear ok1 ok2
      go_enter Tryd.func9, Tryd.ntmps9
      go_wp2_with fail
      rw [← HW0.out]
      refine (l2Good_b A c n xs p f s true _ R1.out.1 R1.out.2.1 R1.out.2.2 (by omega) HX1.out (by omega) (by omega) (by omega) HO1.out).mono ?_
      rintro e w1 ⟨rfl, b1⟩
      have Cb1 := Lib.hid (HCb.out.below b1)
      have R21 := Lib.hid (R2.out.below b1)
      obtain ⟨lb, hb0, hb1, hb2, hb3⟩ := Cb1.out
      go_wp2_with fail
      refine (l2Good_b B d m ys p2 f2 s2 false _ R21.out.1 R21.out.2.1 R21.out.2.2 (by omega) HX2.out (by omega) (by omega) (by omega) HO2.out).mono ?_
      rintro e w2 ⟨rfl, b2⟩
      go_wp2_with fail
      go_ret2
      exact ⟨rfl, HB.out.trans ((b1.trans (b2.mono b1.size)).mono HB.out.size)⟩
    | true =>
      have HO2 := Lib.hid ok2
      have HM := Lib.hid (fun w' (hk : Below W0.heap.size W0 w') => l2May A B c d n m xs ys p f s p2 f2 s2 w' (R1.out.below hk) (R2.out.below hk) (by omega) (by omega) (okN_ne ok1) (okN_ne ok2))
      clear ok1 ok2
      generalize mayB xs p f s ys p2 f2 s2 = r at *
      go_enter Tryd.func9, Tryd.ntmps9
      go_wp2_with fail
      rw [← HW0.out]
      refine (l2Good_b A c n xs p f s true _ R1.out.1 R1.out.2.1 R1.out.2.2 (by omega) HX1.out (by omega) (by omega) (by omega) HO1.out).mono ?_
      rintro e w1 ⟨rfl, b1⟩
      have Cb1 := Lib.hid (HCb.out.below b1)
      have R21 := Lib.hid (R2.out.below b1)
      obtain ⟨lb, hb0, hb1, hb2, hb3⟩ := Cb1.out
      go_wp2_with fail
      refine (l2Good_b B d m ys p2 f2 s2 true _ R21.out.1 R21.out.2.1 R21.out.2.2 (by omega) HX2.out (by omega) (by omega) (by omega) HO2.out).mono ?_
      rintro e w2 ⟨rfl, b2⟩
      have b02 := b1.trans (b2.mono b1.size)
      clear lb hb0 hb1 hb2 hb3
      have Ca2 := Lib.hid (HCa.out.below b02)
      have Cb2 := Lib.hid (HCb.out.below b02)
      obtain ⟨la, ha0, ha1, ha2, ha3⟩ := Ca2.out
      obtain ⟨lb, hb0, hb1, hb2, hb3⟩ := Cb2.out
      go_wp2_with fail
      refine (HM.out _ b02).mono ?_
      rintro e w3 ⟨rfl, b3⟩
      go_wp2_with fail
      go_ret2
      exact ⟨rfl, HB.out.trans ((b02.trans (b3.mono b02.size)).mono HB.out.size)⟩
end Go.Proofs.YtgabgmogcniedaaDoor.May
