/-
  Contracts of impl.areValidNames, impl.MayBeSame and spec.MayBeSame.
-/
import Derived.Test.YtkbjddppapjphaaMay2
namespace Go.Proofs.Ytkbjddppapjphaa.May
open Go.RowKit Pl Strs Help Name Stands SplitPl NmPl Word Part NGood

/-- a name with where its Given words lie -/
structure Nm where
  A : Option Addr
  n : Nat
  c : Nat
  xs : List ByteArray
  p : ByteArray
  f : ByteArray
  s : ByteArray
def Nm.v (x : Nm) : Value := nmV (.slice x.A x.n x.c) x.p x.f x.s
def Nm.ok (x : Nm) : Bool := okN x.xs x.p x.f x.s
/-- the name can be read in w -/
def Nm.In (x : Nm) (w : World) : Prop := Rdn w x.A x.n x.xs ∧ x.n ≤ 1048576 ∧ x.p.size ≤ 1048576
theorem Nm.In.below {x : Nm} {w w' : World} (h : x.In w) (hb : Below w.heap.size w w') : x.In w' := ⟨h.1.below hb, h.2⟩
/-- the slice at A holds the names L -/
def RdNs (w : World) (A : Option Addr) (L : List Nm) : Prop :=
  ∀ j x, L[j]? = some x → x.In w ∧ ∃ g o, A = some ⟨g, o, none⟩ ∧ g < w.heap.size ∧ w.cell? ⟨g, o + j * 4, none⟩ = some (.slice x.A x.n x.c) ∧ w.cell? ⟨g, o + j * 4 + 1, none⟩ = some (.string x.p) ∧ w.cell? ⟨g, o + j * 4 + 2, none⟩ = some (.string x.f) ∧ w.cell? ⟨g, o + j * 4 + 3, none⟩ = some (.string x.s)
theorem RdNs.below {w w' : World} {A : Option Addr} {L : List Nm} (h : RdNs w A L) (hb : Below w.heap.size w w') : RdNs w' A L := by
  intro j x hx
  obtain ⟨hi, g, o, e, hg, h0, h1, h2, h3⟩ := h j x hx
  exact ⟨hi.below hb, g, o, e, Nat.lt_of_lt_of_le hg hb.size, (hb.cell (p := ⟨g, o + j * 4, none⟩) hg).trans h0, (hb.cell (p := ⟨g, o + j * 4 + 1, none⟩) hg).trans h1, (hb.cell (p := ⟨g, o + j * 4 + 2, none⟩) hg).trans h2, (hb.cell (p := ⟨g, o + j * 4 + 3, none⟩) hg).trans h3⟩
theorem oks_drop {L : List Nm} {k : Nat} {x : Nm} (h : L[k]? = some x) : (L.drop k).all Nm.ok = (x.ok && (L.drop (k + 1)).all Nm.ok) := by
  obtain ⟨hk, e⟩ := List.getElem?_eq_some_iff.1 h
  rw [List.drop_eq_getElem_cons hk, e]
  rfl

set_option maxHeartbeats 2000000 in
theorem areValid (A : Option Addr) (c N : Nat) (L : List Nm) (w : World) (h : RdNs w A L) (hn : L.length = N) (hN : N ≤ 1048576) :
    Calls Try.prog 41 #[.slice A N c] w fun e w' => e = .returned (.bool (L.all Nm.ok)) ∧ Below w.heap.size w w' := by
  have H := Lib.hid h
  have HN := Lib.hid hn
  clear h hn
  go_enter Try.func41, Try.ntmps41
  go_wp2_with fail
  go_loopw [7] (fun i wr => ∃ k : Nat, k ≤ N ∧ i = .int .i64 k ∧ Hid ((L.drop k).all Nm.ok = L.all Nm.ok) ∧ Below w.heap.size w wr) (fun i _ => N - (intOf i).toNat)
  case atStart => exact ⟨0, Nat.zero_le _, rfl, Lib.hid rfl, Below.refl _ _⟩
  case round =>
    obtain ⟨k, hk, rfl, HD, hb⟩ := hrel
    by_cases hlt : k < N
    · have hkx : k < L.length := by rw [HN.out]; exact hlt
      have hx? := List.getElem?_eq_getElem hkx
      obtain ⟨hin, g, o, rfl, hg, h0, h1, h2, h3⟩ := (H.out.below hb) k L[k] hx?
      have HO := Lib.hid (oks_drop hx?)
      clear hx?
      generalize L[k] = x at *
      obtain ⟨A1, n1, c1, xs, p, f, s⟩ := x
      dsimp only at h0 h1 h2 h3
      have hin1 := hin.1
      have hin2 := hin.2.1
      have hin3 := hin.2.2
      dsimp only at hin1 hin2 hin3
      have b5 := (Below.refl _ wr).alloc (Nat.le_refl _) (.cells #[.slice A1 n1 c1, .string p, .string f, .string s] 27)
      have HR5 := Lib.hid (hin1.below b5)
      have HB5 := Lib.hid b5
      clear hin hin1 b5
      cases hok : okN xs p f s with
      | false =>
        have HOK := Lib.hid hok
        clear hok
        have HF : Hid (L.all Nm.ok = false) := Lib.hid (by rw [← HD.out, HO.out]; unfold Nm.ok; rw [HOK.out]; rfl)
        go_wp2_with fail
        refine (isValid_b A1 c1 n1 xs p f s false _ HR5.out.1 HR5.out.2.1 HR5.out.2.2 hin2 hin3 HOK.out).mono ?_
        rintro e w6 ⟨rfl, b6⟩
        go_wp2_with fail
        go_ret
        exact ⟨by rw [HF.out]; rfl, hb.trans ((HB5.out.trans (b6.mono HB5.out.size)).mono hb.size)⟩
      | true =>
        have HOK := Lib.hid hok
        clear hok
        go_wp2_with fail
        refine (isValid_b A1 c1 n1 xs p f s true _ HR5.out.1 HR5.out.2.1 HR5.out.2.2 hin2 hin3 HOK.out).mono ?_
        rintro e w6 ⟨rfl, b6⟩
        go_wp2_with fail
        go_roundw
        case rel => exact ⟨k + 1, by omega, by go_num, Lib.hid (by rw [← HD.out, HO.out]; unfold Nm.ok; rw [HOK.out]; rfl), hb.trans ((HB5.out.trans (b6.mono HB5.out.size)).mono hb.size)⟩
        case measure => simp [intOf]; omega
    · have HX : Hid (L.all Nm.ok = true) := Lib.hid (by rw [← HD.out, List.drop_eq_nil_of_le (by rw [HN.out]; omega)]; rfl)
      go_wp2_with fail
      go_ret
      exact ⟨by rw [HX.out]; rfl, hb⟩

/-- what MayBeSame answers -/
def mbV (r : Bool) : Bool → Value
  | true => .tuple #[.bool r, .bool true]
  | false => .tuple #[.bool false, .bool false]
theorem mbV_form (r b : Bool) : ∃ x y, mbV r b = .tuple #[.bool x, .bool y] := by cases b <;> exact ⟨_, _, rfl⟩
theorem okN_ne {xs : List ByteArray} {p f s : ByteArray} (h : okN xs p f s = true) : ∀ x ∈ ls xs, x ≠ [] := by
  rw [okN_eq] at h
  simp only [Bool.and_eq_true] at h
  exact fun x hx => cap_ne (List.all_eq_true.1 h.1.1.1.1 x hx)

/-- a literal of two names -/
theorem rdns_two {w : World} {x y : Nm} (hx : x.In w) (hy : y.In w) (t : TypeId) : RdNs (w.alloc (.cells #[.slice x.A x.n x.c, .string x.p, .string x.f, .string x.s, .slice y.A y.n y.c, .string y.p, .string y.f, .string y.s] t)) (some ⟨w.heap.size, 0, none⟩) [x, y] := by
  have hb := (Below.refl _ w).alloc (Nat.le_refl _) (.cells #[.slice x.A x.n x.c, .string x.p, .string x.f, .string x.s, .slice y.A y.n y.c, .string y.p, .string y.f, .string y.s] t)
  intro j z hz
  match j, hz with
  | 0, hz =>
    cases hz
    exact ⟨hx.below hb, w.heap.size, 0, rfl, by simp, by simp, by simp, by simp, by simp⟩
  | 1, hz =>
    cases hz
    exact ⟨hy.below hb, w.heap.size, 0, rfl, by simp, by simp, by simp, by simp, by simp⟩
  | j + 2, hz => simp at hz

set_option maxHeartbeats 4000000 in
theorem implMayBe (A B : Option Addr) (c d n m : Nat) (xs ys : List ByteArray) (p f s p2 f2 s2 : ByteArray) (w : World) (h1 : Rdn w A n xs) (h2 : Rdn w B m ys) (hn : n ≤ 1048576) (hm : m ≤ 1048576) (hp : p.size ≤ 1048576) (hp2 : p2.size ≤ 1048576) :
    Calls Try.prog 22 #[nmV (.slice A n c) p f s, nmV (.slice B m d) p2 f2 s2] w fun e w' => e = .returned (mbV (mayB xs p f s ys p2 f2 s2) (okN xs p f s && okN ys p2 f2 s2)) ∧ Below w.heap.size w w' := by
  obtain ⟨W0, hW0⟩ : ∃ W0, W0 = (w.alloc (.cells #[.slice A n c, .string p, .string f, .string s] 27)).alloc (.cells #[.slice B m d, .string p2, .string f2, .string s2] 27) := ⟨_, rfl⟩
  have HB : Hid (Below w.heap.size w W0) := Lib.hid (by rw [hW0]; exact ((Below.refl _ w).alloc (Nat.le_refl _) _).alloc (by simp) _)
  have R1 := Lib.hid (h1.below HB.out)
  have R2 := Lib.hid (h2.below HB.out)
  have HCa : Hid (C4 W0 w.heap.size (.slice A n c) p f s) := Lib.hid (by rw [hW0]; exact (C4.new w (.slice A n c) p f s 27).below ((Below.refl _ _).alloc (Nat.le_refl _) _))
  have HCb : Hid (C4 W0 (w.heap.size + 1) (.slice B m d) p2 f2 s2) := Lib.hid (by
    rw [hW0]
    have := C4.new (w.alloc (.cells #[.slice A n c, .string p, .string f, .string s] 27)) (.slice B m d) p2 f2 s2 27
    simpa using this)
  have hz0 : W0.heap.size = w.heap.size + 1 + 1 := by rw [hW0]; simp
  have HV := Lib.hid (areValid (some ⟨W0.heap.size, 0, none⟩) 2 2 [⟨A, n, c, xs, p, f, s⟩, ⟨B, m, d, ys, p2, f2, s2⟩] _ (rdns_two (x := ⟨A, n, c, xs, p, f, s⟩) (y := ⟨B, m, d, ys, p2, f2, s2⟩) ⟨R1.out, hn, hp⟩ ⟨R2.out, hm, hp2⟩ 27) rfl (by omega))
  have e1 : [(⟨A, n, c, xs, p, f, s⟩ : Nm), ⟨B, m, d, ys, p2, f2, s2⟩].all Nm.ok = (okN xs p f s && okN ys p2 f2 s2) := by simp [Nm.ok]
  rw [e1, hz0] at HV
  have HB1 := Lib.hid ((Below.refl _ W0).alloc (Nat.le_refl _) (.cells #[.slice A n c, .string p, .string f, .string s, .slice B m d, .string p2, .string f2, .string s2] 27))
  have HW0 := Lib.hid hW0
  clear h1 h2 hz0 hW0 e1
  cases hok : (okN xs p f s && okN ys p2 f2 s2) with
  | false =>
    rw [hok] at HV
    clear hok
    go_enter Try.func22, Try.ntmps22
    go_wp2_with fail
    rw [← HW0.out]
    refine HV.out.mono ?_
    rintro e w1 ⟨rfl, b1⟩
    go_wp2_with fail
    go_ret2
    exact ⟨rfl, HB.out.trans ((HB1.out.trans (b1.mono HB1.out.size)).mono HB.out.size)⟩
  | true =>
    rw [hok] at HV
    obtain ⟨ok1, ok2⟩ := Bool.and_eq_true_iff.1 hok
    have HM := Lib.hid (fun w' (hk : Below W0.heap.size W0 w') => implMay A B c d n m xs ys p f s p2 f2 s2 w' (R1.out.below hk) (R2.out.below hk) hn hm (okN_ne ok1) (okN_ne ok2))
    clear hok ok1 ok2
    generalize mayB xs p f s ys p2 f2 s2 = r at *
    go_enter Try.func22, Try.ntmps22
    go_wp2_with fail
    rw [← HW0.out]
    refine HV.out.mono ?_
    rintro e w1 ⟨rfl, b1⟩
    have b01 := HB1.out.trans (b1.mono HB1.out.size)
    have Ca1 := Lib.hid (HCa.out.below b01)
    have Cb1 := Lib.hid (HCb.out.below b01)
    obtain ⟨la, ha0, ha1, ha2, ha3⟩ := Ca1.out
    obtain ⟨lb, hb0, hb1, hb2, hb3⟩ := Cb1.out
    go_wp2_with fail
    refine (HM.out _ b01).mono ?_
    rintro e w2 ⟨rfl, b2⟩
    go_wp2_with fail
    go_ret2
    exact ⟨rfl, HB.out.trans ((b01.trans (b2.mono b01.size)).mono HB.out.size)⟩

set_option maxHeartbeats 4000000 in
theorem specMayBe (A B : Option Addr) (c d n m : Nat) (xs ys : List ByteArray) (p f s p2 f2 s2 : ByteArray) (w : World) (h1 : Rdn w A n xs) (h2 : Rdn w B m ys) (hl1 : n + lens xs + p.size + f.size + s.size ≤ 1048576) (hl2 : m + lens ys + p2.size + f2.size + s2.size ≤ 1048576) :
    Calls Try.prog 21 #[nmV (.slice A n c) p f s, nmV (.slice B m d) p2 f2 s2] w fun e w' => e = .returned (mbV (mayB xs p f s ys p2 f2 s2) (okN xs p f s && okN ys p2 f2 s2)) ∧ Below w.heap.size w w' := by
  obtain ⟨W0, hW0⟩ : ∃ W0, W0 = (w.alloc (.cells #[.slice A n c, .string p, .string f, .string s] 27)).alloc (.cells #[.slice B m d, .string p2, .string f2, .string s2] 27) := ⟨_, rfl⟩
  have HB : Hid (Below w.heap.size w W0) := Lib.hid (by rw [hW0]; exact ((Below.refl _ w).alloc (Nat.le_refl _) _).alloc (by simp) _)
  have R1 := Lib.hid (h1.below HB.out)
  have R2 := Lib.hid (h2.below HB.out)
  have HCa : Hid (C4 W0 w.heap.size (.slice A n c) p f s) := Lib.hid (by rw [hW0]; exact (C4.new w (.slice A n c) p f s 27).below ((Below.refl _ _).alloc (Nat.le_refl _) _))
  have HCb : Hid (C4 W0 (w.heap.size + 1) (.slice B m d) p2 f2 s2) := Lib.hid (by
    rw [hW0]
    have := C4.new (w.alloc (.cells #[.slice A n c, .string p, .string f, .string s] 27)) (.slice B m d) p2 f2 s2 27
    simpa using this)
  have HX1 : Hid (∀ x ∈ xs, x.size ≤ 1048576) := Lib.hid (fun x hx => by have := mem_lens hx; omega)
  have HX2 : Hid (∀ x ∈ ys, x.size ≤ 1048576) := Lib.hid (fun x hx => by have := mem_lens hx; omega)
  have HW0 := Lib.hid hW0
  clear h1 h2 hW0
  cases ok1 : okN xs p f s with
  | false =>
    have HO1 := Lib.hid ok1
    clear ok1
    go_enter Try.func21, Try.ntmps21
    go_wp2_with fail
    rw [← HW0.out]
    refine (l2Good_b A c n xs p f s false _ R1.out.1 R1.out.2.1 R1.out.2.2 (by omega) HX1.out (by omega) (by omega) (by omega) HO1.out).mono ?_
    rintro e w1 ⟨rfl, b1⟩
    go_wp2_with fail
    go_ret2
    exact ⟨rfl, HB.out.trans (b1.mono HB.out.size)⟩
  | true =>
    have HO1 := Lib.hid ok1
    cases ok2 : okN ys p2 f2 s2 with
    | false =>
      have HO2 := Lib.hid ok2
      clear ok1 ok2
      go_enter Try.func21, Try.ntmps21
      go_wp2_with fail
      rw [← HW0.out]
      refine (l2Good_b A c n xs p f s true _ R1.out.1 R1.out.2.1 R1.out.2.2 (by omega) HX1.out (by omega) (by omega) (by omega) HO1.out).mono ?_
      rintro e w1 ⟨rfl, b1⟩
      have Cb1 := Lib.hid (HCb.out.below b1)
      have R21 := Lib.hid (R2.out.below b1)
      obtain ⟨lb, hb0, hb1, hb2, hb3⟩ := Cb1.out
      go_wp2_with fail
      refine (l2Good_b B d m ys p2 f2 s2 false _ R21.out.1 R21.out.2.1 R21.out.2.2 (by omega) HX2.out (by omega) (by omega) (by omega) HO2.out).mono ?_
      rintro e w2 ⟨rfl, b2⟩
      go_wp2_with fail
      go_ret2
      exact ⟨rfl, HB.out.trans ((b1.trans (b2.mono b1.size)).mono HB.out.size)⟩
    | true =>
      have HO2 := Lib.hid ok2
      have HM := Lib.hid (fun w' (hk : Below W0.heap.size W0 w') => l2May A B c d n m xs ys p f s p2 f2 s2 w' (R1.out.below hk) (R2.out.below hk) (by omega) (by omega) (okN_ne ok1) (okN_ne ok2))
      clear ok1 ok2
      generalize mayB xs p f s ys p2 f2 s2 = r at *
      go_enter Try.func21, Try.ntmps21
      go_wp2_with fail
      rw [← HW0.out]
      refine (l2Good_b A c n xs p f s true _ R1.out.1 R1.out.2.1 R1.out.2.2 (by omega) HX1.out (by omega) (by omega) (by omega) HO1.out).mono ?_
      rintro e w1 ⟨rfl, b1⟩
      have Cb1 := Lib.hid (HCb.out.below b1)
      have R21 := Lib.hid (R2.out.below b1)
      obtain ⟨lb, hb0, hb1, hb2, hb3⟩ := Cb1.out
      go_wp2_with fail
      refine (l2Good_b B d m ys p2 f2 s2 true _ R21.out.1 R21.out.2.1 R21.out.2.2 (by omega) HX2.out (by omega) (by omega) (by omega) HO2.out).mono ?_
      rintro e w2 ⟨rfl, b2⟩
      have b02 := b1.trans (b2.mono b1.size)
      clear lb hb0 hb1 hb2 hb3
      have Ca2 := Lib.hid (HCa.out.below b02)
      have Cb2 := Lib.hid (HCb.out.below b02)
      obtain ⟨la, ha0, ha1, ha2, ha3⟩ := Ca2.out
      obtain ⟨lb, hb0, hb1, hb2, hb3⟩ := Cb2.out
      go_wp2_with fail
      refine (HM.out _ b02).mono ?_
      rintro e w3 ⟨rfl, b3⟩
      go_wp2_with fail
      go_ret2
      exact ⟨rfl, HB.out.trans ((b02.trans (b3.mono b02.size)).mono HB.out.size)⟩
end Go.Proofs.Ytkbjddppapjphaa.May
