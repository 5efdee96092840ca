/-
  Proved: for every two names the law FnExactCompareNames returns true: CompareNames answers as its model and writes into no argument; the arguments read as before. The listed variables lie as the pinned constants lay them (the card ties them). No further condition.
-/
import Derived.Test.YtjdnkjobccnmlaaDoorRows
import Derived.Test.YtjdnkjobccnmlaaDoorCmp4
import Derived.Test.YtjdnkjobccnmlaaDoorOpenN
import Derived.SliceStrings
import Derived.Deep.RegionHeld3
import Derived.WalkKit
import Derived.ProofKit
import Derived.OpenShut
import Derived.ShutString
import Derived.ChangeOld
import Derived.Below
import Derived.Lib.SmallJoins
import Derived.Test.YtjdnkjobccnmlaaDoorCards
import Derived.Test.YtjdnkjobccnmlaaDoorTie
import Derived.LaidMore
import Derived.Lay
import Derived.SevenTiedAt
import Derived.Stop.Joined
namespace Go.Proofs.YtjdnkjobccnmlaaDoor.fnExactCompareNames
open Go.ChangeShapes Go.WideShapes Go.ChangeAt Go.RowKit
open Go.ChangeMaps (open_string shut_string)
open Strs Help Name NGood OpenN Cmp
set_option linter.unusedVariables false
set_option linter.unusedSimpArgs false

set_option maxHeartbeats 8000000 in
theorem walk (A B : Option Addr) (n c m d : Nat) (xs ys : List ByteArray) (p f s p2 f2 s2 : ByteArray) (w : World) (hr1 : Rdn w A n xs) (hr2 : Rdn w B m ys) (hm1 : n ≤ maxLen) (hx1 : ∀ x ∈ xs, x.size ≤ maxLen) (hp1 : p.size ≤ maxLen) (hf1 : f.size ≤ maxLen) (hs1 : s.size ≤ maxLen) (hm2 : m ≤ maxLen) (hx2 : ∀ x ∈ ys, x.size ≤ maxLen) (hp2 : p2.size ≤ maxLen) (hf2 : f2.size ≤ maxLen) (hs2 : s2.size ≤ maxLen) :
    Calls Tryd.prog 6 #[nmV (.slice A n c) p f s, nmV (.slice B m d) p2 f2 s2] w fun e w' => e = .returned (.bool true) ∧ Below w.heap.size w w' := by
  obtain ⟨W0, hW0⟩ : ∃ W0, W0 = (w.alloc (.cells #[.slice A n c, .string p, .string f, .string s] 48)).alloc (.cells #[.slice B m d, .string p2, .string f2, .string s2] 48) := ⟨_, rfl⟩
  have HB0 : Hid (Below w.heap.size w W0) := Lib.hid (by rw [hW0]; exact ((Below.refl _ w).alloc (Nat.le_refl _) _).alloc (by simp) _)
  have HRa := Lib.hid (hr1.below HB0.out)
  have HRb := Lib.hid (hr2.below HB0.out)
  have HN1 := Lib.hid hr1.2.2
  have HN2 := Lib.hid hr2.2.2
  have HCa : Hid (C4 W0 w.heap.size (.slice A n c) p f s) := Lib.hid (by rw [hW0]; exact (C4.new w (.slice A n c) p f s 48).below ((Below.refl _ _).alloc (Nat.le_refl _) _))
  have HCb : Hid (C4 W0 (w.heap.size + 1) (.slice B m d) p2 f2 s2) := Lib.hid (by
    rw [hW0]
    have := C4.new (w.alloc (.cells #[.slice A n c, .string p, .string f, .string s] 48)) (.slice B m d) p2 f2 s2 48
    simpa using this)
  have HSz := Lib.hid (szName_any A c n xs p f s 1048576 _ HRa.out.1 (fun hp => HRa.out.2.1 (by rw [← HN1.out]; exact hp)) HN1.out hm1 hx1 hp1 hf1 hs1 (Nat.le_refl _))
  have HE := Lib.hid (show szN 1048576 xs p f s = if xs.length + lens xs + p.size + f.size + s.size ≤ 1048576 then (1048576 : Int) - xs.length - lens xs - p.size - f.size - s.size else -1 from rfl)
  have HW0 := Lib.hid hW0
  clear hr1 hr2 hx1 hW0
  by_cases hfit : xs.length + lens xs + p.size + f.size + s.size ≤ 1048576
  · rw [HE.out, if_pos hfit] at HSz
    rw [HN1.out] at hfit HSz
    obtain ⟨lf, hlf⟩ : ∃ lf : Nat, lf = 1048576 - (n + lens xs + p.size + f.size + s.size) := ⟨_, rfl⟩
    have elf : (1048576 : Int) - n - lens xs - p.size - f.size - s.size = (lf : Int) := by omega
    rw [elf] at HSz
    have hlf1 : lf ≤ 1048576 := by omega
    have HSz2 := Lib.hid (fun w' (hk : Below W0.heap.size W0 w') => szName_any B d m ys p2 f2 s2 lf w' (HRb.out.below hk).1 (fun hp => (HRb.out.below hk).2.1 (by rw [← HN2.out]; exact hp)) HN2.out hm2 hx2 hp2 hf2 hs2 hlf1)
    have HE2 := Lib.hid (show szN lf ys p2 f2 s2 = if ys.length + lens ys + p2.size + f2.size + s2.size ≤ lf then (lf : Int) - ys.length - lens ys - p2.size - f2.size - s2.size else -1 from rfl)
    have HLf := Lib.hid hlf
    clear elf hlf hx2 HE
    by_cases hfit2 : ys.length + lens ys + p2.size + f2.size + s2.size ≤ lf
    · rw [HE2.out, if_pos hfit2] at HSz2
      rw [HN2.out] at hfit2 HSz2
      have hfit3 : m + lens ys + p2.size + f2.size + s2.size ≤ 1048576 := by omega
      clear HE2
      have hle1 : n ≤ 1048576 := by omega
      have hle2 : m ≤ 1048576 := by omega
      obtain ⟨tv, rv, hv⟩ := cnV_form (cmpM xs p f s ys p2 f2 s2) (okN xs p f s && okN ys p2 f2 s2)
      have HV := Lib.hid hv
      clear hv
      go_enter Tryd.func6, Tryd.ntmps6
      go_wp2_with fail
      rw [← HW0.out]
      refine HSz.out.mono ?_
      rintro e w1 ⟨rfl, b1⟩
      have Cb1 := Lib.hid (HCb.out.below b1)
      obtain ⟨lb, hb0, hb1, hb2, hb3⟩ := Cb1.out
      go_wp2_with fail
      refine (HSz2.out _ b1).mono ?_
      rintro e w2 ⟨rfl, b2⟩
      have b02 := b1.trans (b2.mono b1.size)
      have Ca2 := Lib.hid (HCa.out.below b02)
      have Cb2 := Lib.hid (HCb.out.below b02)
      have Ra2 := Lib.hid (HRa.out.below b02)
      have Rb2 := Lib.hid (HRb.out.below b02)
      have k2 := HB0.out.trans (b02.mono HB0.out.size)
      clear lb hb0 hb1 hb2 hb3 b1 b2 b02 Cb1 HSz HSz2 HRa HRb HCa HCb HW0 HB0
      have Ra3 := Lib.hid (Ra2.out.below (Kept.drew w2))
      have HS : Hid (∀ w', Kept w2 w' → ((w'.cell? ⟨w.heap.size, 0, none⟩ = some (.slice A n c) ∧ w'.cell? ⟨w.heap.size, 1, none⟩ = some (.string p) ∧ w'.cell? ⟨w.heap.size, 2, none⟩ = some (.string f) ∧ w'.cell? ⟨w.heap.size, 3, none⟩ = some (.string s)) ∧ (w'.cell? ⟨(w.heap.size + 1), 0, none⟩ = some (.slice B m d) ∧ w'.cell? ⟨(w.heap.size + 1), 1, none⟩ = some (.string p2) ∧ w'.cell? ⟨(w.heap.size + 1), 2, none⟩ = some (.string f2) ∧ w'.cell? ⟨(w.heap.size + 1), 3, none⟩ = some (.string s2)) ∧ Kept w2 w')) := Lib.hid (fun w' h => ⟨(Ca2.out.below h).2, (Cb2.out.below h).2, h⟩)
      have HK0 := Lib.hid (Kept.drew w2)
      go_wp2_with fail
      go_region_held3 (fun w' => (w'.cell? ⟨w.heap.size, 0, none⟩ = some (.slice A n c) ∧ w'.cell? ⟨w.heap.size, 1, none⟩ = some (.string p) ∧ w'.cell? ⟨w.heap.size, 2, none⟩ = some (.string f) ∧ w'.cell? ⟨w.heap.size, 3, none⟩ = some (.string s)) ∧ (w'.cell? ⟨(w.heap.size + 1), 0, none⟩ = some (.slice B m d) ∧ w'.cell? ⟨(w.heap.size + 1), 1, none⟩ = some (.string p2) ∧ w'.cell? ⟨(w.heap.size + 1), 2, none⟩ = some (.string f2) ∧ w'.cell? ⟨(w.heap.size + 1), 3, none⟩ = some (.string s2)) ∧ Kept w2 w')
        (first | exact HS.out _ HK0.out | exact HS.out _ (by assumption))
        (first
          | (go_at_call 30; ((refine (toName_any B d m ys p2 f2 s2 _ Rb3.out.1 Rb3.out.2.1 HN2.out hle2).mono ?_); rintro e w4 ⟨A4, c4, rfl, o4, b4⟩; have hk4 : Kept w2 w4 := Kept.next hk3 b4; have R4 := Lib.hid (Rdn.own o4); have R34 := Lib.hid (R3.out.below b4); clear o4))
          | (go_at_call 30; ((refine (toName_any A c n xs p f s _ Ra3.out.1 Ra3.out.2.1 HN1.out hle1).mono ?_); rintro e w3 ⟨A3, c3, rfl, o3, b3⟩; have hk3 : Kept w2 w3 := Kept.next HK0.out b3; have R3 := Lib.hid (Rdn.own o3); have Rb3 := Lib.hid (Rb2.out.below hk3); clear o3))
          | (go_at_call 29; ((refine (specCompare A3 A4 c3 c4 n m xs ys p f s p2 f2 s2 _ R34.out R4.out (by omega) (by omega)).mono ?_); rintro e w5 ⟨rfl, b5⟩; rw [HV.out]; have hk5 : Kept w2 w5 := Kept.next hk4 b5)))
      have Ca5 := Lib.hid (Ca2.out.below hk5)
      have Ra5 := Lib.hid (Ra2.out.below hk5)
      have Cb5 := Lib.hid (Cb2.out.below hk5)
      have Rb5 := Lib.hid (Rb2.out.below hk5)
      have k5 := k2.trans (Below.mono hk5 k2.size)
      clear HS HK0 Ca2 Cb2 Ra2 Rb2 Ra3 Rb3 R3 R4 R34 k2 hk5 hk4 hk3 b3 b4 b5
      (try clear hHeld)
      obtain ⟨la, ha0, ha1, ha2, ha3⟩ := Ca5.out
      go_wp2_with fail
      refine (toName_any A c n xs p f s _ Ra5.out.1 Ra5.out.2.1 HN1.out hle1).mono ?_
      rintro e w6 ⟨A6, c6, rfl, o6, b6⟩
      have hcap6 := own_cap o6
      have b7 := (Below.refl _ w6).alloc (Nat.le_refl _) (.cells #[.slice A6 n c6, .string p, .string f, .string s] 51)
      have b67 := b6.trans (b7.mono b6.size)
      have RX := Lib.hid ((Rdn.own o6).below b7)
      have Ca7 := Lib.hid (Ca5.out.below b67)
      have Cb7 := Lib.hid (Cb5.out.below b67)
      have Ra7 := Lib.hid (Ra5.out.below b67)
      have Rb7 := Lib.hid (Rb5.out.below b67)
      have CX := Lib.hid (C4.new w6 (.slice A6 n c6) p f s 51)
      have k7 := k5.trans (b67.mono k5.size)
      clear la ha0 ha1 ha2 ha3 b6 b7 b67 o6 k5 Ca5 Ra5 Cb5 Rb5
      obtain ⟨lb, hb0, hb1, hb2, hb3⟩ := Cb7.out
      go_wp2_with fail
      refine (toName_any B d m ys p2 f2 s2 _ Rb7.out.1 Rb7.out.2.1 HN2.out hle2).mono ?_
      rintro e w8 ⟨A8, c8, rfl, o8, b8⟩
      have hcap8 := own_cap o8
      have b9 := (Below.refl _ w8).alloc (Nat.le_refl _) (.cells #[.slice A8 m c8, .string p2, .string f2, .string s2] 51)
      have b89 := b8.trans (b9.mono b8.size)
      have RY := Lib.hid ((Rdn.own o8).below b9)
      have RX9 := Lib.hid (RX.out.below b89)
      have Ca9 := Lib.hid (Ca7.out.below b89)
      have Cb9 := Lib.hid (Cb7.out.below b89)
      have Ra9 := Lib.hid (Ra7.out.below b89)
      have Rb9 := Lib.hid (Rb7.out.below b89)
      have CX9 := Lib.hid (CX.out.below b89)
      have CY9 := Lib.hid (C4.new w8 (.slice A8 m c8) p2 f2 s2 51)
      have k9 := k7.trans (b89.mono k7.size)
      have hlt9 : w6.heap.size < w8.heap.size := by have := b8.size; simp at this; omega
      clear lb hb0 hb1 hb2 hb3 b8 b9 b89 o8 k7 Ca7 Ra7 Cb7 Rb7 CX RX
      generalize w6.heap.size = bx at *
      obtain ⟨lx, hx0, hx1, hx2, hx3⟩ := CX9.out
      go_wp2_with fail
      refine (implCompare A6 A8 c6 c8 n m xs ys p f s p2 f2 s2 _ RX9.out RY.out (by omega) (by omega) hcap6 hcap8).mono ?_
      rintro e w10 ⟨rfl, b10⟩
      rw [HV.out]
      have k10 := k9.trans (b10.mono k9.size)
      have Ca10 := Lib.hid (Ca9.out.below b10)
      have Cb10 := Lib.hid (Cb9.out.below b10)
      have Ra10 := Lib.hid (Ra9.out.below b10)
      have Rb10 := Lib.hid (Rb9.out.below b10)
      have CX10 := Lib.hid (CX9.out.below b10)
      have CY10 := Lib.hid (CY9.out.below b10)
      have RX10 := Lib.hid (RX9.out.below b10)
      have RY10 := Lib.hid (RY.out.below b10)
      clear lx hx0 hx1 hx2 hx3 k9 b10 Ca9 Cb9 Ra9 Rb9 CX9 CY9 RX9 RY hlt9
      generalize w8.heap.size = bY at *
      have HS : Hid (∀ w', Kept w10 w' → ((w'.cell? ⟨bx, 0, none⟩ = some (.slice A6 n c6) ∧ w'.cell? ⟨bx, 1, none⟩ = some (.string p) ∧ w'.cell? ⟨bx, 2, none⟩ = some (.string f) ∧ w'.cell? ⟨bx, 3, none⟩ = some (.string s)) ∧ (w'.cell? ⟨w.heap.size, 0, none⟩ = some (.slice A n c) ∧ w'.cell? ⟨w.heap.size, 1, none⟩ = some (.string p) ∧ w'.cell? ⟨w.heap.size, 2, none⟩ = some (.string f) ∧ w'.cell? ⟨w.heap.size, 3, none⟩ = some (.string s)) ∧ Kept w10 w')) := Lib.hid (fun w' h => ⟨(CX10.out.below h).2, (Ca10.out.below h).2, h⟩)
      have HK0 := Lib.hid (Kept.drew w10)
      go_wp2_with fail
      go_region_held3 (fun w' => (w'.cell? ⟨bx, 0, none⟩ = some (.slice A6 n c6) ∧ w'.cell? ⟨bx, 1, none⟩ = some (.string p) ∧ w'.cell? ⟨bx, 2, none⟩ = some (.string f) ∧ w'.cell? ⟨bx, 3, none⟩ = some (.string s)) ∧ (w'.cell? ⟨w.heap.size, 0, none⟩ = some (.slice A n c) ∧ w'.cell? ⟨w.heap.size, 1, none⟩ = some (.string p) ∧ w'.cell? ⟨w.heap.size, 2, none⟩ = some (.string f) ∧ w'.cell? ⟨w.heap.size, 3, none⟩ = some (.string s)) ∧ Kept w10 w')
        (first | exact HS.out _ HK0.out | exact HS.out _ (by assumption))
        (first
          | (go_at_call 30; refine (toName_any A c n xs p f s _ (Ra10.out.below HK0.out).1 (Ra10.out.below HK0.out).2.1 HN1.out hle1).mono ?_; rintro e w11 ⟨A11, c11, rfl, o11, b11⟩; have hk11 : Kept w10 w11 := Kept.next HK0.out b11; have R11 := Lib.hid (Rdn.own o11); clear o11)
          | (go_at_call 32; refine (eqName_same A6 A11 c6 c11 n xs p f s _ (RX10.out.below hk11).1 (RX10.out.below hk11).2.1 R11.out.1 R11.out.2.1 HN1.out (by omega)).mono ?_; rintro e w12 ⟨rfl, b12⟩; have hk12 : Kept w10 w12 := Kept.next hk11 b12))
      have k12 := k10.trans (Below.mono hk12 k10.size)
      have Cb12 := Lib.hid (Cb10.out.below hk12)
      have Rb12 := Lib.hid (Rb10.out.below hk12)
      have CY12 := Lib.hid (CY10.out.below hk12)
      have RY12 := Lib.hid (RY10.out.below hk12)
      clear HS HK0 hk12 hk11 b11 b12 R11 k10 Ca10 Cb10 Ra10 Rb10 CX10 CY10 RX10 RY10
      have HS : Hid (∀ w', Kept w12 w' → ((w'.cell? ⟨bY, 0, none⟩ = some (.slice A8 m c8) ∧ w'.cell? ⟨bY, 1, none⟩ = some (.string p2) ∧ w'.cell? ⟨bY, 2, none⟩ = some (.string f2) ∧ w'.cell? ⟨bY, 3, none⟩ = some (.string s2)) ∧ (w'.cell? ⟨(w.heap.size + 1), 0, none⟩ = some (.slice B m d) ∧ w'.cell? ⟨(w.heap.size + 1), 1, none⟩ = some (.string p2) ∧ w'.cell? ⟨(w.heap.size + 1), 2, none⟩ = some (.string f2) ∧ w'.cell? ⟨(w.heap.size + 1), 3, none⟩ = some (.string s2)) ∧ Kept w12 w')) := Lib.hid (fun w' h => ⟨(CY12.out.below h).2, (Cb12.out.below h).2, h⟩)
      have HK0 := Lib.hid (Kept.drew w12)
      go_wp2_with fail
      go_region_held3 (fun w' => (w'.cell? ⟨bY, 0, none⟩ = some (.slice A8 m c8) ∧ w'.cell? ⟨bY, 1, none⟩ = some (.string p2) ∧ w'.cell? ⟨bY, 2, none⟩ = some (.string f2) ∧ w'.cell? ⟨bY, 3, none⟩ = some (.string s2)) ∧ (w'.cell? ⟨(w.heap.size + 1), 0, none⟩ = some (.slice B m d) ∧ w'.cell? ⟨(w.heap.size + 1), 1, none⟩ = some (.string p2) ∧ w'.cell? ⟨(w.heap.size + 1), 2, none⟩ = some (.string f2) ∧ w'.cell? ⟨(w.heap.size + 1), 3, none⟩ = some (.string s2)) ∧ Kept w12 w')
        (first | exact HS.out _ HK0.out | exact HS.out _ (by assumption))
        (first
          | (go_at_call 30; refine (toName_any B d m ys p2 f2 s2 _ (Rb12.out.below HK0.out).1 (Rb12.out.below HK0.out).2.1 HN2.out hle2).mono ?_; rintro e w13 ⟨A13, c13, rfl, o13, b13⟩; have hk13 : Kept w12 w13 := Kept.next HK0.out b13; have R13 := Lib.hid (Rdn.own o13); clear o13)
          | (go_at_call 32; refine (eqName_same A8 A13 c8 c13 m ys p2 f2 s2 _ (RY12.out.below hk13).1 (RY12.out.below hk13).2.1 R13.out.1 R13.out.2.1 HN2.out (by omega)).mono ?_; rintro e w14 ⟨rfl, b14⟩; have hk14 : Kept w12 w14 := Kept.next hk13 b14))
      go_wp2_with fail
      go_ret
      exact ⟨rfl, k12.trans (Below.mono hk14 k12.size)⟩
    · rw [HE2.out, if_neg hfit2] at HSz2
      go_enter Tryd.func6, Tryd.ntmps6
      go_wp2_with fail
      rw [← HW0.out]
      refine HSz.out.mono ?_
      rintro e w1 ⟨rfl, b1⟩
      have Cb1 := Lib.hid (HCb.out.below b1)
      obtain ⟨lb, hb0, hb1, hb2, hb3⟩ := Cb1.out
      go_wp2_with fail
      refine (HSz2.out _ b1).mono ?_
      rintro e w2 ⟨rfl, b2⟩
      have b02 := b1.trans (b2.mono b1.size)
      go_wp2_with fail
      go_ret
      exact ⟨rfl, HB0.out.trans (b02.mono HB0.out.size)⟩
  · rw [HE.out, if_neg hfit] at HSz
    go_enter Tryd.func6, Tryd.ntmps6
    go_wp2_with fail
    rw [← HW0.out]
    refine HSz.out.mono ?_
    rintro e w1 ⟨rfl, b1⟩
    go_wp2_with fail
    go_ret
    exact ⟨rfl, HB0.out.trans (b1.mono HB0.out.size)⟩

set_option maxRecDepth 100000 in
set_option maxHeartbeats 2000000 in
theorem lifted (os : Os) (started : os.Started) (H : Type) (enc : TypeId × Value → H) :
    ReturnsInHanded {} Tryd.checked os 6 .any (fun w args => (Rows.fnExactCompareNamesSpec.pre enc Tryd.prog Tryd.f6 Rows.fnExactCompareNamesRow.domain false w args ∧ laidMetH Tryd.prog Rows.fnExactCompareNamesRow.laid w) ∧ sizedMet enc Tryd.prog Tryd.f6 (OpenSpec.ofChange Rows.fnExactCompareNamesSpec) false w args)
      (Rows.fnExactCompareNamesSpec.post enc Tryd.prog Tryd.f6 false true false false) := by
  refine returnsInHanded_of_change_and (C := Tryd.checked) (X := fun w _ => laidMetH Tryd.prog Rows.fnExactCompareNamesRow.laid w) (fun _ _ _ hh h => h.of_heap hh) own started (by kernel_rfl) Tryd.func6
    (ChangeSpec.witness_shaped (enc := enc) (C := Tryd.checked) (os := os) (X := fun w _ => laidMetH Tryd.prog Rows.fnExactCompareNamesRow.laid w) false (World.laidAll Tryd.prog os Rows.fnExactCompareNamesRow.laid) #[.agg #[.slice none 0 0, .string ByteArray.empty, .string ByteArray.empty, .string ByteArray.empty], .agg #[.slice none 0 0, .string ByteArray.empty, .string ByteArray.empty, .string ByteArray.empty]] 8 (World.laidAll_os _ _ _)
      (World.shaped_of_ZipB (by kernel_rfl) (by kernel_rfl)) (by kernel_rfl) (by kernel_rfl) (by kernel_rfl)
      (by rw [MakeChecks.laidMetH_plain _ _ _ (by kernel_rfl)]; exact laidMet_laidAll _ (by kernel_rfl) (by kernel_rfl))) ?_
  intro W base args ds gs before hval0 hW hcnd _ hL _
  have hval : ∀ (j : Nat) t v, Tryd.f6.params[j]? = some t → args[j]? = some v → Value.okWide Tryd.prog W .any base t v := hval0
  have hW' := hW
  obtain ⟨p, q, hA0, hV, rfl, hfz, hnd⟩ := hW
  have hA : DataW.TrodAll enc Tryd.prog W 0 (fun _ => true) true Tryd.f6.params.toList args.toList ds p := hA0
  rw [Tryd.params6] at hA hval
  obtain ⟨v0, vs0, d0, ds0, p0, q0, hargs, rfl, rfl, h0, r0⟩ := trodAll_cons hA
  obtain ⟨v1, vs1, d1, ds1, p1, q1, rfl, rfl, rfl, h1, r1⟩ := trodAll_cons r0
  obtain ⟨rfl, rfl, rfl⟩ := trodAll_nil r1
  obtain rfl : args = #[v0, v1] := by cases args; simp_all
  obtain ⟨rfl, rfl⟩ := trodVars_none hV
  have k0 := h0
  have lt0 : ∀ x ∈ p0, x.block < W.heap.size := by obtain ⟨m, hm⟩ := k0; exact DataW.trod_lt m _ _ _ hm
  have k1 := h1
  have lt1 : ∀ x ∈ p1, x.block < W.heap.size := by obtain ⟨m, hm⟩ := k1; exact DataW.trod_lt m _ _ _ hm
  obtain ⟨A0, n0, c0, xs0, p_0, f_0, s_0, rfl, hr0, hm0, hx0, hp0, hf0, hs0⟩ := open_name (hval 0 48 v0 rfl rfl) h0
  obtain ⟨A1, n1, c1, xs1, p_1, f_1, s_1, rfl, hr1, hm1, hx1, hp1, hf1, hs1⟩ := open_name (hval 1 48 v1 rfl rfl) h1
  clear hA0 hval0
  refine (walk A0 A1 n0 c0 n1 c1 xs0 xs1 p_0 f_0 s_0 p_1 f_1 s_1 W hr0 hr1 hm0 hx0 hp0 hf0 hs0 hm1 hx1 hp1 hf1 hs1 ).mono fun e W' ⟨he, bel⟩ => ?_
  subst he
  exact ⟨_, rfl, _, _, _, [], _, [], hW', trodAll_mk1 (shut_bool Tryd.underlying4 _), (trodAll_cons_mk (Below.trod laidOut (by kernel_rfl) (of_decide_eq_true (by kernel_rfl)) k0 bel lt0) (trodAll_cons_mk (Below.trod laidOut (by kernel_rfl) (of_decide_eq_true (by kernel_rfl)) k1 bel lt1) trodAll_mk0)), rfl, bel.frame _, fun h => by cases h⟩

theorem over : Rows.fnExactCompareNamesRow.holds Tryd.pinned (OpenSpec.ofChange Rows.fnExactCompareNamesSpec) :=
  OpenClaim.holds_of_wide 6 Tryd.f6 rfl rfl rfl rfl rfl rfl rfl ⟨rfl, rfl, rfl, rfl, rfl⟩ rfl rfl rfl rfl rfl (by kernel_rfl) Tryd.func6 (by kernel_rfl)
    (of_decide_eq_true (by kernel_rfl)) (by unfold Func.isWrapper; first | (rw [if_pos (by decide +kernel)]; kernel_rfl) | (rw [if_neg (by decide +kernel)]; exact ⟨rfl, rfl⟩))
    (fun os started H enc _ => lifted os started H enc)

theorem plain (f : FuncId) (fn : Func) (hf : Tryd.pinned.checked.prog.funcNamed "loop.example/g00896/laws.FnExactCompareNames" = some f) (hfn : Tryd.pinned.checked.prog.funcs[f]? = some fn) :
    true = Tryd.pinned.checked.prog.looks [] ∧ ∀ (j : Nat) t, fn.params[j]? = some t → Tryd.pinned.checked.prog.wantsStandIn t = false := by
  obtain rfl : f = 6 := Option.some.inj ((show Tryd.prog.funcNamed "loop.example/g00896/laws.FnExactCompareNames" = some 6 by kernel_rfl).symm.trans hf) |>.symm
  obtain rfl : fn = Tryd.f6 := (Option.some.inj (Tryd.func6.symm.trans hfn)).symm
  refine ⟨by kernel_rfl, fun j t ht => ?_⟩
  rw [Tryd.params6] at ht
  obtain rfl : t = 48 := by simpa using Array.mem_of_getElem? ht
  exact (show Tryd.prog.wantsStandIn 48 = false by kernel_rfl)

theorem card : Rows.FnExactCompareNamesCardSaid :=
  Claim7.holds_tied_plain_at .later [] _ _ _ _ over (fun _ h => by cases h) (by kernel_rfl) (fun _ h => by cases h) fnExactCompareNames_row_tie rfl ⟨rfl, rfl⟩ (by kernel_rfl) rfl plain (by kernel_rfl)
#print axioms card
end Go.Proofs.YtjdnkjobccnmlaaDoor.fnExactCompareNames
