/-
  Proved: for every code of bytes the law FnNameForms returns true; the argument reads as before. The library's tables and its error lie as the program's text and the pinned constants lay them (the card ties them). No further condition.
-/
import Derived.Test.YtmdjdgamojndkaaDoorRows
import Derived.Test.YtmdjdgamojndkaaDoorDnF
import Derived.Test.YtmdjdgamojndkaaDoorVn
import Derived.Test.YtmdjdgamojndkaaDoorOkS
import Derived.Test.YtmdjdgamojndkaaDoorAndSh
import Derived.Test.YtmdjdgamojndkaaDoorNfPl
import Derived.Test.YtmdjdgamojndkaaDoorPn
import Derived.Test.YtmdjdgamojndkaaDoorShort
import Derived.Test.YtmdjdgamojndkaaDoorForms4
import Derived.Test.YtmdjdgamojndkaaDoorForms4i
import Derived.Test.YtmdjdgamojndkaaDoorNmV
import Derived.Test.YtmdjdgamojndkaaDoorOpenB
import Derived.WalkKit
import Derived.ProofKit
import Derived.OpenShut
import Derived.ShutString
import Derived.ChangeOld
import Derived.Below
import Derived.HandedShaped
import Derived.IntWalk
import Derived.Lib.SmallJoins
import Derived.Test.YtmdjdgamojndkaaDoorCards
import Derived.Test.YtmdjdgamojndkaaDoorTie
import Derived.LaidMore
import Derived.Lay
import Derived.SevenTiedAt
import Derived.Stop.Joined
namespace Go.Proofs.YtmdjdgamojndkaaDoor.fnNameForms
open Go.ChangeShapes Go.WideShapes Go.ChangeAt Go.RowKit
open Go.ChangeMaps (open_string shut_string)
open Pl Strs Help Name NGood NmPl Forms IniPl Ini Cur Draw0 StN Vn OpenB
set_option linter.unusedVariables false
set_option linter.unusedSimpArgs false

theorem vBig_any (A : Option Addr) (n c : Nat) (w : World) (r : Bool) (hr : decide (65536 < (n : Int)) = r) : Calls Tryd.prog 4 #[.slice A n c] w fun e w' => e = .returned (.bool r) ∧ w = w' := by
  subst hr
  go_enter Tryd.func4, Tryd.ntmps4
  go_wp2
  go_ret
  exact ⟨rfl, rfl⟩
theorem own : ownKnob Tryd.prog.godebug = none := by kernel_rfl
theorem laidOut : laidOutB Tryd.prog = true := by kernel_rfl
theorem ml_of {w : World} (h : w.ShapedOpen Tryd.prog) : Pi.ML w := Tryd.laysM145.s1_3 w h
theorem rdn_own {w : World} {base : Nat} {v : Value} {xs : List ByteArray} (h : w.ownsRow base 9 1 v xs.length (xs.map Value.string)) : ∃ A c, v = .slice A xs.length c ∧ xs.length ≤ c ∧ Rdn w A xs.length xs := by
  obtain ⟨A, c, rfl, _, hr, hA⟩ := own_rds h
  exact ⟨A, c, rfl, own_cap h, hr, fun _ => hA, rfl⟩
theorem mem_lens {xs : List ByteArray} {x : ByteArray} (h : x ∈ xs) : x.size ≤ lens xs := by
  induction xs with
  | nil => cases h
  | cons y r ih =>
    have e : lens (y :: r) = y.size + lens r := by simp [lens]
    rcases List.mem_cons.1 h with rfl | h
    · omega
    · have := ih h; omega
theorem implV (A : Option Addr) (c : Nat) (xs : List ByteArray) (p f u : ByteArray) (w : World) (h : Rdn w A xs.length xs) (hl : xs.length + lens xs + p.size + f.size + u.size ≤ 1048576) :
    Calls Tryd.prog 9 #[nmV (.slice A xs.length c) p f u] w fun e w' => e = .returned (.bool (okN xs p f u)) ∧ Below w.heap.size w w' :=
  isValid A c _ xs p f u w h.1 h.2.1 rfl (by omega) (by omega)
set_option maxHeartbeats 1000000 in
theorem specV (A : Option Addr) (c : Nat) (xs : List ByteArray) (p f u : ByteArray) (w : World) (h : Rdn w A xs.length xs) (hl : xs.length + lens xs + p.size + f.size + u.size ≤ 1048576) :
    Calls Tryd.prog 8 #[nmV (.slice A xs.length c) p f u] w fun e w' => e = .returned (.bool (okN xs p f u)) ∧ Below w.heap.size w w' := by
  have HB := Lib.hid ((Below.refl _ w).alloc (Nat.le_refl _) (.cells #[.slice A xs.length c, .string p, .string f, .string u] 26))
  have h' := h.below HB.out
  have HG := Lib.hid (l2Good A c _ xs p f u _ h'.1 h'.2.1 rfl (by omega) (fun x hx => by have := mem_lens hx; omega) (by omega) (by omega) (by omega))
  generalize okN xs p f u = r at *
  clear h h'
  go_enter Tryd.func8, Tryd.ntmps8
  go_wp2_with fail
  refine HG.out.mono ?_
  rintro e w1 ⟨rfl, b1⟩
  go_wp2_with fail
  go_ret
  exact ⟨rfl, HB.out.trans (b1.mono HB.out.size)⟩
theorem read_lim {t : ByteArray} {zs : List ByteArray} {p f u : ByteArray} {r : Bool} (h : Pi.PI t zs p f u r) : zs.length + lens zs + p.size + f.size + u.size ≤ 1048576 := by
  cases r with
  | true => have := Cmp.ok_small (NfPl.read_same h).1; omega
  | false => obtain ⟨rfl, rfl, rfl, rfl, _⟩ := NfPl.read_none h; decide
theorem read_end {t t2 : ByteArray} {zs : List ByteArray} {p f u : ByteArray} {r : Bool} (h : Pi.PI t zs p f u r) (h1 : okN zs p f u = true → t2 = ba (invL zs p f u)) : r = true → t2 = t ∧ okN zs p f u = true := by
  rintro rfl
  obtain ⟨h2, h3⟩ := NfPl.read_same h
  exact ⟨(h1 h2).trans h3, h2⟩
theorem ne_em {u : ByteArray} (h : ¬ u = ⟨#[]⟩) : (u.toList == []) = false ∧ u.toList.isEmpty = false := by
  have hn : u.data.toList ≠ [] := fun e => h (ByteArray.ext (Array.toList_inj.1 e))
  rw [Lib.toList_data]
  exact ⟨by rw [beq_eq_false_iff_ne]; exact hn, List.isEmpty_eq_false_iff.2 hn⟩
theorem full_len (xs : List ByteArray) (p f u : ByteArray) : (ba (fullL xs p f u)).size ≤ lens xs + xs.length + p.size + f.size + u.size + 8 := by
  have h1 := jn_len [ba (jn (ls xs)), p, f, u]
  have h2 := jn_len xs
  have e1 : ls [ba (jn (ls xs)), p, f, u] = [jn (ls xs), p.data.toList, f.data.toList, u.data.toList] := rfl
  rw [e1] at h1
  have h3 : (ba (jn (ls xs))).size = (jn (ls xs)).length := ba_size _
  simp [lens, h3] at h1
  rw [ba_size]
  unfold fullL
  simp only [lens] at h2 ⊢
  omega
theorem tail_of (xs : List ByteArray) (p f u s2 : ByteArray) (h : s2 = ba (fullL xs p f u)) : ∃ d, s2.size = d + (NfPl.lastT f u).size ∧ s2.extract d s2.size = NfPl.lastT f u := by
  subst h
  obtain ⟨h1, h2⟩ := NfPl.full_tail xs p f u
  exact ⟨_, by omega, h2⟩
theorem tx_at (l : List UInt8) (r : Bool) : ∃ t : ByteArray, Forms.txV l r = .tuple #[.string t, .bool r] ∧ (r = true → t = ba l) ∧ (r = false → t = ⟨#[]⟩) := by
  cases r
  · exact ⟨_, rfl, fun h => (by cases h), fun _ => rfl⟩
  · exact ⟨_, rfl, fun _ => rfl, fun h => (by cases h)⟩
set_option maxRecDepth 100000 in
set_option maxHeartbeats 8000000 in
theorem walk (A : Option Addr) (n c : Nat) (w : World) (hr : RdB w A n) (ha : Apart A n w.heap.size) (hsh : w.ShapedOpen Tryd.prog) :
    Calls Tryd.prog 3 #[.slice A n c] w fun e w' => e = .returned (.bool true) ∧ Below w.heap.size w w' := by
  have HR := Lib.hid hr
  have HA := Lib.hid ha
  have HM := Lib.hid (ml_of hsh)
  clear hr ha hsh
  by_cases hbig : 65536 < n
  · go_enter Tryd.func3, Tryd.ntmps3
    go_wp2_with fail
    refine (vBig_any A n c _ true (by simp; omega)).mono ?_
    rintro e w' ⟨rfl, rfl⟩
    go_wp2_with fail
    go_ret
    exact ⟨rfl, Below.refl _ _⟩
  · go_enter Tryd.func3, Tryd.ntmps3
    go_wp2_with fail
    refine (vBig_any A n c _ false (by simp; omega)).mono ?_
    rintro e w' ⟨rfl, rfl⟩
    go_wp2_with fail
    refine (drawInv_any A n c _ (by omega) HR.out HA.out).mono ?_
    rintro e w1 ⟨Aa, ca, xs, p, f, u, rfl, hG1, hxl, hX, hp, hf, hs, b1⟩
    have R1 := Rdn.own hG1
    obtain ⟨_, _, e1, hca⟩ := hG1.form
    simp only [Value.slice.injEq] at e1
    obtain ⟨rfl, _, rfl⟩ := e1
    clear hG1
    obtain ⟨W0, hW0⟩ : ∃ W0, W0 = w1.alloc (.cells #[.slice Aa xs.length ca, .string p, .string f, .string u] 26) := ⟨_, rfl⟩
    have hk : Below w1.heap.size w1 W0 := by rw [hW0]; exact (Below.refl _ w1).alloc (Nat.le_refl _) _
    have HB := Lib.hid (b1.trans (hk.mono b1.size))
    have HCa : C4 W0 w1.heap.size (.slice Aa xs.length ca) p f u := by rw [hW0]; exact C4.new w1 (.slice Aa xs.length ca) p f u 26
    have HKA := Lib.hid (fun w' (h : Below W0.heap.size W0 w') => HCa.below h)
    have R1' := R1.below hk
    have l1 : xs.length + lens xs + p.size + f.size + u.size ≤ 1048576 := by
      have := lens_sm xs hX; unfold Sm at hp hf hs; omega
    obtain ⟨s, hts, hs1, hs0⟩ := tx_at (invL xs p f u) (okN xs p f u)
    obtain ⟨s2, hts2, hs21, _⟩ := tx_at (fullL xs p f u) (okN xs p f u)
    obtain ⟨s3, hts3, _, _⟩ := tx_at (shortL xs p f u) (okN xs p f u)
    have hlen := inv_len xs p f u
    have hls := lens_sm xs hX
    unfold Sm at hp hf hs
    have hss2 : okN xs p f u = true → s2.size ≤ 2097152 := fun hq => by rw [hs21 hq]; have := full_len xs p f u; omega
    have HS22 := Lib.hid hss2
    clear hss2
    have hss : s.size ≤ 1048576 := by
      cases hq : okN xs p f u with
      | false => rw [hs0 hq]; decide
      | true => rw [hs1 hq]; omega
    have HI1 := Lib.hid (fun w' (h : Below W0.heap.size W0 w') => Forms.implInverseForm Aa ca _ xs p f u w' (R1'.below h) hca l1)
    have HPi := Lib.hid (fun (t : ByteArray) w' (h : Below W0.heap.size W0 w') (hz : t.size ≤ 1048576) => Pi.implPi t w' (HM.out.below (HB.out.trans (h.mono HB.out.size))) hz)
    have HVs := Lib.hid (fun w' (h : Below W0.heap.size W0 w') => specV Aa ca xs p f u w' (R1'.below h) l1)
    have HVi := Lib.hid (fun w' (h : Below W0.heap.size W0 w') => implV Aa ca xs p f u w' (R1'.below h) l1)
    have HFu := Lib.hid (fun w' (h : Below W0.heap.size W0 w') => Forms.implFullForm Aa ca _ xs p f u w' (R1'.below h) hca l1)
    have HSi := Lib.hid (fun w' (h : Below W0.heap.size W0 w') => implShortForm Aa ca _ xs p f u w' (R1'.below h) l1)
    have HSs := Lib.hid (fun w' (h : Below W0.heap.size W0 w') => specShortForm Aa ca _ xs p f u w' (R1'.below h) l1)
    have HVn := Lib.hid (fun Ab cb w' (h : Below W0.heap.size W0 w') (hb : Rdn w' Ab xs.length xs) (hc : xs.length ≤ cb) => (vName_any Ab Aa cb ca _ _ xs xs p f u p f u w' hb (R1'.below h) (by omega) (by omega) hc hca).mono (fun e w2 h9 => (⟨h9.1.trans (by simp), h9.2⟩ : e = .returned (.bool true) ∧ Below w'.heap.size w' w2)))
    have HDp := Lib.hid (fun w' (h : Below W0.heap.size W0 w') => drawPi_any A n c w' (by omega) (rdb_below HR.out HA.out (HB.out.trans (h.mono HB.out.size))) (fun hp a ha => Nat.lt_of_lt_of_le (HA.out hp a ha) (HB.out.trans (h.mono HB.out.size)).size))
    rw [hts] at HI1
    rw [hts2] at HFu
    rw [hts3] at HSi HSs
    have HS1 := Lib.hid hs1
    have HS21 := Lib.hid hs21
    have HW0 := Lib.hid hW0
    clear hts hts2 hts3 hs1 hs0 hs21 hW0 R1 R1' l1 hX hp hf hs hk b1 HCa HR HA HM hlen
    generalize hro : okN xs p f u = r at *
    have HRo := Lib.hid hro
    clear hro
    go_wp2_with fail
    rw [← HW0.out]
    refine (HI1.out _ (Below.refl _ _)).mono ?_
    rintro e w2 ⟨rfl, k2⟩
    go_wp2_with fail
    refine (HPi.out s _ k2 hss).mono ?_
    rintro e w3 ⟨v3, ys, p2, f2, u2, r2, rfl, hP, ho3, b3⟩
    obtain ⟨Ab, cb, rfl, hcb, R3⟩ := rdn_own ho3
    have k3 := k2.trans (b3.mono k2.size)
    have HP := Lib.hid hP
    clear b3 k2 ho3 hP
    have hk1 : Below w3.heap.size w3 (w3.alloc (.cells #[.slice Ab ys.length cb, .string p2, .string f2, .string u2] 26)) := (Below.refl _ w3).alloc (Nat.le_refl _) _
    have HCb := Lib.hid (C4.new w3 (.slice Ab ys.length cb) p2 f2 u2 26)
    have R4 := Lib.hid (R3.below hk1)
    have k4 := k3.trans (hk1.mono k3.size)
    clear hk1 R3 k3
    obtain ⟨_, a0, a1, a2, a3⟩ := HKA.out _ k4
    go_wp2_with fail
    clear a0 a1 a2 a3
    refine (HVs.out _ k4).mono ?_
    rintro e w5 ⟨rfl, b5⟩
    have k5 := k4.trans (b5.mono k4.size)
    have HCb5 := Lib.hid (HCb.out.below b5)
    have R5 := Lib.hid (R4.out.below b5)
    clear b5 k4 HCb R4
    obtain ⟨_, a0, a1, a2, a3⟩ := HKA.out _ k5
    go_wp2_with fail
    clear a0 a1 a2 a3
    refine (HVi.out _ k5).mono ?_
    rintro e w6 ⟨rfl, b6⟩
    have k6 := k5.trans (b6.mono k5.size)
    have HCb6 := Lib.hid (HCb5.out.below b6)
    have R6 := Lib.hid (R5.out.below b6)
    clear b6 k5 HCb5 R5
    obtain ⟨_, a0, a1, a2, a3⟩ := HKA.out _ k6
    obtain ⟨_, q0, q1, q2, q3⟩ := HCb6.out
    cases r with
    | false =>
      clear HP HCb6 R6
      go_wp2_with fail
      refine (HDp.out _ k6).mono ?_
      rintro e w8 ⟨t, rfl, htz, b8⟩
      have k8 := k6.trans (b8.mono k6.size)
      clear b8 k6
      go_wp2_with fail
      refine (HPi.out t _ k8 (by omega)).mono ?_
      rintro e w9 ⟨v9, zs, p3, f3, u3, r3, rfl, hP3, ho9, b9⟩
      obtain ⟨Ac, cc, rfl, hcc, R9⟩ := rdn_own ho9
      have k9 := k8.trans (b9.mono k8.size)
      have hk9 : Below w9.heap.size w9 (w9.alloc (.cells #[.slice Ac zs.length cc, .string p3, .string f3, .string u3] 26)) := (Below.refl _ w9).alloc (Nat.le_refl _) _
      have k10 := k9.trans (hk9.mono k9.size)
      have l3 := read_lim hP3
      obtain ⟨t2, hts9, ht1, ht0⟩ := tx_at (invL zs p3 f3 u3) (okN zs p3 f3 u3)
      have HI9 := Lib.hid (Forms.implInverseForm Ac cc _ zs p3 f3 u3 _ (R9.below hk9) hcc l3)
      rw [hts9] at HI9
      have ht2 := read_end hP3 ht1
      generalize okN zs p3 f3 u3 = r9 at *
      clear b9 k8 ho9 R9 hk9 l3 hts9 ht1 ht0 hP3 k9
      have H2 : Hid (r3 = true → t2 = t ∧ r9 = true) := Lib.hid ht2
      clear ht2
      have htt : (t.toList == t.toList) = true := by simp
      have htt' : (t.toList != t.toList) = false := by simp
      cases r3
      all_goals
        first | (obtain ⟨rfl, rfl⟩ := H2.out rfl) | skip
        clear H2
        go_wp2_with fail
        refine HI9.out.mono ?_
        rintro e w11 ⟨rfl, b11⟩
        have k11 := k10.trans (b11.mono k10.size)
        clear b11 k10
        obtain ⟨_, a0, a1, a2, a3⟩ := HKA.out _ k11
        go_wp2_with fail
        clear a0 a1 a2 a3
        refine (HFu.out _ k11).mono ?_
        rintro e w12 ⟨rfl, b12⟩
        have k12 := k11.trans (b12.mono k11.size)
        clear b12 k11
        obtain ⟨_, a0, a1, a2, a3⟩ := HKA.out _ k12
        go_wp2_with fail
        clear a0 a1 a2 a3
        refine (HSi.out _ k12).mono ?_
        rintro e w13 ⟨rfl, b13⟩
        have k13 := k12.trans (b13.mono k12.size)
        clear b13 k12
        obtain ⟨_, a0, a1, a2, a3⟩ := HKA.out _ k13
        go_wp2_with fail
        clear a0 a1 a2 a3
        refine (HSs.out _ k13).mono ?_
        rintro e w14 ⟨rfl, b14⟩
        have k14 := k13.trans (b14.mono k13.size)
        clear b14 k13
        obtain ⟨_, a0, a1, a2, a3⟩ := HKA.out _ k14
        have hss3 : (s3.toList == s3.toList) = true := by simp
        by_cases hu : u = ⟨#[]⟩
        · subst hu
          go_wp2_with fail
          go_ret
          exact ⟨rfl, HB.out.trans (k14.mono HB.out.size)⟩
        · obtain ⟨hne1, hne2⟩ := ne_em hu
          go_wp2_with fail
          go_ret
          exact ⟨rfl, HB.out.trans (k14.mono HB.out.size)⟩
    | true =>
      obtain ⟨rfl, rfl, rfl, rfl, rfl⟩ := NfPl.back_same HRo.out (HS1.out rfl) HP.out
      clear HP HCb6
      go_wp2_with fail
      clear a0 a1 a2 a3 q0 q1 q2 q3
      refine (HVn.out _ _ _ k6 R6.out hcb).mono ?_
      rintro e w7 ⟨rfl, b7⟩
      have k7 := k6.trans (b7.mono k6.size)
      clear b7 k6 R6
      go_wp2_with fail
      refine (HDp.out _ k7).mono ?_
      rintro e w8 ⟨t, rfl, htz, b8⟩
      have k8 := k7.trans (b8.mono k7.size)
      clear b8 k7
      go_wp2_with fail
      refine (HPi.out t _ k8 (by omega)).mono ?_
      rintro e w9 ⟨v9, zs, p3, f3, u3, r3, rfl, hP3, ho9, b9⟩
      obtain ⟨Ac, cc, rfl, hcc, R9⟩ := rdn_own ho9
      have k9 := k8.trans (b9.mono k8.size)
      have hk9 : Below w9.heap.size w9 (w9.alloc (.cells #[.slice Ac zs.length cc, .string p3, .string f3, .string u3] 26)) := (Below.refl _ w9).alloc (Nat.le_refl _) _
      have k10 := k9.trans (hk9.mono k9.size)
      have l3 := read_lim hP3
      obtain ⟨t2, hts9, ht1, ht0⟩ := tx_at (invL zs p3 f3 u3) (okN zs p3 f3 u3)
      have HI9 := Lib.hid (Forms.implInverseForm Ac cc _ zs p3 f3 u3 _ (R9.below hk9) hcc l3)
      rw [hts9] at HI9
      have ht2 := read_end hP3 ht1
      generalize okN zs p3 f3 u3 = r9 at *
      clear b9 k8 ho9 R9 hk9 l3 hts9 ht1 ht0 hP3 k9
      have H2 : Hid (r3 = true → t2 = t ∧ r9 = true) := Lib.hid ht2
      clear ht2
      have htt : (t.toList == t.toList) = true := by simp
      have htt' : (t.toList != t.toList) = false := by simp
      cases r3
      all_goals
        first | (obtain ⟨rfl, rfl⟩ := H2.out rfl) | skip
        clear H2
        go_wp2_with fail
        refine HI9.out.mono ?_
        rintro e w11 ⟨rfl, b11⟩
        have k11 := k10.trans (b11.mono k10.size)
        clear b11 k10
        obtain ⟨_, a0, a1, a2, a3⟩ := HKA.out _ k11
        go_wp2_with fail
        clear a0 a1 a2 a3
        refine (HFu.out _ k11).mono ?_
        rintro e w12 ⟨rfl, b12⟩
        have k12 := k11.trans (b12.mono k11.size)
        clear b12 k11
        obtain ⟨_, a0, a1, a2, a3⟩ := HKA.out _ k12
        go_wp2_with fail
        clear a0 a1 a2 a3
        refine (HSi.out _ k12).mono ?_
        rintro e w13 ⟨rfl, b13⟩
        have k13 := k12.trans (b13.mono k12.size)
        clear b13 k12
        obtain ⟨_, a0, a1, a2, a3⟩ := HKA.out _ k13
        go_wp2_with fail
        clear a0 a1 a2 a3
        refine (HSs.out _ k13).mono ?_
        rintro e w14 ⟨rfl, b14⟩
        have k14 := k13.trans (b14.mono k13.size)
        clear b14 k13
        obtain ⟨_, a0, a1, a2, a3⟩ := HKA.out _ k14
        have hss3 : (s3.toList == s3.toList) = true := by simp
        obtain ⟨d, hd1, hd2⟩ := tail_of ys p2 f2 u2 s2 (HS21.out (by first | rfl | trivial))
        have hd3 : d ≤ s2.size := by omega
        have hz2 : s2.size ≤ 2097152 := HS22.out (by first | rfl | trivial)
        have hwd : IntKind.i64.wrap (d : Int) = (d : Int) := IntWalk.i64_in _ (by omega)
        have hd4 : (d : Int) ≤ (s2.size : Int) := by omega
        have hd5 : (0 : Int) ≤ (d : Int) := Int.natCast_nonneg _
        by_cases hu : u2 = ⟨#[]⟩
        · subst hu
          have e1 : NfPl.lastT f2 ⟨#[]⟩ = f2 := by unfold NfPl.lastT; exact if_pos rfl
          rw [e1] at hd1 hd2
          have hg : decide ((f2.size : Int) ≤ (s2.size : Int)) = true := by simp; omega
          have hw : (s2.size : Int) - (f2.size : Int) = (d : Int) := by omega
          have hff : (f2.toList == f2.toList) = true := by simp
          clear hd1 e1
          go_wp2_with fail
          go_ret
          exact ⟨rfl, HB.out.trans (k14.mono HB.out.size)⟩
        · obtain ⟨hne1, hne2⟩ := ne_em hu
          have e1 : NfPl.lastT f2 u2 = u2 := by unfold NfPl.lastT; exact if_neg hu
          rw [e1] at hd1 hd2
          have hg : decide ((u2.size : Int) ≤ (s2.size : Int)) = true := by simp; omega
          have hw : (s2.size : Int) - (u2.size : Int) = (d : Int) := by omega
          have huu : (u2.toList == u2.toList) = true := by simp
          clear hd1 e1
          go_wp2_with fail
          go_ret
          exact ⟨rfl, HB.out.trans (k14.mono HB.out.size)⟩

set_option maxRecDepth 100000 in
theorem lifted (os : Os) (started : os.Started) (H : Type) (enc : TypeId × Value → H) :
    ReturnsInHanded {} Tryd.checked os 3 .any (fun w args => (Rows.fnNameFormsSpec.pre enc Tryd.prog Tryd.f3 Rows.fnNameFormsRow.domain false w args ∧ laidMetH Tryd.prog Rows.fnNameFormsRow.laid w) ∧ sizedMet enc Tryd.prog Tryd.f3 (OpenSpec.ofChange Rows.fnNameFormsSpec) false w args)
      (Rows.fnNameFormsSpec.post enc Tryd.prog Tryd.f3 false true false false) := by
  refine change_and_shaped (C := Tryd.checked) (X := fun w _ => laidMetH Tryd.prog Rows.fnNameFormsRow.laid w) (fun _ _ _ hh h => h.of_heap hh) own started (by kernel_rfl) Tryd.func3
    (ChangeSpec.witness_shaped (enc := enc) (C := Tryd.checked) (os := os) (X := fun w _ => laidMetH Tryd.prog Rows.fnNameFormsRow.laid w) false (World.laidAll Tryd.prog os Rows.fnNameFormsRow.laid) #[.slice none 0 0] 8 (World.laidAll_os _ _ _)
      (World.shaped_of_ZipB (by kernel_rfl) (by kernel_rfl)) (by kernel_rfl) (by kernel_rfl) (by kernel_rfl)
      (by rw [MakeChecks.laidMetH_plain _ _ _ (by kernel_rfl)]; exact laidMet_laidAll _ (by kernel_rfl) (by kernel_rfl))) ?_
  intro W base args ds gs before hval0 hW hL hsh
  have hval : ∀ (j : Nat) t v, Tryd.f3.params[j]? = some t → args[j]? = some v → Value.okWide Tryd.prog W .any base t v := hval0
  have hW' := hW
  obtain ⟨p, q, hA0, hV, rfl, hfz, hnd⟩ := hW
  have hA : DataW.TrodAll enc Tryd.prog W 0 (fun _ => true) true Tryd.f3.params.toList args.toList ds p := hA0
  rw [Tryd.params3] at hA hval
  obtain ⟨v0, vs0, d0, ds0, p0, q0, hargs, rfl, rfl, h0, r0⟩ := trodAll_cons hA
  obtain ⟨rfl, rfl, rfl⟩ := trodAll_nil r0
  obtain rfl : args = #[v0] := by cases args; simp_all
  obtain ⟨rfl, rfl⟩ := trodVars_none hV
  have k0 := h0
  have lt0 : ∀ x ∈ p0, x.block < W.heap.size := by obtain ⟨m, hm⟩ := k0; exact DataW.trod_lt m _ _ _ hm
  obtain ⟨A0, n0, c0, rfl, rd0, ap0⟩ := open_bytes (hval 0 22 v0 rfl rfl) h0
  clear hA0 hval0
  refine (walk A0 n0 c0 W rd0 ap0 hsh).mono fun e W' ⟨he, bel⟩ => ?_
  subst he
  exact ⟨_, rfl, _, _, _, [], _, [], hW', trodAll_mk1 (shut_bool Tryd.underlying4 _), (trodAll_cons_mk (Below.trod laidOut (by kernel_rfl) (of_decide_eq_true (by kernel_rfl)) k0 bel lt0) trodAll_mk0), rfl, bel.frame _, fun h => by cases h⟩

theorem closed : joinedFacts Tryd.pinned.checked.prog 3 Tryd.f3 Rows.fnNameFormsSpec Rows.fnNameFormsRow = true := by kernel_rfl
theorem over : Rows.fnNameFormsRow.holds Tryd.pinned (OpenSpec.ofChange Rows.fnNameFormsSpec) :=
  OpenClaim.holds_of_wide 3 Tryd.f3 rfl rfl rfl rfl rfl rfl rfl ⟨rfl, rfl, rfl, rfl, rfl⟩ rfl rfl rfl rfl rfl (by kernel_rfl) Tryd.func3 closed
    (of_decide_eq_true (by kernel_rfl)) (by unfold Func.isWrapper; first | (rw [if_pos (by decide +kernel)]; kernel_rfl) | (rw [if_neg (by decide +kernel)]; exact ⟨rfl, rfl⟩))
    (fun os started H enc _ => lifted os started H enc)

theorem plain (f : FuncId) (fn : Func) (hf : Tryd.pinned.checked.prog.funcNamed "loop.example/g00896/laws.FnNameForms" = some f) (hfn : Tryd.pinned.checked.prog.funcs[f]? = some fn) :
    false = Tryd.pinned.checked.prog.looks [] ∧ ∀ (j : Nat) t, fn.params[j]? = some t → Tryd.pinned.checked.prog.wantsStandIn t = false := by
  obtain rfl : f = 3 := Option.some.inj ((show Tryd.prog.funcNamed "loop.example/g00896/laws.FnNameForms" = some 3 by kernel_rfl).symm.trans hf) |>.symm
  obtain rfl : fn = Tryd.f3 := (Option.some.inj (Tryd.func3.symm.trans hfn)).symm
  refine ⟨by kernel_rfl, fun j t ht => ?_⟩
  rw [Tryd.params3] at ht
  obtain rfl : t = 22 := by simpa using Array.mem_of_getElem? ht
  exact (show Tryd.prog.wantsStandIn 22 = false by kernel_rfl)

theorem card : Rows.FnNameFormsCardSaid :=
  Claim7.holds_tied_plain_at .later [] _ _ _ _ over (fun _ h => by cases h) (by kernel_rfl) (fun _ h => by cases h) fnNameForms_row_tie rfl ⟨rfl, rfl⟩ (by kernel_rfl) rfl plain (by kernel_rfl)
#print axioms card
end Go.Proofs.YtmdjdgamojndkaaDoor.fnNameForms
