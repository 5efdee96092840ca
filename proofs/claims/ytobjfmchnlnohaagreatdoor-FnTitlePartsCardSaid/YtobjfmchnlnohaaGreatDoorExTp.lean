/-
  Proved: for every code of bytes the law FnTitleParts returns true; the argument reads as before. The listed tables of the library lie as the program's text and the pinned constants lay them (the card ties them). No further condition.
-/
import Derived.Test.YtobjfmchnlnohaaGreatDoorRows
import Derived.Test.YtobjfmchnlnohaaGreatDoorTpV
import Derived.Test.YtobjfmchnlnohaaGreatDoorDp
import Derived.Test.YtobjfmchnlnohaaGreatDoorOpenB
import Derived.Test.YtobjfmchnlnohaaGreatDoorAndSh
import Derived.WalkKit
import Derived.Stop.LaidErr
import Derived.Lib.LaidTab
import Derived.WalkSmall
import Derived.ProofKit
import Derived.OpenShut
import Derived.ShutString
import Derived.ChangeOld
import Derived.Below
import Derived.Lib.SmallJoins
import Derived.Test.YtobjfmchnlnohaaGreatDoorCards
import Derived.Test.YtobjfmchnlnohaaGreatDoorTie
import Derived.LaidMore
import Derived.Lay
import Derived.SevenTiedAt
import Derived.Stop.Joined
namespace Go.Proofs.YtobjfmchnlnohaaGreatDoor.fnTitleParts
open Go.ChangeShapes Go.WideShapes Go.ChangeAt Go.RowKit
open Go.ChangeMaps (open_string shut_string)
open Pl SplitPl Ti TiPl Cur Draw0 Dw OpenB Jo So Mk Sh Po Tp Kt
set_option linter.unusedVariables false
set_option linter.unusedSimpArgs false

theorem ml_of {w : World} (h : w.ShapedOpen Tryz.prog) : ML w := Tryz.laysM144.s1_3 w h
theorem gT : (Tryz.prog.globals[0]?).map (·.type) = some 71 := by kernel_rfl
theorem tabE : (Rows.laid_strings_asciiSpace : DataW Unit) = Lib.tabData .u8 Lib.asciiSpaceTab := by kernel_rfl
theorem sp_of {W : World} (h : laidMet Tryz.prog Rows.fnTitlePartsRow.laid W) : SpT W := by
  have h' : laidMet Tryz.prog (("unicode/utf8.acceptRanges", Rows.laid_unicode_utf8_acceptRanges) :: ("unicode.White_Space", Rows.laid_unicode_White_Space) :: ("bytes.ErrTooLarge", Rows.laid_bytes_ErrTooLarge) :: ("strings.asciiSpace", Rows.laid_strings_asciiSpace) :: [("unicode.CaseRanges", Rows.laid_unicode_CaseRanges), ("unicode/utf8.first", Rows.laid_unicode_utf8_first)]) W := h
  have h3 := h'.tail.tail.tail
  rw [tabE] at h3
  exact Lib.tabIs_of_head gSp gT Tryz.underlying71 Tryz.underlying5 (by kernel_rfl) (by kernel_rfl) h3
structure Pm (w : World) : Prop where
  ml : ML w
  sp : SpT w
theorem Pm.below {w w' : World} (h : Pm w) (hb : Below w.heap.size w w') : Pm w' := ⟨h.ml.below hb, h.sp.below hb⟩
theorem cat_ne {b : ByteArray} (h : 0 < b.size) : (b.toList == []) = false ∧ b.toList.isEmpty = false := Dw.ne_of_pos h

set_option maxRecDepth 100000 in
set_option maxHeartbeats 8000000 in
theorem walk (A : Option Addr) (n c : Nat) (w : World) (hr : RdB w A n) (ha : Apart A n w.heap.size) (hT : SpT w) (hsh : w.ShapedOpen Tryz.prog) :
    Calls Tryz.prog 3 #[.slice A n c] w fun e w' => e = .returned (.bool true) ∧ Below w.heap.size w w' := by
  have HR := Lib.hid hr
  have HA := Lib.hid ha
  have HM := Lib.hid (Pm.mk (ml_of hsh) hT)
  clear hr ha hsh hT
  by_cases hbig : 65536 < n
  · go_enter Tryz.func3, Tryz.ntmps3
    go_wp2_with fail
    refine (rBig_any A n c _ true (by simp; omega)).mono ?_
    rintro e w' ⟨rfl, rfl⟩
    go_wp2_with fail
    go_ret
    exact ⟨rfl, Below.refl _ _⟩
  · go_enter Tryz.func3, Tryz.ntmps3
    go_wp2_with fail
    refine (rBig_any A n c _ false (by simp; omega)).mono ?_
    rintro e w' ⟨rfl, rfl⟩
    go_wp2_with fail
    refine (drawProt_any A n c _ (by omega) HR.out HA.out HM.out.ml).mono ?_
    rintro e w1 ⟨s, u, hs, hu, rfl, b1⟩
    have K1 := Lib.hid b1
    clear b1 HR HA
    have HWi := Lib.hid (Wt.implWords s (by omega))
    have HWs := Lib.hid (Wt.specWords s (by omega))
    have hlen := Wt.answer_len s.data.toList (by rw [len_size]; omega)
    cases hok : okT s.data.toList with
    | false =>
      rw [hok] at HWi HWs
      obtain ⟨ws, hws⟩ : ∃ ws, Wt.answer s.data.toList = ws := ⟨_, rfl⟩
      rw [hws] at HWi HWs hlen
      obtain ⟨nw, hnw⟩ : ∃ nw, ws.length = nw := ⟨_, rfl⟩
      have HN := Lib.hid hnw
      have HWS := Lib.hid hws
      rw [hnw] at hlen
      have hok' := Lib.hid hok
      clear hok hws
      go_wp2_with fail
      refine (HWi.out _ (HM.out.below K1.out).ml).mono ?_
      rintro e w2 ⟨vi, rfl, oi, b2⟩
      have K2 := Lib.hid (K1.out.trans (b2.mono K1.out.size))
      have OI2 := Lib.hid oi
      clear b2 K1 oi
      go_wp2_with fail
      refine (HWs.out _ (HM.out.below K2.out).ml).mono ?_
      rintro e w3 ⟨vs, rfl, os, b3⟩
      have K3 := Lib.hid (K2.out.trans (b3.mono K2.out.size))
      have oi := Strs.own_below OI2.out b3
      rw [hnw] at oi os
      obtain ⟨Ai, ci, rfl, -, ri, -⟩ := Strs.own_rds oi
      obtain ⟨As, cs, rfl, -, rs, -⟩ := Strs.own_rds os
      have HRt := Lib.hid (rTexts_same Ai As ci cs nw ws w3 ri rs hnw hlen)
      have RI := Lib.hid ri
      clear b3 K2 oi os OI2 ri rs HWi HWs hnw
      go_wp2_with fail
      refine HRt.out.mono ?_
      rintro e w4 ⟨rfl, q, rfl⟩
      have K4 := Lib.hid (below_drewN K3.out q)
      clear HRt K3
      go_wp2_with fail
      go_ret
      exact ⟨rfl, K4.out⟩
    | true =>
      obtain ⟨J, j0, jz, j1, j2, je, jx⟩ := word_vals s hs hok
      rw [hok] at HWi HWs
      obtain ⟨ws, hws⟩ : ∃ ws, Wt.answer s.data.toList = ws := ⟨_, rfl⟩
      rw [hws] at HWi HWs hlen
      obtain ⟨nw, hnw⟩ : ∃ nw, ws.length = nw := ⟨_, rfl⟩
      have HN := Lib.hid hnw
      have HWS := Lib.hid hws
      rw [hnw] at hlen
      have hok' := Lib.hid hok
      clear hok hws
      go_wp2_with fail
      refine (HWi.out _ (HM.out.below K1.out).ml).mono ?_
      rintro e w2 ⟨vi, rfl, oi, b2⟩
      have K2 := Lib.hid (K1.out.trans (b2.mono K1.out.size))
      have OI2 := Lib.hid oi
      clear b2 K1 oi
      go_wp2_with fail
      refine (HWs.out _ (HM.out.below K2.out).ml).mono ?_
      rintro e w3 ⟨vs, rfl, os, b3⟩
      have K3 := Lib.hid (K2.out.trans (b3.mono K2.out.size))
      have oi := Strs.own_below OI2.out b3
      rw [hnw] at oi os
      obtain ⟨Ai, ci, rfl, -, ri, -⟩ := Strs.own_rds oi
      obtain ⟨As, cs, rfl, -, rs, -⟩ := Strs.own_rds os
      have HRt := Lib.hid (rTexts_same Ai As ci cs nw ws w3 ri rs hnw hlen)
      have RI := Lib.hid ri
      clear b3 K2 oi os OI2 ri rs HWi HWs hnw
      go_wp2_with fail
      refine HRt.out.mono ?_
      rintro e w4 ⟨rfl, q, rfl⟩
      have K4 := Lib.hid (below_drewN K3.out q)
      clear HRt K3
      rw [HWS.out] at j1 j2 je jx
      rw [HN.out] at je
      have HJ0 := Lib.hid j0
      have HJz := Lib.hid jz
      have HJ1 := Lib.hid j1
      have HJ2 := Lib.hid j2
      have HJe := Lib.hid je
      have HJx := Lib.hid jx
      clear j0 jz j1 j2 je jx HWS
      go_wp2_with fail
      go_loopw [9, 10] (fun v i wr => ∃ (k : Nat) (b : ByteArray), k ≤ nw ∧ i = .int .i64 k ∧ v = .string b ∧ Hid (b = J k) ∧ ∃ q', wr = w3.drewN q') (fun _ i _ => nw - (intOf i).toNat)
      case atStart => exact ⟨0, _, Nat.zero_le _, rfl, rfl, Lib.hid HJ0.out.symm, q, rfl⟩
      case round =>
        obtain ⟨k, b, hk, rfl, rfl, HB, q', rfl⟩ := hrel
        have hbz : b.size ≤ 1000 := by rw [HB.out]; exact HJz.out k
        have hk0 : (0 : Int) ≤ (k : Int) := Int.natCast_nonneg _
        by_cases hlt : k < nw
        · have hkx : k < ws.length := by rw [HN.out]; exact hlt
          have hx? := List.getElem?_eq_getElem hkx
          obtain ⟨g1, o1, rfl, hc1⟩ := RI.out k ws[k] hx?
          have hxz := HJx.out k _ hx?
          have HS1 : Hid (k = 0 → J 1 = J 0 ++ ws[k]) := Lib.hid (fun e => by subst e; exact HJ1.out _ hx?)
          have HS2 : Hid (0 < k → J (k + 1) = J k ++ (⟨#[32]⟩ : ByteArray) ++ ws[k]) := Lib.hid (fun e => HJ2.out k _ e hx?)
          clear hx?
          generalize ws[k] = x at *
          have hk1 : (k : Int) < (nw : Int) := by omega
          by_cases h0 : k = 0
          · have h0' : ¬ (0 : Int) < (k : Int) := by omega
            have HE : Hid (b ++ x = J (k + 1)) := Lib.hid (by rw [HB.out, h0, HS1.out h0])
            clear h0
            go_wp2_with fail
            go_roundw
            case rel => exact ⟨k + 1, b ++ x, by omega, by go_num, rfl, HE, q', rfl⟩
            case measure => simp [intOf]; omega
          · have h0' : (0 : Int) < (k : Int) := by omega
            have hsz : (b ++ (⟨#[32]⟩ : ByteArray)).size = b.size + 1 := by rw [ByteArray.size_append]; rfl
            have HE : Hid (b ++ (⟨#[32]⟩ : ByteArray) ++ x = J (k + 1)) := Lib.hid (by rw [HS2.out (by omega), HB.out])
            go_wp2_with fail
            go_roundw
            case rel => exact ⟨k + 1, b ++ (⟨#[32]⟩ : ByteArray) ++ x, by omega, by go_num, rfl, HE, q', rfl⟩
            case measure => simp [intOf]; omega
        · obtain rfl : k = nw := by omega
          have hbs : s = b := by rw [HB.out, HJe.out]
          subst hbs
          have K5 := Lib.hid (show Below w.heap.size w (w3.drewN q') from ⟨K4.out.os, K4.out.tape, K4.out.output, K4.out.size, K4.out.block⟩)
          clear HB K4 RI HJ0 HJz HJ1 HJ2 HJe HJx HN hlen
          generalize w3.drewN q' = w5 at *
          have HSi := Lib.hid (fun w ml => implSub s w ml (by omega))
          have HSs := Lib.hid (fun w => specSub s w (by omega))
          rcases sub_vals s hok'.out with hsv | ⟨m, b, hsv, hmz, hbz2, hcat⟩ | hsv
          · rw [hsv] at HSi HSs
            have HHi := Lib.hid (fun w ml => implShort s 20 s ⟨#[]⟩ true w ml (by omega) hsv (by omega))
            have HHs := Lib.hid (fun w => specShort s 20 s ⟨#[]⟩ true w (by omega) hsv (by omega))
            obtain ⟨z, hz⟩ := short_val s
            rw [hz] at HHi HHs
            clear hz
            clear hsv
            go_wp2_with fail
            refine (HSi.out _ (HM.out.below K5.out).ml).mono ?_
            rintro e w6 ⟨rfl, b6⟩
            have K6 := Lib.hid (K5.out.trans (b6.mono K5.out.size))
            clear b6 K5
            go_wp2_with fail
            refine (HSs.out _).mono ?_
            rintro e w7 ⟨rfl, b7⟩
            have K7 := Lib.hid (K6.out.trans (b7.mono K6.out.size))
            clear b7 K6
            go_wp2_with fail
            refine (HHi.out _ (HM.out.below K7.out).ml).mono ?_
            rintro e w8 ⟨rfl, b8⟩
            have K8 := Lib.hid (K7.out.trans (b8.mono K7.out.size))
            clear b8 K7
            go_wp2_with fail
            refine (HHs.out _).mono ?_
            rintro e w9 ⟨rfl, b9⟩
            have K9 := Lib.hid (K8.out.trans (b9.mono K8.out.size))
            clear b9 K8
            have HPi := Lib.hid (fun w ml => prot_i s u w ml (by omega) (by omega))
            have HPs := Lib.hid (fun w => prot_s s u w (by omega) (by omega))
            rcases prot_vals s u hok'.out with ⟨p, hp, hv, hpo, hpe⟩ | hv
            · rw [hv] at HPi HPs
              obtain ⟨t, qq, v1, v2, v3, v4⟩ := same_vals s p hok'.out hpo hpe
              have HA1 := Lib.hid (fun w ml => (show Calls Tryz.prog 15 #[.string s] w (fun e w' => e = .returned (pnV s) ∧ Below w.heap.size w w') from PlT.implPlain s w ml (by omega)))
              have HA2 := Lib.hid (fun w ml => (show Calls Tryz.prog 15 #[.string p] w (fun e w' => e = .returned (pnV p) ∧ Below w.heap.size w w') from PlT.implPlain p w ml (by omega)))
              have HA3 := Lib.hid (fun w ml sp => sortTitle_i s w ml sp (by omega))
              have HA4 := Lib.hid (fun w ml sp => sortTitle_i p w ml sp (by omega))
              rw [v1] at HA1
              rw [v2] at HA2
              rw [v3] at HA3
              rw [v4] at HA4
              clear v1 v2 v3 v4 hpo hpe
              clear hv
              go_wp2_with fail
              refine (HPi.out _ (HM.out.below K9.out).ml).mono ?_
              rintro e w10 ⟨rfl, b10⟩
              have K10 := Lib.hid (K9.out.trans (b10.mono K9.out.size))
              clear b10 K9
              go_wp2_with fail
              refine (HPs.out _).mono ?_
              rintro e w11 ⟨rfl, b11⟩
              have K11 := Lib.hid (K10.out.trans (b11.mono K10.out.size))
              clear b11 K10
              go_wp2_with fail
              refine (HA1.out _ (HM.out.below K11.out).ml).mono ?_
              rintro e w12 ⟨rfl, b12⟩
              have K12 := Lib.hid (K11.out.trans (b12.mono K11.out.size))
              clear b12 K11
              go_wp2_with fail
              refine (HA2.out _ (HM.out.below K12.out).ml).mono ?_
              rintro e w13 ⟨rfl, b13⟩
              have K13 := Lib.hid (K12.out.trans (b13.mono K12.out.size))
              clear b13 K12
              go_wp2_with fail
              refine (HA3.out _ (HM.out.below K13.out).ml (HM.out.below K13.out).sp).mono ?_
              rintro e w14 ⟨rfl, b14⟩
              have K14 := Lib.hid (K13.out.trans (b14.mono K13.out.size))
              clear b14 K13
              go_wp2_with fail
              refine (HA4.out _ (HM.out.below K14.out).ml (HM.out.below K14.out).sp).mono ?_
              rintro e w15 ⟨rfl, b15⟩
              have K15 := Lib.hid (K14.out.trans (b15.mono K14.out.size))
              clear b15 K14
              go_wp2_with fail
              go_ret
              exact ⟨rfl, K15.out⟩
            · rw [hv] at HPi HPs
              clear hv
              go_wp2_with fail
              refine (HPi.out _ (HM.out.below K9.out).ml).mono ?_
              rintro e w10 ⟨rfl, b10⟩
              have K10 := Lib.hid (K9.out.trans (b10.mono K9.out.size))
              clear b10 K9
              go_wp2_with fail
              refine (HPs.out _).mono ?_
              rintro e w11 ⟨rfl, b11⟩
              have K11 := Lib.hid (K10.out.trans (b11.mono K10.out.size))
              clear b11 K10
              go_wp2_with fail
              go_ret
              exact ⟨rfl, K11.out⟩
          · rw [hsv] at HSi HSs
            have hne := cat_ne hbz2
            obtain ⟨hne1, hne2⟩ := hne
            have hcz := congrArg ByteArray.size hcat
            rw [ByteArray.size_append, ByteArray.size_append] at hcz
            have hcc : (⟨#[58, 32]⟩ : ByteArray).size = 2 := rfl
            have HHi := Lib.hid (fun w ml => implShort s 20 m b true w ml (by omega) hsv (by omega))
            have HHs := Lib.hid (fun w => specShort s 20 m b true w (by omega) hsv (by omega))
            obtain ⟨z, hz⟩ := short_val m
            rw [hz] at HHi HHs
            clear hz
            clear hsv
            go_wp2_with fail
            refine (HSi.out _ (HM.out.below K5.out).ml).mono ?_
            rintro e w6 ⟨rfl, b6⟩
            have K6 := Lib.hid (K5.out.trans (b6.mono K5.out.size))
            clear b6 K5
            go_wp2_with fail
            refine (HSs.out _).mono ?_
            rintro e w7 ⟨rfl, b7⟩
            have K7 := Lib.hid (K6.out.trans (b7.mono K6.out.size))
            clear b7 K6
            go_wp2_with fail
            refine (HHi.out _ (HM.out.below K7.out).ml).mono ?_
            rintro e w8 ⟨rfl, b8⟩
            have K8 := Lib.hid (K7.out.trans (b8.mono K7.out.size))
            clear b8 K7
            go_wp2_with fail
            refine (HHs.out _).mono ?_
            rintro e w9 ⟨rfl, b9⟩
            have K9 := Lib.hid (K8.out.trans (b9.mono K8.out.size))
            clear b9 K8
            have HPi := Lib.hid (fun w ml => prot_i s u w ml (by omega) (by omega))
            have HPs := Lib.hid (fun w => prot_s s u w (by omega) (by omega))
            rcases prot_vals s u hok'.out with ⟨p, hp, hv, hpo, hpe⟩ | hv
            · rw [hv] at HPi HPs
              obtain ⟨t, qq, v1, v2, v3, v4⟩ := same_vals s p hok'.out hpo hpe
              have HA1 := Lib.hid (fun w ml => (show Calls Tryz.prog 15 #[.string s] w (fun e w' => e = .returned (pnV s) ∧ Below w.heap.size w w') from PlT.implPlain s w ml (by omega)))
              have HA2 := Lib.hid (fun w ml => (show Calls Tryz.prog 15 #[.string p] w (fun e w' => e = .returned (pnV p) ∧ Below w.heap.size w w') from PlT.implPlain p w ml (by omega)))
              have HA3 := Lib.hid (fun w ml sp => sortTitle_i s w ml sp (by omega))
              have HA4 := Lib.hid (fun w ml sp => sortTitle_i p w ml sp (by omega))
              rw [v1] at HA1
              rw [v2] at HA2
              rw [v3] at HA3
              rw [v4] at HA4
              clear v1 v2 v3 v4 hpo hpe
              clear hv
              go_wp2_with fail
              refine (HPi.out _ (HM.out.below K9.out).ml).mono ?_
              rintro e w10 ⟨rfl, b10⟩
              have K10 := Lib.hid (K9.out.trans (b10.mono K9.out.size))
              clear b10 K9
              go_wp2_with fail
              refine (HPs.out _).mono ?_
              rintro e w11 ⟨rfl, b11⟩
              have K11 := Lib.hid (K10.out.trans (b11.mono K10.out.size))
              clear b11 K10
              go_wp2_with fail
              refine (HA1.out _ (HM.out.below K11.out).ml).mono ?_
              rintro e w12 ⟨rfl, b12⟩
              have K12 := Lib.hid (K11.out.trans (b12.mono K11.out.size))
              clear b12 K11
              go_wp2_with fail
              refine (HA2.out _ (HM.out.below K12.out).ml).mono ?_
              rintro e w13 ⟨rfl, b13⟩
              have K13 := Lib.hid (K12.out.trans (b13.mono K12.out.size))
              clear b13 K12
              go_wp2_with fail
              refine (HA3.out _ (HM.out.below K13.out).ml (HM.out.below K13.out).sp).mono ?_
              rintro e w14 ⟨rfl, b14⟩
              have K14 := Lib.hid (K13.out.trans (b14.mono K13.out.size))
              clear b14 K13
              go_wp2_with fail
              refine (HA4.out _ (HM.out.below K14.out).ml (HM.out.below K14.out).sp).mono ?_
              rintro e w15 ⟨rfl, b15⟩
              have K15 := Lib.hid (K14.out.trans (b15.mono K14.out.size))
              clear b15 K14
              go_wp2_with fail
              go_ret
              exact ⟨rfl, K15.out⟩
            · rw [hv] at HPi HPs
              clear hv
              go_wp2_with fail
              refine (HPi.out _ (HM.out.below K9.out).ml).mono ?_
              rintro e w10 ⟨rfl, b10⟩
              have K10 := Lib.hid (K9.out.trans (b10.mono K9.out.size))
              clear b10 K9
              go_wp2_with fail
              refine (HPs.out _).mono ?_
              rintro e w11 ⟨rfl, b11⟩
              have K11 := Lib.hid (K10.out.trans (b11.mono K10.out.size))
              clear b11 K10
              go_wp2_with fail
              go_ret
              exact ⟨rfl, K11.out⟩
          · rw [hsv] at HSi HSs
            clear hsv
            go_wp2_with fail
            refine (HSi.out _ (HM.out.below K5.out).ml).mono ?_
            rintro e w6 ⟨rfl, b6⟩
            have K6 := Lib.hid (K5.out.trans (b6.mono K5.out.size))
            clear b6 K5
            go_wp2_with fail
            refine (HSs.out _).mono ?_
            rintro e w7 ⟨rfl, b7⟩
            have K7 := Lib.hid (K6.out.trans (b7.mono K6.out.size))
            clear b7 K6
            have HPi := Lib.hid (fun w ml => prot_i s u w ml (by omega) (by omega))
            have HPs := Lib.hid (fun w => prot_s s u w (by omega) (by omega))
            rcases prot_vals s u hok'.out with ⟨p, hp, hv, hpo, hpe⟩ | hv
            · rw [hv] at HPi HPs
              obtain ⟨t, qq, v1, v2, v3, v4⟩ := same_vals s p hok'.out hpo hpe
              have HA1 := Lib.hid (fun w ml => (show Calls Tryz.prog 15 #[.string s] w (fun e w' => e = .returned (pnV s) ∧ Below w.heap.size w w') from PlT.implPlain s w ml (by omega)))
              have HA2 := Lib.hid (fun w ml => (show Calls Tryz.prog 15 #[.string p] w (fun e w' => e = .returned (pnV p) ∧ Below w.heap.size w w') from PlT.implPlain p w ml (by omega)))
              have HA3 := Lib.hid (fun w ml sp => sortTitle_i s w ml sp (by omega))
              have HA4 := Lib.hid (fun w ml sp => sortTitle_i p w ml sp (by omega))
              rw [v1] at HA1
              rw [v2] at HA2
              rw [v3] at HA3
              rw [v4] at HA4
              clear v1 v2 v3 v4 hpo hpe
              clear hv
              go_wp2_with fail
              refine (HPi.out _ (HM.out.below K7.out).ml).mono ?_
              rintro e w8 ⟨rfl, b8⟩
              have K8 := Lib.hid (K7.out.trans (b8.mono K7.out.size))
              clear b8 K7
              go_wp2_with fail
              refine (HPs.out _).mono ?_
              rintro e w9 ⟨rfl, b9⟩
              have K9 := Lib.hid (K8.out.trans (b9.mono K8.out.size))
              clear b9 K8
              go_wp2_with fail
              refine (HA1.out _ (HM.out.below K9.out).ml).mono ?_
              rintro e w10 ⟨rfl, b10⟩
              have K10 := Lib.hid (K9.out.trans (b10.mono K9.out.size))
              clear b10 K9
              go_wp2_with fail
              refine (HA2.out _ (HM.out.below K10.out).ml).mono ?_
              rintro e w11 ⟨rfl, b11⟩
              have K11 := Lib.hid (K10.out.trans (b11.mono K10.out.size))
              clear b11 K10
              go_wp2_with fail
              refine (HA3.out _ (HM.out.below K11.out).ml (HM.out.below K11.out).sp).mono ?_
              rintro e w12 ⟨rfl, b12⟩
              have K12 := Lib.hid (K11.out.trans (b12.mono K11.out.size))
              clear b12 K11
              go_wp2_with fail
              refine (HA4.out _ (HM.out.below K12.out).ml (HM.out.below K12.out).sp).mono ?_
              rintro e w13 ⟨rfl, b13⟩
              have K13 := Lib.hid (K12.out.trans (b13.mono K12.out.size))
              clear b13 K12
              go_wp2_with fail
              go_ret
              exact ⟨rfl, K13.out⟩
            · rw [hv] at HPi HPs
              clear hv
              go_wp2_with fail
              refine (HPi.out _ (HM.out.below K7.out).ml).mono ?_
              rintro e w8 ⟨rfl, b8⟩
              have K8 := Lib.hid (K7.out.trans (b8.mono K7.out.size))
              clear b8 K7
              go_wp2_with fail
              refine (HPs.out _).mono ?_
              rintro e w9 ⟨rfl, b9⟩
              have K9 := Lib.hid (K8.out.trans (b9.mono K8.out.size))
              clear b9 K8
              go_wp2_with fail
              go_ret
              exact ⟨rfl, K9.out⟩


set_option maxRecDepth 100000 in
theorem lifted (os : Os) (started : os.Started) (H : Type) (enc : TypeId × Value → H) :
    ReturnsInHanded {} Tryz.checked os 3 .any (fun w args => (Rows.fnTitlePartsSpec.pre enc Tryz.prog Tryz.f3 Rows.fnTitlePartsRow.domain false w args ∧ laidMetH Tryz.prog Rows.fnTitlePartsRow.laid w) ∧ sizedMet enc Tryz.prog Tryz.f3 (OpenSpec.ofChange Rows.fnTitlePartsSpec) false w args)
      (Rows.fnTitlePartsSpec.post enc Tryz.prog Tryz.f3 false true false false) := by
  refine change_and_shaped (C := Tryz.checked) (X := fun w _ => laidMetH Tryz.prog Rows.fnTitlePartsRow.laid w) (fun _ _ _ hh h => h.of_heap hh) own started (by kernel_rfl) Tryz.func3
    (ChangeSpec.witness_shaped (enc := enc) (C := Tryz.checked) (os := os) (X := fun w _ => laidMetH Tryz.prog Rows.fnTitlePartsRow.laid w) false (World.laidAll Tryz.prog os Rows.fnTitlePartsRow.laid) #[.slice none 0 0] 8 (World.laidAll_os _ _ _)
      (World.shaped_of_ZipB (by kernel_rfl) (by kernel_rfl)) (by kernel_rfl) (by kernel_rfl) (by kernel_rfl)
      (by rw [MakeChecks.laidMetH_plain _ _ _ (by kernel_rfl)]; exact laidMet_laidAll _ (by kernel_rfl) (by kernel_rfl))) ?_
  intro W base args ds gs before hval0 hW hL hsh
  rw [MakeChecks.laidMetH_plain _ _ _ (by kernel_rfl)] at hL
  have hval : ∀ (j : Nat) t v, Tryz.f3.params[j]? = some t → args[j]? = some v → Value.okWide Tryz.prog W .any base t v := hval0
  have hW' := hW
  obtain ⟨p, q, hA0, hV, rfl, hfz, hnd⟩ := hW
  have hA : DataW.TrodAll enc Tryz.prog W 0 (fun _ => true) true Tryz.f3.params.toList args.toList ds p := hA0
  rw [Tryz.params3] at hA hval
  obtain ⟨v0, vs0, d0, ds0, p0, q0, hargs, rfl, rfl, h0, r0⟩ := trodAll_cons hA
  obtain ⟨rfl, rfl, rfl⟩ := trodAll_nil r0
  obtain rfl : args = #[v0] := by cases args; simp_all
  obtain ⟨rfl, rfl⟩ := trodVars_none hV
  have k0 := h0
  have lt0 : ∀ x ∈ p0, x.block < W.heap.size := by obtain ⟨m, hm⟩ := k0; exact DataW.trod_lt m _ _ _ hm
  obtain ⟨A0, n0, c0, rfl, rd0, ap0⟩ := open_bytes (hval 0 22 v0 rfl rfl) h0
  clear hA0 hval0
  refine (walk A0 n0 c0 W rd0 ap0 (sp_of hL) hsh).mono fun e W' ⟨he, bel⟩ => ?_
  subst he
  exact ⟨_, rfl, _, _, _, [], _, [], hW', trodAll_mk1 (shut_bool Tryz.underlying4 _), (trodAll_cons_mk (Below.trod laidOut (by kernel_rfl) (of_decide_eq_true (by kernel_rfl)) k0 bel lt0) trodAll_mk0), rfl, bel.frame _, fun h => by cases h⟩

theorem closed : joinedFacts Tryz.pinned.checked.prog 3 Tryz.f3 Rows.fnTitlePartsSpec Rows.fnTitlePartsRow = true := by kernel_rfl
theorem over : Rows.fnTitlePartsRow.holds Tryz.pinned (OpenSpec.ofChange Rows.fnTitlePartsSpec) :=
  OpenClaim.holds_of_wide 3 Tryz.f3 rfl rfl rfl rfl rfl rfl rfl ⟨rfl, rfl, rfl, rfl, rfl⟩ rfl rfl rfl rfl rfl (by kernel_rfl) Tryz.func3 closed
    (of_decide_eq_true (by kernel_rfl)) (by unfold Func.isWrapper; first | (rw [if_pos (by decide +kernel)]; kernel_rfl) | (rw [if_neg (by decide +kernel)]; exact ⟨rfl, rfl⟩))
    (fun os started H enc _ => lifted os started H enc)

theorem plain (f : FuncId) (fn : Func) (hf : Tryz.pinned.checked.prog.funcNamed "loop.example/g00896/laws.FnTitleParts" = some f) (hfn : Tryz.pinned.checked.prog.funcs[f]? = some fn) :
    false = Tryz.pinned.checked.prog.looks [] ∧ ∀ (j : Nat) t, fn.params[j]? = some t → Tryz.pinned.checked.prog.wantsStandIn t = false := by
  obtain rfl : f = 3 := Option.some.inj ((show Tryz.prog.funcNamed "loop.example/g00896/laws.FnTitleParts" = some 3 by kernel_rfl).symm.trans hf) |>.symm
  obtain rfl : fn = Tryz.f3 := (Option.some.inj (Tryz.func3.symm.trans hfn)).symm
  refine ⟨by kernel_rfl, fun j t ht => ?_⟩
  rw [Tryz.params3] at ht
  obtain rfl : t = 22 := by simpa using Array.mem_of_getElem? ht
  exact (show Tryz.prog.wantsStandIn 22 = false by kernel_rfl)

theorem card : Rows.FnTitlePartsCardSaid :=
  Claim7.holds_tied_plain_at .later [] _ _ _ _ over (fun _ h => by cases h) (by kernel_rfl) (fun _ h => by cases h) fnTitleParts_row_tie rfl ⟨rfl, rfl⟩ (by kernel_rfl) rfl plain (by kernel_rfl)
#print axioms card
end Go.Proofs.YtobjfmchnlnohaaGreatDoor.fnTitleParts
