/-
  Proved: for every code of bytes the law FnJoining returns true; the argument reads as before. The listed tables lie as the program's text and the pinned constants lay them (the card ties them). No further condition.
-/
import Derived.Test.YtnijmhhigkbddaaDoorRows
import Derived.Test.YtnijmhhigkbddaaDoorMqJ2
import Derived.Test.YtnijmhhigkbddaaDoorMqE2
import Derived.Test.YtnijmhhigkbddaaDoorMqP
import Derived.Test.YtnijmhhigkbddaaDoorMqT
import Derived.Test.YtnijmhhigkbddaaDoorDm2
import Derived.Test.YtnijmhhigkbddaaDoorDm3
import Derived.Test.YtnijmhhigkbddaaDoorOpenB
import Derived.WalkKit
import Derived.OpenVars
import Derived.ChangeVars
import Derived.ProofKit
import Derived.OpenShut
import Derived.ShutString
import Derived.ChangeOld
import Derived.Below
import Derived.Lib.SmallJoins
import Derived.Test.YtnijmhhigkbddaaDoorCards
import Derived.Test.YtnijmhhigkbddaaDoorTie
import Derived.LaidMore
import Derived.Lay
import Derived.SevenTiedAt
import Derived.Stop.Joined
namespace Go.Proofs.YtnijmhhigkbddaaDoor.fnJoining
open Go.ChangeShapes Go.WideShapes Go.ChangeAt Go.RowKit
open Go.ChangeMaps (open_string shut_string)
open Pl Mq MqPl Strs Cur Draw0 Dm OpenB
set_option linter.unusedVariables false
set_option linter.unusedSimpArgs false

theorem own : ownKnob Tryd.prog.godebug = none := by kernel_rfl
theorem laidOut : laidOutB Tryd.prog = true := by kernel_rfl
theorem two_vals (a b : ByteArray) : jtV a b = .tuple #[.string ⟨#[]⟩, .bool false] ∨ ∃ s, jtV a b = .tuple #[.string s, .bool true] ∧ jtV a ⟨#[]⟩ = .tuple #[.string a, .bool true] ∧ jpV [a] b = .tuple #[.string a, .bool true] := by
  by_cases h : okX a.data.toList = true ∧ okX b.data.toList = true
  · right
    refine ⟨jB a b, ?_, ?_, ?_⟩
    · unfold jtV; rw [if_pos h]
    · unfold jtV
      rw [if_pos ⟨h.1, by decide⟩, jB_nil_r]
      have e : a ++ (⟨#[]⟩ : ByteArray) = a := ext_l (by rw [app_l]; simp)
      rw [e]
    · unfold jpV
      rw [if_pos ⟨⟨by show 1 ≤ 12; omega, h.2⟩, by simp only [List.all_cons, List.all_nil, Bool.and_true]; exact h.1⟩]
      have e : jpA b [a] = a := by
        show jpS b ⟨#[]⟩ a = a
        by_cases h0 : 0 < a.size
        · exact jpS_first h0
        · obtain rfl := Kt.nil_str h0; rfl
      rw [e]
  · left; unfold jtV; rw [if_neg h]
theorem end_vals (s : ByteArray) (c : UInt8) : ∃ e r, ewV s c = .tuple #[.string e, .bool r] ∧ (r = false ∨ (r = true ∧ 0 < e.size)) := by
  unfold ewV
  split
  · split
    · rename_i h
      refine ⟨_, _, rfl, .inr ⟨rfl, ?_⟩⟩
      by_cases h0 : 0 < (trB s).size
      · exact h0
      · have h1 := Kt.nil_str h0
        rw [h1] at h; exact absurd h.2 (by decide)
    · refine ⟨_, _, rfl, .inr ⟨rfl, ?_⟩⟩
      have h1 : jt (trB s).data.toList (ba [c]).data.toList ≠ [] := jt_ne (.inr (by rw [toList_ba]; simp))
      unfold jB
      rw [ba_size]
      exact List.length_pos_iff.2 h1
  · exact ⟨_, _, rfl, .inl rfl⟩
theorem merge_vals (a b : UInt8) : ∃ m r, mmV a b = .tuple #[.string m, .bool r] ∧ (r = false ∨ (r = true ∧ 1 ≤ m.size ∧ m.size ≤ 2)) := by
  unfold mmV
  split
  · have h := mg_len a b
    exact ⟨_, _, rfl, .inr ⟨rfl, by rw [ba_size]; exact h.1, by rw [ba_size]; exact h.2⟩⟩
  · exact ⟨_, _, rfl, .inl rfl⟩
theorem rds_one (w : World) (a : ByteArray) : RdS (w.alloc (.cells #[.string a] 9)) (some ⟨w.heap.size, 0, none⟩) [a] := by
  intro j x hx
  rcases j with _ | j
  · simp at hx; subst hx; exact ⟨w.heap.size, 0, rfl, by simp⟩
  · simp at hx
set_option maxRecDepth 100000 in
set_option maxHeartbeats 16000000 in
theorem walk (A : Option Addr) (n c : Nat) (w : World) (hr : RdB w A n) (ha : Apart A n w.heap.size) (ht : MarkTab w) :
    Calls Tryd.prog 3 #[.slice A n c] w fun e w' => e = .returned (.bool true) ∧ Below w.heap.size w w' := by
  have HR := Lib.hid hr
  have HA := Lib.hid ha
  have HT := Lib.hid ht
  have HRd := Lib.hid (fun w' (hb : Below w.heap.size w w') => rdb_below hr ha hb)
  have HAp := Lib.hid (fun w' (hb : Below w.heap.size w w') => (fun h a e => Nat.lt_of_lt_of_le (ha h a e) hb.size : Apart A n w'.heap.size))
  clear hr ha ht
  by_cases hbig : 65536 < n
  · go_enter Tryd.func3, Tryd.ntmps3
    go_wp2_with fail
    refine (rBig_any A n c _ true (by simp; omega)).mono ?_
    rintro e w' ⟨rfl, rfl⟩
    go_wp2_with fail
    go_ret
    exact ⟨rfl, Below.refl _ _⟩
  · go_enter Tryd.func3, Tryd.ntmps3
    go_wp2_with fail
    refine (rBig_any A n c _ false (by simp; omega)).mono ?_
    rintro e w' ⟨rfl, rfl⟩
    go_wp2_with fail
    refine (drawTwo_any A n c _ (by omega) HR.out HA.out).mono ?_
    rintro e w1 ⟨a, b, hsa, hsb, rfl, b1⟩
    have K1 := Lib.hid b1
    clear b1
    have JI := Lib.hid (fun w (hm : MarkTab w) => jts_i a b w hm (by omega) (by omega))
    have JS := Lib.hid (fun w => jts_s a b w (by omega) (by omega))
    rcases two_vals a b with hv | ⟨s, v1, v2, v3⟩
    · rw [hv] at JI JS
      clear hv
      go_wp2_with fail
      refine (JI.out _ (HT.out.below K1.out)).mono ?_
      rintro e w2 ⟨rfl, b2⟩
      have K2 := Lib.hid (K1.out.trans (b2.mono K1.out.size))
      clear b2
      go_wp2_with fail
      refine (JS.out _).mono ?_
      rintro e w3 ⟨rfl, b3⟩
      have K3 := Lib.hid (K2.out.trans (b3.mono K2.out.size))
      clear b3
      go_wp2_with fail
      refine (drawParts_any A n c _ (by omega) (HRd.out _ K3.out) (HAp.out _ K3.out)).mono ?_
      rintro e wp1 ⟨v, xs, d, hxs, hxl, hds, rfl, ho, bp⟩
      have KP1 := Lib.hid (K3.out.trans (bp.mono K3.out.size))
      obtain ⟨Av, cv, rfl, _, rv, hAv⟩ := own_rds ho
      have HRv := Lib.hid rv
      have HAv := Lib.hid hAv
      obtain ⟨tp, rp', vp⟩ := jpV_form xs d
      have PI := Lib.hid (parts_i Av cv xs.length xs d wp1 (HT.out.below KP1.out) rv (fun _ => hAv) rfl (by omega) (fun x hx => by have := hxs x hx; omega) (by omega))
      have PS := Lib.hid (fun w2 (hb : Below wp1.heap.size wp1 w2) => parts_s Av cv xs.length xs d w2 (HRv.out.of fun hp q hq => hb.block _ (HAv.out q hq)) (fun _ q hq => Nat.lt_of_lt_of_le (HAv.out q hq) hb.size) rfl (by omega) (fun x hx => by have := hxs x hx; omega) (by omega))
      rw [vp] at PI PS
      clear bp ho rv hAv vp
      generalize xs.length = nx at *
      go_wp2_with fail
      refine PI.out.mono ?_
      rintro e wp2 ⟨rfl, bp2⟩
      have PS2 := Lib.hid (PS.out wp2 bp2)
      have KP2 := Lib.hid (KP1.out.trans (bp2.mono KP1.out.size))
      clear bp2 PI PS
      go_wp2_with fail
      refine PS2.out.mono ?_
      rintro e wp3 ⟨rfl, bp3⟩
      have KP3 := Lib.hid (KP2.out.trans (bp3.mono KP2.out.size))
      clear bp3 PS2
      go_wp2_with fail
      refine (drawEnd_any A n c _ (by omega) (HRd.out _ KP3.out) (HAp.out _ KP3.out)).mono ?_
      rintro e we1 ⟨u, mk, hu, rfl, be1⟩
      have KE1 := Lib.hid (KP3.out.trans (be1.mono KP3.out.size))
      clear be1
      obtain ⟨ee, re, ve, hre⟩ := end_vals u mk
      have EI := Lib.hid (fun w (hm : MarkTab w) => ends_i u mk w hm (by omega))
      have ES := Lib.hid (fun w => ends_s u mk w (by omega))
      rw [ve] at EI ES
      have HRe := Lib.hid hre
      clear ve hre
      go_wp2_with fail
      refine (EI.out _ (HT.out.below KE1.out)).mono ?_
      rintro e we2 ⟨rfl, be2⟩
      have KE2 := Lib.hid (KE1.out.trans (be2.mono KE1.out.size))
      clear be2
      go_wp2_with fail
      refine (ES.out _).mono ?_
      rintro e we3 ⟨rfl, be3⟩
      have KE3 := Lib.hid (KE2.out.trans (be3.mono KE2.out.size))
      clear be3
      go_wp2_with fail
      refine (drawMerge_any A n c _ (by omega) (HRd.out _ KE3.out) (HAp.out _ KE3.out)).mono ?_
      rintro e wm1 ⟨p1, p2, rfl, bm1⟩
      have KM1 := Lib.hid (KE3.out.trans (bm1.mono KE3.out.size))
      clear bm1
      obtain ⟨mm, rm', vm, hrm⟩ := merge_vals p1 p2
      have MI := Lib.hid (fun w (hm : MarkTab w) => merges_i p1 p2 w hm)
      have MS := Lib.hid (fun w => merges_s p1 p2 w)
      rw [vm] at MI MS
      have HRm := Lib.hid hrm
      clear vm hrm
      go_wp2_with fail
      refine (MI.out _ (HT.out.below KM1.out)).mono ?_
      rintro e wm2 ⟨rfl, bm2⟩
      have KM2 := Lib.hid (KM1.out.trans (bm2.mono KM1.out.size))
      clear bm2
      go_wp2_with fail
      refine (MS.out _).mono ?_
      rintro e wm3 ⟨rfl, bm3⟩
      have KM3 := Lib.hid (KM2.out.trans (bm3.mono KM2.out.size))
      clear bm3
      rcases HRm.out with hm0 | ⟨hm0, hm1, hm2⟩
      · subst hm0
        rcases HRe.out with he0 | ⟨he0, he1⟩
        · subst he0
          go_wp2_with fail
          go_ret
          exact ⟨rfl, KM3.out⟩
        · subst he0
          obtain ⟨q1, q2⟩ := Kt.ne_str he1
          go_wp2_with fail
          go_ret
          exact ⟨rfl, KM3.out⟩
      · subst hm0
        have hd1 : decide (mm.size < 1) = false := decide_eq_false (by omega)
        have hd2 : decide (2 < mm.size) = false := decide_eq_false (by omega)
        have hd3 : decide ((mm.size : Int) < 1) = false := decide_eq_false (by omega)
        have hd4 : decide ((2 : Int) < (mm.size : Int)) = false := decide_eq_false (by omega)
        rcases HRe.out with he0 | ⟨he0, he1⟩
        · subst he0
          go_wp2_with fail
          go_ret
          exact ⟨rfl, KM3.out⟩
        · subst he0
          obtain ⟨q1, q2⟩ := Kt.ne_str he1
          go_wp2_with fail
          go_ret
          exact ⟨rfl, KM3.out⟩
    · have JE := Lib.hid (fun w (hm : MarkTab w) => jts_i a ⟨#[]⟩ w hm (by omega) (by decide))
      have JP := Lib.hid (fun (w : World) (hm : MarkTab w) => parts_i (some ⟨w.heap.size, 0, none⟩) 1 1 [a] b (w.alloc (.cells #[.string a] 9)) (hm.below ((Below.refl _ w).alloc (Nat.le_refl _) _)) (rds_one w a) (fun _ q hq => by cases hq; simp) rfl (by omega) (fun x hx => by simp at hx; subst hx; omega) (by omega))
      rw [v1] at JI JS
      rw [v2] at JE
      rw [v3] at JP
      clear v1 v2 v3
      go_wp2_with fail
      refine (JI.out _ (HT.out.below K1.out)).mono ?_
      rintro e w2 ⟨rfl, b2⟩
      have K2 := Lib.hid (K1.out.trans (b2.mono K1.out.size))
      clear b2
      go_wp2_with fail
      refine (JS.out _).mono ?_
      rintro e w3 ⟨rfl, b3⟩
      have K3 := Lib.hid (K2.out.trans (b3.mono K2.out.size))
      clear b3
      go_wp2_with fail
      refine (JE.out _ (HT.out.below K3.out)).mono ?_
      rintro e w4 ⟨rfl, b4⟩
      have K4 := Lib.hid (K3.out.trans (b4.mono K3.out.size))
      clear b4
      go_wp2_with fail
      refine (JP.out _ (HT.out.below K4.out)).mono ?_
      rintro e w5 ⟨rfl, b5⟩
      have K5 := Lib.hid ((K4.out.alloc K4.out.size (.cells #[.string a] 9)).trans (b5.mono (by have := K4.out.size; simp; omega)))
      clear b5
      go_wp2_with fail
      refine (drawParts_any A n c _ (by omega) (HRd.out _ K5.out) (HAp.out _ K5.out)).mono ?_
      rintro e wp1 ⟨v, xs, d, hxs, hxl, hds, rfl, ho, bp⟩
      have KP1 := Lib.hid (K5.out.trans (bp.mono K5.out.size))
      obtain ⟨Av, cv, rfl, _, rv, hAv⟩ := own_rds ho
      have HRv := Lib.hid rv
      have HAv := Lib.hid hAv
      obtain ⟨tp, rp', vp⟩ := jpV_form xs d
      have PI := Lib.hid (parts_i Av cv xs.length xs d wp1 (HT.out.below KP1.out) rv (fun _ => hAv) rfl (by omega) (fun x hx => by have := hxs x hx; omega) (by omega))
      have PS := Lib.hid (fun w2 (hb : Below wp1.heap.size wp1 w2) => parts_s Av cv xs.length xs d w2 (HRv.out.of fun hp q hq => hb.block _ (HAv.out q hq)) (fun _ q hq => Nat.lt_of_lt_of_le (HAv.out q hq) hb.size) rfl (by omega) (fun x hx => by have := hxs x hx; omega) (by omega))
      rw [vp] at PI PS
      clear bp ho rv hAv vp
      generalize xs.length = nx at *
      go_wp2_with fail
      refine PI.out.mono ?_
      rintro e wp2 ⟨rfl, bp2⟩
      have PS2 := Lib.hid (PS.out wp2 bp2)
      have KP2 := Lib.hid (KP1.out.trans (bp2.mono KP1.out.size))
      clear bp2 PI PS
      go_wp2_with fail
      refine PS2.out.mono ?_
      rintro e wp3 ⟨rfl, bp3⟩
      have KP3 := Lib.hid (KP2.out.trans (bp3.mono KP2.out.size))
      clear bp3 PS2
      go_wp2_with fail
      refine (drawEnd_any A n c _ (by omega) (HRd.out _ KP3.out) (HAp.out _ KP3.out)).mono ?_
      rintro e we1 ⟨u, mk, hu, rfl, be1⟩
      have KE1 := Lib.hid (KP3.out.trans (be1.mono KP3.out.size))
      clear be1
      obtain ⟨ee, re, ve, hre⟩ := end_vals u mk
      have EI := Lib.hid (fun w (hm : MarkTab w) => ends_i u mk w hm (by omega))
      have ES := Lib.hid (fun w => ends_s u mk w (by omega))
      rw [ve] at EI ES
      have HRe := Lib.hid hre
      clear ve hre
      go_wp2_with fail
      refine (EI.out _ (HT.out.below KE1.out)).mono ?_
      rintro e we2 ⟨rfl, be2⟩
      have KE2 := Lib.hid (KE1.out.trans (be2.mono KE1.out.size))
      clear be2
      go_wp2_with fail
      refine (ES.out _).mono ?_
      rintro e we3 ⟨rfl, be3⟩
      have KE3 := Lib.hid (KE2.out.trans (be3.mono KE2.out.size))
      clear be3
      go_wp2_with fail
      refine (drawMerge_any A n c _ (by omega) (HRd.out _ KE3.out) (HAp.out _ KE3.out)).mono ?_
      rintro e wm1 ⟨p1, p2, rfl, bm1⟩
      have KM1 := Lib.hid (KE3.out.trans (bm1.mono KE3.out.size))
      clear bm1
      obtain ⟨mm, rm', vm, hrm⟩ := merge_vals p1 p2
      have MI := Lib.hid (fun w (hm : MarkTab w) => merges_i p1 p2 w hm)
      have MS := Lib.hid (fun w => merges_s p1 p2 w)
      rw [vm] at MI MS
      have HRm := Lib.hid hrm
      clear vm hrm
      go_wp2_with fail
      refine (MI.out _ (HT.out.below KM1.out)).mono ?_
      rintro e wm2 ⟨rfl, bm2⟩
      have KM2 := Lib.hid (KM1.out.trans (bm2.mono KM1.out.size))
      clear bm2
      go_wp2_with fail
      refine (MS.out _).mono ?_
      rintro e wm3 ⟨rfl, bm3⟩
      have KM3 := Lib.hid (KM2.out.trans (bm3.mono KM2.out.size))
      clear bm3
      rcases HRm.out with hm0 | ⟨hm0, hm1, hm2⟩
      · subst hm0
        rcases HRe.out with he0 | ⟨he0, he1⟩
        · subst he0
          go_wp2_with fail
          go_ret
          exact ⟨rfl, KM3.out⟩
        · subst he0
          obtain ⟨q1, q2⟩ := Kt.ne_str he1
          go_wp2_with fail
          go_ret
          exact ⟨rfl, KM3.out⟩
      · subst hm0
        have hd1 : decide (mm.size < 1) = false := decide_eq_false (by omega)
        have hd2 : decide (2 < mm.size) = false := decide_eq_false (by omega)
        have hd3 : decide ((mm.size : Int) < 1) = false := decide_eq_false (by omega)
        have hd4 : decide ((2 : Int) < (mm.size : Int)) = false := decide_eq_false (by omega)
        rcases HRe.out with he0 | ⟨he0, he1⟩
        · subst he0
          go_wp2_with fail
          go_ret
          exact ⟨rfl, KM3.out⟩
        · subst he0
          obtain ⟨q1, q2⟩ := Kt.ne_str he1
          go_wp2_with fail
          go_ret
          exact ⟨rfl, KM3.out⟩

set_option maxRecDepth 100000 in
theorem lifted (os : Os) (started : os.Started) (H : Type) (enc : TypeId × Value → H) :
    ReturnsInHanded {} Tryd.checked os 3 .any (fun w args => (Rows.fnJoiningSpec.pre enc Tryd.prog Tryd.f3 Rows.fnJoiningRow.domain false w args ∧ laidMetH Tryd.prog Rows.fnJoiningRow.laid w) ∧ sizedMet enc Tryd.prog Tryd.f3 (OpenSpec.ofChange Rows.fnJoiningSpec) false w args)
      (Rows.fnJoiningSpec.post enc Tryd.prog Tryd.f3 false true false false) := by
  refine returnsInHanded_of_change_and (C := Tryd.checked) (X := fun w _ => laidMetH Tryd.prog Rows.fnJoiningRow.laid w) (fun _ _ _ hh h => h.of_heap hh) own started (by kernel_rfl) Tryd.func3
    (ChangeSpec.witness_shaped (enc := enc) (C := Tryd.checked) (os := os) (X := fun w _ => laidMetH Tryd.prog Rows.fnJoiningRow.laid w) false (World.laidAll Tryd.prog os Rows.fnJoiningRow.laid) #[.slice none 0 0] 8 (World.laidAll_os _ _ _)
      (World.shaped_of_ZipB (by kernel_rfl) (by kernel_rfl)) (by kernel_rfl) (by kernel_rfl) (by kernel_rfl)
      (by rw [MakeChecks.laidMetH_plain _ _ _ (by kernel_rfl)]; exact laidMet_laidAll _ (by kernel_rfl) (by kernel_rfl))) ?_
  intro W base args ds gs before hval0 hW hcnd _ hL _
  rw [MakeChecks.laidMetH_plain _ _ _ (by kernel_rfl)] at hL
  have hval : ∀ (j : Nat) t v, Tryd.f3.params[j]? = some t → args[j]? = some v → Value.okWide Tryd.prog W .any base t v := hval0
  have hW' := hW
  obtain ⟨p, q, hA0, hV, rfl, hfz, hnd⟩ := hW
  have hA : DataW.TrodAll enc Tryd.prog W 0 (fun _ => true) true Tryd.f3.params.toList args.toList ds p := hA0
  rw [Tryd.params3] at hA hval
  obtain ⟨v0, vs0, d0, ds0, p0, q0, hargs, rfl, rfl, h0, r0⟩ := trodAll_cons hA
  obtain ⟨rfl, rfl, rfl⟩ := trodAll_nil r0
  obtain rfl : args = #[v0] := by cases args; simp_all
  obtain ⟨_, _, _, _, _, _, rfl, _⟩ := trodVars_one hV
  have k0 := h0
  have lt0 : ∀ x ∈ p0, x.block < W.heap.size := by obtain ⟨m, hm⟩ := k0; exact DataW.trod_lt m _ _ _ hm
  obtain ⟨A0, n0, c0, rfl, rd0, ap0⟩ := open_bytes (hval 0 22 v0 rfl rfl) h0
  clear hA0 hval0
  refine (walk A0 n0 c0 W rd0 ap0 (markTab_of_head hL.tail) ).mono fun e W' ⟨he, bel⟩ => ?_
  subst he
  exact ⟨_, rfl, _, _, _, [], _, q, hW', trodAll_mk1 (shut_bool Tryd.underlying4 _), (trodAll_cons_mk (Below.trod laidOut (by kernel_rfl) (of_decide_eq_true (by kernel_rfl)) k0 bel lt0) trodAll_mk0), bel.trodVars laidOut (by kernel_rfl) hV, bel.frame _, fun h => by cases h⟩

theorem closed : joinedFacts Tryd.pinned.checked.prog 3 Tryd.f3 Rows.fnJoiningSpec Rows.fnJoiningRow = true := by kernel_rfl
theorem over : Rows.fnJoiningRow.holds Tryd.pinned (OpenSpec.ofChange Rows.fnJoiningSpec) :=
  OpenClaim.holds_of_wide 3 Tryd.f3 rfl rfl rfl rfl rfl rfl rfl ⟨rfl, rfl, rfl, rfl, rfl⟩ rfl rfl rfl rfl rfl (by kernel_rfl) Tryd.func3 closed
    (of_decide_eq_true (by kernel_rfl)) (by unfold Func.isWrapper; first | (rw [if_pos (by decide +kernel)]; kernel_rfl) | (rw [if_neg (by decide +kernel)]; exact ⟨rfl, rfl⟩))
    (fun os started H enc _ => lifted os started H enc)

theorem plain (f : FuncId) (fn : Func) (hf : Tryd.pinned.checked.prog.funcNamed "loop.example/g00896/laws.FnJoining" = some f) (hfn : Tryd.pinned.checked.prog.funcs[f]? = some fn) :
    false = Tryd.pinned.checked.prog.looks [] ∧ ∀ (j : Nat) t, fn.params[j]? = some t → Tryd.pinned.checked.prog.wantsStandIn t = false := by
  obtain rfl : f = 3 := Option.some.inj ((show Tryd.prog.funcNamed "loop.example/g00896/laws.FnJoining" = some 3 by kernel_rfl).symm.trans hf) |>.symm
  obtain rfl : fn = Tryd.f3 := (Option.some.inj (Tryd.func3.symm.trans hfn)).symm
  refine ⟨by kernel_rfl, fun j t ht => ?_⟩
  rw [Tryd.params3] at ht
  obtain rfl : t = 22 := by simpa using Array.mem_of_getElem? ht
  exact (show Tryd.prog.wantsStandIn 22 = false by kernel_rfl)

theorem card : Rows.FnJoiningCardSaid :=
  Claim7.holds_tied_plain_at .later [] _ _ _ _ over (fun _ h => by cases h) (by kernel_rfl) (fun _ h => by cases h) fnJoining_row_tie rfl ⟨rfl, rfl⟩ (by kernel_rfl) rfl plain (by kernel_rfl)
#print axioms card
end Go.Proofs.YtnijmhhigkbddaaDoor.fnJoining
