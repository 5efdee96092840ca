/-
  Contract of ExpandRange of the model. Written by genper.py.
-/
import Derived.Test.YtiekplndcpcdkaaDoorPgEp
import Derived.Deep.DeepCutAuto
namespace Go.Proofs.YtiekplndcpcdkaaDoor.PgEs
set_option linter.ambiguousOpen false
open Go.RowKit Pl ReadPl PgPl PgTx Pg PgF PgCo PgC PgEx NmPl PgBx PgPd PgEi PgEp Stands Cut SplitPl
open Num (Tab Tab.below l1Num_any)
set_option linter.unusedSimpArgs false
set_option linter.unusedVariables false

theorem col_any (l : ByteArray) (f t : Int) (st : Int) (w : World) (h : okR l f t = true) :
    Calls Tryd.prog 11 #[prV l f t, .int .i64 st] w fun e w' => e = .returned (.string (ba (cT l.data.toList f.toNat t.toNat st))) ∧ Below w.heap.size w w' := by
  obtain ⟨f', t', e1, e2, hf, ht, _, _, hl⟩ := ok_nat (x := ⟨l, f, t⟩) h
  dsimp only at e1 e2 hl
  subst e1
  subst e2
  rw [Int.toNat_natCast, Int.toNat_natCast]
  exact col_s l f' t' st w hl hf ht
theorem hit_iff {l s : ByteArray} {f t st : Int} (h : okR l f t = true) (h1 : 1 ≤ st) (h3 : st ≤ 3) : HitE ⟨l, f, t⟩ s st ↔ ba (cT l.data.toList f.toNat t.toNat st) = s := by
  have hc : colB ⟨l, f, t⟩ st = true := by
    unfold colB Pr.ok
    rw [h, decide_eq_true ⟨h1, h3⟩]
    rfl
  constructor
  · exact fun h => h.2
  · exact fun h => ⟨hc, h⟩
theorem page_ok (l : List UInt8) (s : ByteArray) (w : World) (hs : s.size ≤ 1048576) (hl : ba l = s) :
    Calls Tryd.prog 8 #[.string s] w fun e w' => ((okN l = true ∧ e = .returned (.tuple #[.string (ba (letL l)), .int .i64 (num (numL l)).1, .bool true])) ∨ (okN l = false ∧ ∃ a n, e = .returned (.tuple #[.string a, .int .i64 n, .bool false]))) ∧ Below w.heap.size w w' := by
  refine (page_s l s w hs hl).mono ?_
  rintro e w' ⟨⟨a, n, rfl, h⟩, b⟩
  refine ⟨?_, b⟩
  cases ho : okN l with
  | true =>
    obtain ⟨rfl, rfl⟩ := h ho
    exact .inl ⟨rfl, rfl⟩
  | false => exact .inr ⟨rfl, a, n, rfl⟩
theorem itoa_len {f : Int} (h0 : -999999 ≤ f) (h1 : f ≤ 999999) : (Lib.itoa f).length ≤ 7 := by
  rcases itoa_cases f with ⟨h, e⟩ | ⟨h, e⟩
  · rw [e]
    have := dec_six (u := f.toNat) (by omega)
    omega
  · rw [e, List.length_cons]
    have := dec_six (u := f.natAbs) (by omega)
    omega
theorem heads {l y : ByteArray} (h : 0 < l.size) (h' : 0 < y.size) : y.data.toList.head? = l.data.toList.head? ↔ y[0] = l[0] := by
  obtain ⟨⟨l⟩⟩ := l
  obtain ⟨⟨y⟩⟩ := y
  match l, y, h, h' with
  | a :: l, b :: y, h, h' =>
    show some b = some a ↔ b = a
    simp
theorem drop_ba {s : ByteArray} : ba (s.data.toList.drop 1) = s.extract 1 s.size := (extract_drop s 1).symm
theorem put {W : World} {b : Nat} {l : ByteArray} {f t : Int} (h : P3F W b l f t) (t' : Int) : P3F (W.setCell ⟨b, 2, none⟩ (.int .i64 t')) b l f t' := by
  obtain ⟨⟨hl, h0, h1, h2⟩, g0, g1, g2⟩ := h
  refine ⟨⟨by simpa [World.setCell] using hl, ?_, ?_, ?_⟩, by simpa using g0, by simpa using g1, by simpa using g2⟩
  · rw [c_ne (by decide)]; exact h0
  · rw [c_ne (by decide)]; exact h1
  · exact World.cell?_setCell_same _ _ _ h2
theorem put_far {W : World} {b b' : Nat} {l : ByteArray} {f t : Int} (h : P3F W b l f t) (hne : b ≠ b') (v : Value) : P3F (W.setCell ⟨b', 2, none⟩ v) b l f t := by
  obtain ⟨⟨hl, h0, h1, h2⟩, g0, g1, g2⟩ := h
  have hc : ∀ (j : Nat), (W.setCell ⟨b', 2, none⟩ v).cell? ⟨b, j, none⟩ = W.cell? ⟨b, j, none⟩ := fun j => World.cell?_setCell_other W _ _ _ (fun e => hne (by cases e; rfl))
  exact ⟨⟨by simpa [World.setCell] using hl, (hc 0).trans h0, (hc 1).trans h1, (hc 2).trans h2⟩, by simpa using g0, by simpa using g1, by simpa using g2⟩

set_option maxRecDepth 100000 in
set_option maxHeartbeats 8000000 in
theorem expand_s (s : ByteArray) (w : World) (hs : s.size ≤ 1048576) :
    Calls Tryd.prog 4 #[.string s] w fun e w' => ∃ v, AnsE s v ∧ e = .returned v ∧ Below w.heap.size w w' := by
  have hb0 := box_below w (.cells #[.string ⟨#[]⟩, .int .i64 0, .int .i64 0] 23)
  have HB := Lib.hid hb0
  have HD := Lib.hid (P3F.new w ⟨#[]⟩ 0 0 23)
  have HCut := Lib.hid (fun w => cut_s s w hs)
  have hz := len_size s
  have hfl := fst_len s.data.toList
  have hsl := snd_len s.data.toList
  have HPg := Lib.hid (fun w => page_ok (fst s.data.toList) (ba (fst s.data.toList)) w (by rw [ba_size]; omega) rfl)
  have HEx : Hid (∀ r, Ex s.data.toList r → okN (fst s.data.toList) = true ∧ (stB 45 s.data.toList = true → okN (dgs s.data.toList) = true) ∧ candS s.data.toList = r) := Lib.hid (fun r h => candS_of h)
  have HCd : Hid (candS s.data.toList = ⟨ba (letL (fst s.data.toList)), (num (numL (fst s.data.toList))).1, if stB 45 s.data.toList then (num (numL (dgs s.data.toList))).1 else (num (numL (fst s.data.toList))).1⟩) := Lib.hid rfl
  have HIn := Lib.hid (num_in (l := numL (fst s.data.toList)))
  have HFu : Hid (full s.data.toList = Lib.itoa (num (numL (fst s.data.toList))).1) := Lib.hid rfl
  have hlet : (letL (fst s.data.toList)).length ≤ 1 := by unfold letL; split <;> simp; omega
  have HDg : Hid (dgs s.data.toList = dg2 (full s.data.toList) (dg1 (fst s.data.toList) (snd s.data.toList))) := Lib.hid rfl
  have HD1 : Hid (dg1 (fst s.data.toList) (snd s.data.toList) = if (letL (fst s.data.toList)).isEmpty = false ∧ (snd s.data.toList).isEmpty = false ∧ (snd s.data.toList).head? = (letL (fst s.data.toList)).head? then (snd s.data.toList).drop 1 else snd s.data.toList) := Lib.hid rfl
  rw [HCd.out] at HEx
  rw [HFu.out] at HDg
  clear hb0 HCd HFu
  generalize hq : num (numL (fst s.data.toList)) = q at HEx HIn HDg HPg
  obtain ⟨f, qo⟩ := q
  dsimp only at HEx HIn HDg HPg
  clear hq
  obtain ⟨hin0, hin1⟩ := HIn.out
  have HNu := Lib.hid (fun w => l1Num_any f w hin0 hin1)
  have hfz : (ba (Lib.itoa f)).size ≤ 7 := by rw [ba_size]; exact itoa_len hin0 hin1
  have HFl : Hid (Lib.itoa f = (ba (Lib.itoa f)).data.toList) := Lib.hid (toList_ba _).symm
  rw [HFl.out] at HDg
  generalize ba (Lib.itoa f) = fu at *
  clear HFl
  generalize hx : ba (fst s.data.toList) = x at HPg HCut
  generalize hy : ba (snd s.data.toList) = y at HCut
  have HY : Hid (snd s.data.toList = y.data.toList) := Lib.hid (by rw [← hy, toList_ba])
  rw [HY.out] at HD1 HDg
  have hyz : y.size ≤ 1048576 := by rw [← hy, ba_size]; omega
  generalize hfo : stB 45 s.data.toList = found at *
  have HFo := Lib.hid hfo
  rw [show (letL (fst s.data.toList)) = (ba (letL (fst s.data.toList))).data.toList from (toList_ba _).symm] at HD1
  have hl : (ba (letL (fst s.data.toList))).size ≤ 1 := by rw [ba_size]; exact hlet
  generalize ba (letL (fst s.data.toList)) = l at HD1 HEx HPg hl
  clear hx hy hfo hz hfl hsl hlet HIn hin0 hin1
  go_enter Tryd.func4, Tryd.ntmps4
  go_wp2_with fail
  refine (HCut.out _).mono ?_
  rintro e w1 ⟨rfl, b1⟩
  have HD1b := Lib.hid (HD.out.below b1)
  have HB1 := Lib.hid (HB.out.trans (b1.mono HB.out.size))
  clear b1 HB HD HCut
  go_wp2_with fail
  refine (HPg.out _).mono ?_
  rintro e w2 ⟨(⟨hok, rfl⟩ | ⟨hok, a, n, rfl⟩), b2⟩
  rotate_left
  · have HD2 := Lib.hid (HD1b.out.below b2)
    have HB2 := Lib.hid (HB1.out.trans (b2.mono HB1.out.size))
    have HP : Hid (AnsE s (.tuple #[prV ⟨#[]⟩ 0 0, .bool false])) := Lib.hid (.inr ⟨(fun r h => by have := (HEx.out r h).1; rw [hok] at this; cases this), rfl⟩)
    clear b2 HB1 HD1b HPg hok HEx
    obtain ⟨⟨hlt', d0, d1, d2⟩, g0, g1, g2⟩ := HD2.out
    go_wp2_with fail
    exact bodyPost_ret (v := .tuple #[prV ⟨#[]⟩ 0 0, .bool false]) (by simp [results, Tryd.results4, go_sem, *]) rfl ⟨_, HP.out, rfl, set3 HB2.out (Nat.le_refl _)⟩
  · have HD2 := Lib.hid (HD1b.out.below b2)
    have HB2 := Lib.hid (HB1.out.trans (b2.mono HB1.out.size))
    clear b2 HB1 HD1b HPg hok
    have hne : w.heap.size < w2.heap.size := HD2.out.1.1
    have hb4 := box_below w2 (.cells #[.string l, .int .i64 f, .int .i64 f] 23)
    have HN := Lib.hid (P3F.new w2 l f f 23)
    have HD := Lib.hid (HD2.out.below hb4)
    have HB := Lib.hid (HB2.out.trans (hb4.mono HB2.out.size))
    clear hb4 HD2 HB2
    go_upto_region 6 with fail
    generalize w2.alloc (.cells #[.string l, .int .i64 f, .int .i64 f] 23) = W at *
    generalize w2.heap.size = b at *
    cases found with
    | false =>
      have HV : Hid (∀ r, Ex s.data.toList r → r = ⟨l, f, f⟩) := Lib.hid (fun r h => by rw [← (HEx.out r h).2.2]; rfl)
      clear HEx HDg HD1 HNu HY HFo
      obtain ⟨⟨hlt, c0, c1, c2⟩, f0, f1, f2⟩ := HN.out
      obtain ⟨rb, hrb⟩ : ∃ rb, okR l f f = rb := ⟨_, rfl⟩
      have HV0 := Lib.hid (valid_s l f f rb W hrb)
      go_wp2_with fail
      refine HV0.out.mono ?_
      rintro e w5 ⟨rfl, b5⟩
      have HN5 := Lib.hid (HN.out.below b5)
      have HD5 := Lib.hid (HD.out.below b5)
      have HB5 := Lib.hid (HB.out.trans (b5.mono HB.out.size))
      clear b5 hlt c0 c1 c2 f0 f1 f2 HN HD HB HV0
      cases rb with
      | false =>
        have HP : Hid (AnsE s (.tuple #[prV ⟨#[]⟩ 0 0, .bool false])) := Lib.hid (.inr ⟨fun r h => by
          have h1 := h.1
          rw [HV.out r h] at h1
          exact absurd (hrb.symm.trans h1) Bool.false_ne_true, rfl⟩)
        clear hrb
        obtain ⟨⟨hlt', d0, d1, d2⟩, g0, g1, g2⟩ := HD5.out
        go_wp2_with fail
        exact bodyPost_ret (v := .tuple #[prV ⟨#[]⟩ 0 0, .bool false]) (by simp [results, Tryd.results4, go_sem, *]) rfl ⟨_, HP.out, rfl, set3 HB5.out (Nat.le_refl _)⟩
      | true =>
        have HC := Lib.hid (fun st w => col_any l f f st w hrb)
        have HH := Lib.hid (fun st h1 h3 => hit_iff (l := l) (f := f) (t := f) (s := s) (st := st) hrb h1 h3)
        clear hrb
        go_wp2_with fail
        go_loopw [16] (fun i wr => ∃ k : Nat, (1 ≤ k ∧ k ≤ 4) ∧ i = .int .i64 k ∧ Hid (∀ st : Int, 1 ≤ st → st < k → ¬ HitE ⟨l, f, f⟩ s st) ∧ Hid (Below w5.heap.size w5 wr)) (fun i _ => 4 - (intOf i).toNat)
        case atStart => exact ⟨1, by omega, rfl, Lib.hid (fun st h1 h2 => by omega), Lib.hid (Below.refl _ _)⟩
        case round =>
          obtain ⟨k, ⟨hk1, hk4⟩, rfl, HNo, HK⟩ := hrel
          have HN6 := Lib.hid (HN5.out.below HK.out)
          have HD6 := Lib.hid (HD5.out.below HK.out)
          have HB6 := Lib.hid (HB5.out.trans (HK.out.mono HB5.out.size))
          obtain ⟨⟨hlt, c0, c1, c2⟩, f0, f1, f2⟩ := HN6.out
          by_cases hlt4 : k < 4
          · have hd3 : decide ((k : Int) ≤ 3) = true := by simp; omega
            have hkw : IntKind.i64.wrap ((k : Int) + 1) = (k : Int) + 1 := IntWalk.i64_in _ (by omega)
            have HHk := Lib.hid (HH.out (k : Int) (by omega) (by omega))
            have HCk := Lib.hid (HC.out (k : Int) wr)
            have HStep : Hid (¬ HitE ⟨l, f, f⟩ s (k : Int) → ∀ st : Int, 1 ≤ st → st < (k + 1 : Nat) → ¬ HitE ⟨l, f, f⟩ s st) := Lib.hid (fun hn st h1 h2 => by
              by_cases h : st = k
              · rw [h]; exact hn
              · exact HNo.out st h1 (by omega))
            clear HNo
            generalize ba (cT l.data.toList f.toNat (f).toNat (k : Int)) = s' at *
            go_wp2_with fail
            refine HCk.out.mono ?_
            rintro e w7 ⟨rfl, b7⟩
            have HK7 := Lib.hid (HK.out.trans (b7.mono HK.out.size))
            have HD7 := Lib.hid (HD6.out.below b7)
            have HN7 := Lib.hid (HN6.out.below b7)
            have HB7 := Lib.hid (HB6.out.trans (b7.mono HB6.out.size))
            clear b7 hlt c0 c1 c2 f0 f1 f2 HK HD6 HN6 HB6 HCk
            by_cases he : s' = s
            · have HP : Hid (AnsE s (.tuple #[prV l f f, .bool true])) := Lib.hid (.inl ⟨⟨l, f, f⟩, hit_ex (HHk.out.2 he), rfl⟩)
              have hee : (s'.toList == s.toList) = true := by rw [he]; simp
              clear HHk HStep he
              obtain ⟨⟨hlt, c0, c1, c2⟩, f0, f1, f2⟩ := HN7.out
              obtain ⟨⟨hlt', d0, d1, d2⟩, g0, g1, g2⟩ := HD7.out
              go_wp2_with fail
              exact bodyPost_ret (v := .tuple #[prV l f f, .bool true]) (by simp [results, Tryd.results4, go_sem, *]) rfl ⟨_, HP.out, rfl, set3 HB7.out (Nat.le_refl _)⟩
            · have hnx := Read.ne_forms he
              have HS2 := Lib.hid (HStep.out (fun h => he (HHk.out.1 h)))
              clear he HHk HStep
              go_wp2_with fail
              go_roundw
              case rel => exact ⟨k + 1, by omega, by go_num, HS2, HK7⟩
              case measure => simp [intOf]; omega
          · have hd3 : decide ((k : Int) ≤ 3) = false := by simp; omega
            have HP : Hid (AnsE s (.tuple #[prV ⟨#[]⟩ 0 0, .bool false])) := Lib.hid (.inr ⟨fun r h => by
              obtain ⟨st, h13, hh⟩ := ex_hit h
              rw [HV.out r h] at hh
              exact HNo.out st h13.1 (by omega) hh, rfl⟩)
            clear HNo hlt c0 c1 c2 f0 f1 f2
            obtain ⟨⟨hlt', d0, d1, d2⟩, g0, g1, g2⟩ := HD6.out
            go_wp2_with fail
            exact bodyPost_ret (v := .tuple #[prV ⟨#[]⟩ 0 0, .bool false]) (by simp [results, Tryd.results4, go_sem, *]) rfl ⟨_, HP.out, rfl, set3 HB6.out (Nat.le_refl _)⟩
    | true =>
      go_wp2_with fail
      refine (HNu.out _).mono ?_
      rintro e w3 ⟨rfl, q3, rfl⟩
      have hb3 : Below W.heap.size W (W.drewN q3) := Num.below_drewN (Below.refl _ _) q3
      have HN3 := Lib.hid (HN.out.below hb3)
      have HD3 := Lib.hid (HD.out.below hb3)
      have HB3 := Lib.hid (HB.out.trans (hb3.mono HB.out.size))
      clear HN HD HB HNu hb3
      generalize W.drewN q3 = W3 at *
      go_upto_region 9 with fail
      obtain ⟨c1, hc1⟩ : ∃ c1 : Bool, decide (l.data.toList.isEmpty = false ∧ y.data.toList.isEmpty = false ∧ y.data.toList.head? = l.data.toList.head?) = c1 := ⟨_, rfl⟩
      go_cut [52] (fun s52 wx => s52 = .bool c1 ∧ Hid (Below W3.heap.size W3 wx))
      case first =>
        rcases Nat.eq_zero_or_pos l.size with hl0 | hl0
        · obtain rfl := emp hl0
          have HC : Hid (c1 = false) := Lib.hid (by rw [← hc1]; exact decide_eq_false (fun h => by simp at h))
          clear hc1
          go_wp2_with fail
          all_goals (first | go_quiet (fail) | skip)
          all_goals go_wp2_with fail
          all_goals go_meet
          all_goals exact ⟨by rw [HC.out], Lib.hid (by first | exact Below.refl _ _ | exact Num.below_drewN (Below.refl _ _) _)⟩
        · have hne1 := ne_emp hl0
          rcases Nat.eq_zero_or_pos y.size with hy0 | hy0
          · obtain rfl := emp hy0
            have HC : Hid (c1 = false) := Lib.hid (by rw [← hc1]; exact decide_eq_false (fun h => by simp at h))
            clear hc1
            go_wp2_with fail
            all_goals (first | go_quiet (fail) | skip)
            all_goals go_wp2_with fail
            all_goals go_meet
            all_goals exact ⟨by rw [HC.out], Lib.hid (by first | exact Below.refl _ _ | exact Num.below_drewN (Below.refl _ _) _)⟩
          · have hne2 := ne_emp hy0
            have HC : Hid (c1 = ((y[0].toNat : Int) == (l[0].toNat : Int))) := Lib.hid (by
              rw [← hc1, Bool.eq_iff_iff, decide_eq_true_eq, heads hl0 hy0, beq_iff_eq, ← Lib.toList_data, ← Lib.toList_data, hne1, hne2]
              constructor
              · rintro ⟨_, _, h⟩; rw [h]
              · exact fun h => ⟨rfl, rfl, UInt8.toNat_inj.1 (by omega)⟩)
            clear hc1
            generalize hbe : ((y[0].toNat : Int) == (l[0].toNat : Int)) = be at HC
            go_wp2_with fail
            all_goals (first | go_quiet (fail) | skip)
            all_goals go_wp2_with fail
            all_goals go_meet
            all_goals exact ⟨by rw [HC.out], Lib.hid (by first | exact Below.refl _ _ | exact Num.below_drewN (Below.refl _ _) _)⟩
      case rest =>
        obtain ⟨rfl, HKc⟩ := hcut
        have HN4 := Lib.hid (HN3.out.below HKc.out)
        have HD4 := Lib.hid (HD3.out.below HKc.out)
        have HB4 := Lib.hid (HB3.out.trans (HKc.out.mono HB3.out.size))
        clear HN3 HD3 HB3 HKc
        obtain ⟨d1, hd1⟩ : ∃ d1, ba (dg1 (fst s.data.toList) y.data.toList) = d1 := ⟨_, rfl⟩
        have hdz : d1.size ≤ 1048576 := by
          rw [← hd1, HD1.out, ba_size]
          split
          · rw [List.length_drop, len_size]; omega
          · rw [len_size]; omega
        have HD1' : Hid (dg1 (fst s.data.toList) y.data.toList = d1.data.toList) := Lib.hid (by rw [← hd1, toList_ba])
        go_upto_if 52 with fail
        go_cut [12] (fun s12 wx => s12 = .string d1 ∧ wx = wc)
        case first =>
          cases c1 with
          | true =>
            have hcc := of_decide_eq_true hc1
            have HC : Hid (y.extract 1 y.size = d1) := Lib.hid (by rw [← hd1, HD1.out, if_pos hcc, drop_ba])
            have hy0 : 0 < y.size := by
              rcases Nat.eq_zero_or_pos y.size with h | h
              · obtain rfl := emp h
                have := hcc.2.1
                simp at this
              · exact h
            clear hc1 hd1 hcc
            go_wp2_with fail
            go_meet
            exact ⟨by rw [← HC.out], rfl⟩
          | false =>
            have HC : Hid (y = d1) := Lib.hid (by rw [← hd1, HD1.out, if_neg (of_decide_eq_false hc1), ba_toList])
            clear hc1 hd1
            go_wp2_with fail
            go_meet
            exact ⟨by rw [HC.out], rfl⟩
        case rest =>
          obtain ⟨rfl, rfl⟩ := hcut
          clear hc1 hd1 HD1 hyz hl
          rw [HD1'.out] at HDg
          clear HD1'
          obtain ⟨D, hD⟩ : ∃ D, ba (dgs s.data.toList) = D := ⟨_, rfl⟩
          have HDL : Hid (dgs s.data.toList = if d1.data.toList.length < fu.data.toList.length then fu.data.toList.take (fu.data.toList.length - d1.data.toList.length) ++ d1.data.toList else d1.data.toList) := HDg
          rw [len_size, len_size] at HDL
          clear HDg
          have hDz : D.size ≤ 1048576 := by
            rw [← hD, HDL.out, ba_size]
            split
            · rw [List.length_append, List.length_take, len_size, len_size]; omega
            · rw [len_size]; omega
          have HPg2 := Lib.hid (fun w => page_ok (dgs s.data.toList) D w hDz hD)
          go_upto_if 59 with fail
          go_cut [12] (fun s12 wx => s12 = .string D ∧ wx = wc)
          case first =>
            by_cases hlen : d1.size < fu.size
            · obtain ⟨u, hu⟩ : ∃ u, fu.size - d1.size = u := ⟨_, rfl⟩
              have HC : Hid (D = fu.extract 0 u ++ d1) := Lib.hid (by rw [← hD, HDL.out, if_pos hlen, hu, extract_take, ← ba_toList d1, Num.ba_cat, ba_toList])
              have h1 : IntKind.i64.wrap ((fu.size : Int) - d1.size) = (u : Int) := by rw [IntWalk.i64_in _ (by omega)]; omega
              have h3 : u ≤ fu.size := by omega
              have hx : (fu.extract 0 u).size + d1.size ≤ 2097152 := by rw [ByteArray.size_extract]; omega
              clear hu hD
              go_wp2_with fail
              go_meet
              exact ⟨by rw [HC.out], rfl⟩
            · have HC : Hid (d1 = D) := Lib.hid (by rw [← hD, HDL.out, if_neg hlen, ba_toList])
              clear hD
              go_wp2_with fail
              go_meet
              exact ⟨by rw [HC.out], rfl⟩
          case rest =>
            obtain ⟨rfl, rfl⟩ := hcut
            clear hD HDL hdz hfz hDz
            have hle : w.heap.size ≤ b := Nat.le_of_lt hne
            go_wp2_with fail
            refine (HPg2.out _).mono ?_
            rintro e w6 ⟨(⟨hok2, rfl⟩ | ⟨hok2, a, n, rfl⟩), b6⟩
            rotate_left
            · have HN6 := Lib.hid (HN4.out.below b6)
              have HD6 := Lib.hid (HD4.out.below b6)
              have HB6 := Lib.hid (HB4.out.trans (b6.mono HB4.out.size))
              have HP : Hid (AnsE s (.tuple #[prV ⟨#[]⟩ 0 0, .bool false])) := Lib.hid (.inr ⟨(fun r h => by have := (HEx.out r h).2.1 trivial; rw [hok2] at this; cases this), rfl⟩)
              have HD7 := Lib.hid (put_far HD6.out (Nat.ne_of_lt hne) (.int .i64 n))
              have HB7 := Lib.hid (HB6.out.setCell (p := ⟨b, 2, none⟩) hle (.int .i64 n))
              obtain ⟨⟨hlt, c0, c1, c2⟩, f0, f1, f2⟩ := HN6.out
              clear b6 HN6 HD6 HB6 HN4 HD4 HB4 HPg2 hok2 HEx
              go_upto_region 15 with fail
              clear hlt c0 c1 c2 f0 f1 f2
              generalize w6.setCell ⟨b, 2, none⟩ (.int .i64 n) = w7 at *
              obtain ⟨⟨hlt', d0, d1, d2⟩, g0, g1, g2⟩ := HD7.out
              go_wp2_with fail
              exact bodyPost_ret (v := .tuple #[prV ⟨#[]⟩ 0 0, .bool false]) (by simp [results, Tryd.results4, go_sem, *]) rfl ⟨_, HP.out, rfl, set3 HB7.out (Nat.le_refl _)⟩
            · have HV0 : Hid (∀ r, Ex s.data.toList r → r = ⟨l, f, (num (numL (dgs s.data.toList))).1⟩) := Lib.hid (fun r h => by rw [← (HEx.out r h).2.2]; rfl)
              have HN6 := Lib.hid (HN4.out.below b6)
              have HD6 := Lib.hid (HD4.out.below b6)
              have HB6 := Lib.hid (HB4.out.trans (b6.mono HB4.out.size))
              clear b6 HN4 HD4 HB4 HPg2 hok2 HEx
              generalize (num (numL (dgs s.data.toList))).1 = t at *
              have HV := HV0
              have HN := Lib.hid (put HN6.out t)
              have HD := Lib.hid (put_far HD6.out (Nat.ne_of_lt hne) (.int .i64 t))
              have HB := Lib.hid (HB6.out.setCell (p := ⟨b, 2, none⟩) hle (.int .i64 t))
              obtain ⟨⟨hlt, c0, c1, c2⟩, f0, f1, f2⟩ := HN6.out
              clear HN6 HD6 HB6 HV0
              go_upto_region 15 with fail
              clear hlt c0 c1 c2 f0 f1 f2
              generalize w6.setCell ⟨b, 2, none⟩ (.int .i64 t) = W at *
              obtain ⟨⟨hlt, c0, c1, c2⟩, f0, f1, f2⟩ := HN.out
              obtain ⟨rb, hrb⟩ : ∃ rb, okR l f t = rb := ⟨_, rfl⟩
              have HV0 := Lib.hid (valid_s l f t rb W hrb)
              go_wp2_with fail
              refine HV0.out.mono ?_
              rintro e w5 ⟨rfl, b5⟩
              have HN5 := Lib.hid (HN.out.below b5)
              have HD5 := Lib.hid (HD.out.below b5)
              have HB5 := Lib.hid (HB.out.trans (b5.mono HB.out.size))
              clear b5 hlt c0 c1 c2 f0 f1 f2 HN HD HB HV0
              cases rb with
              | false =>
                have HP : Hid (AnsE s (.tuple #[prV ⟨#[]⟩ 0 0, .bool false])) := Lib.hid (.inr ⟨fun r h => by
                  have h1 := h.1
                  rw [HV.out r h] at h1
                  exact absurd (hrb.symm.trans h1) Bool.false_ne_true, rfl⟩)
                clear hrb
                obtain ⟨⟨hlt', d0, d1, d2⟩, g0, g1, g2⟩ := HD5.out
                go_wp2_with fail
                exact bodyPost_ret (v := .tuple #[prV ⟨#[]⟩ 0 0, .bool false]) (by simp [results, Tryd.results4, go_sem, *]) rfl ⟨_, HP.out, rfl, set3 HB5.out (Nat.le_refl _)⟩
              | true =>
                have HC := Lib.hid (fun st w => col_any l f t st w hrb)
                have HH := Lib.hid (fun st h1 h3 => hit_iff (l := l) (f := f) (t := t) (s := s) (st := st) hrb h1 h3)
                clear hrb
                go_wp2_with fail
                go_loopw [16] (fun i wr => ∃ k : Nat, (1 ≤ k ∧ k ≤ 4) ∧ i = .int .i64 k ∧ Hid (∀ st : Int, 1 ≤ st → st < k → ¬ HitE ⟨l, f, t⟩ s st) ∧ Hid (Below w5.heap.size w5 wr)) (fun i _ => 4 - (intOf i).toNat)
                case atStart => exact ⟨1, by omega, rfl, Lib.hid (fun st h1 h2 => by omega), Lib.hid (Below.refl _ _)⟩
                case round =>
                  obtain ⟨k, ⟨hk1, hk4⟩, rfl, HNo, HK⟩ := hrel
                  have HN6 := Lib.hid (HN5.out.below HK.out)
                  have HD6 := Lib.hid (HD5.out.below HK.out)
                  have HB6 := Lib.hid (HB5.out.trans (HK.out.mono HB5.out.size))
                  obtain ⟨⟨hlt, c0, c1, c2⟩, f0, f1, f2⟩ := HN6.out
                  by_cases hlt4 : k < 4
                  · have hd3 : decide ((k : Int) ≤ 3) = true := by simp; omega
                    have hkw : IntKind.i64.wrap ((k : Int) + 1) = (k : Int) + 1 := IntWalk.i64_in _ (by omega)
                    have HHk := Lib.hid (HH.out (k : Int) (by omega) (by omega))
                    have HCk := Lib.hid (HC.out (k : Int) wr)
                    have HStep : Hid (¬ HitE ⟨l, f, t⟩ s (k : Int) → ∀ st : Int, 1 ≤ st → st < (k + 1 : Nat) → ¬ HitE ⟨l, f, t⟩ s st) := Lib.hid (fun hn st h1 h2 => by
                      by_cases h : st = k
                      · rw [h]; exact hn
                      · exact HNo.out st h1 (by omega))
                    clear HNo
                    generalize ba (cT l.data.toList f.toNat (t).toNat (k : Int)) = s' at *
                    go_wp2_with fail
                    refine HCk.out.mono ?_
                    rintro e w7 ⟨rfl, b7⟩
                    have HK7 := Lib.hid (HK.out.trans (b7.mono HK.out.size))
                    have HD7 := Lib.hid (HD6.out.below b7)
                    have HN7 := Lib.hid (HN6.out.below b7)
                    have HB7 := Lib.hid (HB6.out.trans (b7.mono HB6.out.size))
                    clear b7 hlt c0 c1 c2 f0 f1 f2 HK HD6 HN6 HB6 HCk
                    by_cases he : s' = s
                    · have HP : Hid (AnsE s (.tuple #[prV l f t, .bool true])) := Lib.hid (.inl ⟨⟨l, f, t⟩, hit_ex (HHk.out.2 he), rfl⟩)
                      have hee : (s'.toList == s.toList) = true := by rw [he]; simp
                      clear HHk HStep he
                      obtain ⟨⟨hlt, c0, c1, c2⟩, f0, f1, f2⟩ := HN7.out
                      obtain ⟨⟨hlt', d0, d1, d2⟩, g0, g1, g2⟩ := HD7.out
                      go_wp2_with fail
                      exact bodyPost_ret (v := .tuple #[prV l f t, .bool true]) (by simp [results, Tryd.results4, go_sem, *]) rfl ⟨_, HP.out, rfl, set3 HB7.out (Nat.le_refl _)⟩
                    · have hnx := Read.ne_forms he
                      have HS2 := Lib.hid (HStep.out (fun h => he (HHk.out.1 h)))
                      clear he HHk HStep
                      go_wp2_with fail
                      go_roundw
                      case rel => exact ⟨k + 1, by omega, by go_num, HS2, HK7⟩
                      case measure => simp [intOf]; omega
                  · have hd3 : decide ((k : Int) ≤ 3) = false := by simp; omega
                    have HP : Hid (AnsE s (.tuple #[prV ⟨#[]⟩ 0 0, .bool false])) := Lib.hid (.inr ⟨fun r h => by
                      obtain ⟨st, h13, hh⟩ := ex_hit h
                      rw [HV.out r h] at hh
                      exact HNo.out st h13.1 (by omega) hh, rfl⟩)
                    clear HNo hlt c0 c1 c2 f0 f1 f2
                    obtain ⟨⟨hlt', d0, d1, d2⟩, g0, g1, g2⟩ := HD6.out
                    go_wp2_with fail
                    exact bodyPost_ret (v := .tuple #[prV ⟨#[]⟩ 0 0, .bool false]) (by simp [results, Tryd.results4, go_sem, *]) rfl ⟨_, HP.out, rfl, set3 HB6.out (Nat.le_refl _)⟩
end Go.Proofs.YtiekplndcpcdkaaDoor.PgEs

