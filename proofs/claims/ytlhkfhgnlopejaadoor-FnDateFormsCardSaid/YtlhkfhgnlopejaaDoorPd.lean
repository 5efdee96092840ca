/-
  Contracts of ParseDate of the program.
-/
import Derived.Test.YtlhkfhgnlopejaaDoorDtHi
import Derived.Test.YtlhkfhgnlopejaaDoorAtoi
import Derived.Test.YtlhkfhgnlopejaaDoorDtBx
import Derived.Test.YtlhkfhgnlopejaaDoorCut
import Derived.Test.YtlhkfhgnlopejaaDoorPdPl
import Derived.Test.YtlhkfhgnlopejaaDoorShelf
namespace Go.Proofs.YtlhkfhgnlopejaaDoor.Pd
open Go.RowKit Pl Stands SplitPl NmPl ReadPl DtPl Dt DtTx PdPl Num DtF _root_.Go.Proofs.YtlhkfhgnlopejaaDoor.Read Cut
set_option linter.unusedSimpArgs false
set_option linter.unusedVariables false

/-- v is the answer of ParseDate at s -/
def AnsD (s : ByteArray) (v : Value) : Prop :=
  (∃ y m d c, okB y m d c = true ∧ s = ba (text y m d c) ∧ v = .tuple #[dtV y m d c, .bool true]) ∨ ((∀ y m d c, okB y m d c = true → s ≠ ba (text y m d c)) ∧ v = .tuple #[dtV 0 0 0 false, .bool false])
theorem AnsD.uniq {s : ByteArray} {v v' : Value} (h : AnsD s v) (h' : AnsD s v') : v = v' := by
  rcases h with ⟨y, m, d, c, hk, hs, rfl⟩ | ⟨hno, rfl⟩ <;> rcases h' with ⟨y', m', d', c', hk', hs', rfl⟩ | ⟨hno', rfl⟩
  · rw [hs] at hs'
    obtain ⟨rfl, rfl, rfl, rfl⟩ := text_inj hk hk' (ba_inj hs')
    rfl
  · exact absurd hs (hno' _ _ _ _ hk)
  · exact absurd hs' (hno _ _ _ _ hk')
  · rfl
theorem AnsD.form {s : ByteArray} {v : Value} (h : AnsD s v) : ∃ y m d c r, v = .tuple #[dtV y m d c, .bool r] := by
  rcases h with ⟨y, m, d, c, _, _, rfl⟩ | ⟨_, rfl⟩ <;> exact ⟨_, _, _, _, _, rfl⟩
/-- whoever is the text of a valid date is that of this one -/
def RdD (s : ByteArray) (Y M D : Int) (C : Bool) : Prop := ∀ y m d c, okB y m d c = true → s = ba (text y m d c) → y = Y ∧ m = M ∧ d = D ∧ c = C
theorem RdD.no {s : ByteArray} {Y M D : Int} {C : Bool} (h : RdD s Y M D C) (hn : okB Y M D C = true → ba (text Y M D C) ≠ s) : AnsD s (.tuple #[dtV 0 0 0 false, .bool false]) := by
  refine .inr ⟨fun y m d c hk hs => ?_, rfl⟩
  obtain ⟨rfl, rfl, rfl, rfl⟩ := h y m d c hk hs
  exact hn hk hs.symm
theorem not_unk {s : ByteArray} (hs : s ≠ ba unk) {y m d : Int} {c : Bool} (h : s = ba (text y m d c)) : y ≠ 0 := by
  intro hy
  refine hs (h.trans ?_)
  unfold text
  rw [if_pos hy]
theorem rd_model {s : ByteArray} (hs : s ≠ ba unk) : RdD s (rdY 0 s.data.toList) (rdY 1 s.data.toList) (rdY 2 s.data.toList) (cc s.data.toList) := by
  intro y m d c hk h
  have hy := not_unk hs h
  have h1 := read_text hk hy
  have h2 := text_cc y m d c hy
  subst h
  rw [toList_ba]
  exact ⟨h1.1.symm, h1.2.1.symm, h1.2.2.1.symm, h2.1.symm⟩
theorem rd_prog {s : ByteArray} (hs : s ≠ ba unk) : RdD s (ptY s.data.toList) (ptM s.data.toList) (ptD' s.data.toList) (cc s.data.toList) := by
  intro y m d c hk h
  have hy := not_unk hs h
  have h1 := cut_text hk hy
  have h2 := text_cc y m d c hy
  subst h
  rw [toList_ba]
  exact ⟨h1.1.symm, h1.2.1.symm, h1.2.2.symm, h2.1.symm⟩
theorem ans_unk : AnsD (ba unk) (.tuple #[dtV 0 0 0 false, .bool true]) := .inl ⟨0, 0, 0, false, by decide, rfl, rfl⟩
theorem ne_unk {s : ByteArray} (h : s ≠ ba unk) : (s.toList == [117, 110, 107, 110, 111, 119, 110]) = false := by
  rw [beq_eq_false_iff_ne]
  intro e
  rw [Lib.toList_data] at e
  exact h (by rw [← ba_toList s, e]; rfl)

theorem has_cc (l : List UInt8) : Lib.hasPrefix l [99] = cc l := by
  cases l with
  | nil => rfl
  | cons x r =>
    have e : ((99 : UInt8) == x) = (x == 99) := by rw [Bool.eq_iff_iff, beq_iff_eq, beq_iff_eq]; exact eq_comm
    show ((99 : UInt8) == x && true) = (x == 99)
    rw [e, Bool.and_true]
theorem trim_tl (l : List UInt8) : Lib.trimPrefix l [99] = tl l := by
  unfold Lib.trimPrefix tl
  rw [has_cc]
  cases l with
  | nil => rfl
  | cons x r => simp
theorem tl_len (l : List UInt8) : (tl l).length ≤ l.length := by unfold tl; split <;> simp
theorem aft_len (b : UInt8) (l : List UInt8) : (aft b l).length ≤ l.length := by unfold aft; split <;> simp
theorem cut_all (s : ByteArray) (b : UInt8) (w : World) (hs : s.size ≤ maxLen) :
    Calls Tryd.prog 19 #[.string s, .string ⟨#[b]⟩] w fun e w' => e = .returned (.tuple #[.string (ba (hd b s.data.toList)), .string (ba (aft b s.data.toList)), .bool (stB b s.data.toList)]) ∧ ∃ q, w' = w.drewN q := by
  cases h : stB b s.data.toList with
  | true =>
    refine (cut_yes s b w hs h).mono fun e w' ⟨he, hw⟩ => ⟨?_, hw⟩
    rw [he]
    unfold aft
    rw [if_pos h]
    rfl
  | false =>
    refine (cut_no s b w h).mono fun e w' ⟨he, hw⟩ => ⟨?_, 0, hw⟩
    rw [he, hd_free h, aft_free h, ba_toList]
    rfl

theorem datePart (s : ByteArray) (v : Int) (w : World) (hs : s.size ≤ 1048576) (hv : dp s.data.toList = v) (he : Errs w) :
    Calls Tryd.prog 20 #[.string s] w fun e w' => e = .returned (.int .i64 v) ∧ Below w.heap.size w w' := by
  have HV := Lib.hid hv
  have HA := Lib.hid (atoi_any s w hs he)
  clear hv he
  go_enter Tryd.func20, Tryd.ntmps20
  go_wp2_with fail
  refine HA.out.mono ?_
  rintro e w1 ⟨(⟨u, hu, rfl⟩ | ⟨hno, r, N, rfl⟩), b1⟩
  · have HE : Hid (u = v) := Lib.hid (by rw [← HV.out, dp_ok hu])
    clear hu
    go_wp2_with fail
    go_ret
    exact ⟨by rw [HE.out]; rfl, b1⟩
  · have HE : Hid (0 = v) := Lib.hid (by rw [← HV.out, dp_no hno])
    clear hno
    go_wp2_with fail
    go_ret
    exact ⟨by rw [← HE.out]; rfl, b1⟩

set_option maxHeartbeats 4000000 in
theorem implParse (s : ByteArray) (w : World) (hs : s.size ≤ 1048576) (ht : Tab w) (he : Errs w) :
    Calls Tryd.prog 7 #[.string s] w fun e w' => ∃ v, AnsD s v ∧ e = .returned v ∧ Below w.heap.size w w' := by
  by_cases hu : s = ba unk
  · subst hu
    have HP := Lib.hid ans_unk
    clear ht he
    generalize hx : ba unk = x at *
    have hx' : (x.toList == [117, 110, 107, 110, 111, 119, 110]) = true := by rw [← hx, Lib.toList_data]; decide
    have HX := Lib.hid hx
    clear hx
    have HB := Lib.hid (box_below w (.cells #[.int .i64 0, .int .i64 0, .int .i64 0, .bool false] 25))
    obtain ⟨⟨hl, z0, z1, z2, z3⟩, f0, f1, f2, f3⟩ := D4F.new w 0 0 0 false 25
    go_enter Tryd.func7, Tryd.ntmps7
    go_wp2_with fail
    exact bodyPost_ret (v := .tuple #[dtV 0 0 0 false, .bool true]) (by simp [results, Tryd.results7, go_sem, *]) rfl ⟨_, HP.out, rfl, HB.out⟩
  · have hne := ne_unk hu
    have HRd := Lib.hid (rd_prog hu)
    have HT := Lib.hid ht
    have HE := Lib.hid he
    have HCP : Hid (∀ w, Calls Tryd.prog 18 #[.string s, .string ⟨#[99]⟩] w fun e w' => e = .returned (.tuple #[.string (ba (tl s.data.toList)), .bool (cc s.data.toList)]) ∧ w' = w) := Lib.hid (fun w => (Tryd.strings_CutPrefix s ⟨#[99]⟩ w).mono fun e w' ⟨h1, h2⟩ => ⟨by rw [h1, show (ByteArray.mk #[99]).data.toList = [99] from rfl, has_cc, trim_tl]; rfl, h2⟩)
    have hz1 : (ba (tl s.data.toList)).size ≤ 1048576 := by rw [ba_size]; have := tl_len s.data.toList; rw [len_size] at this; omega
    have HC1 := Lib.hid (fun w => cut_all (ba (tl s.data.toList)) 45 w (by unfold maxLen; omega))
    have hz2 : (ba (aft 45 (tl s.data.toList))).size ≤ 1048576 := by rw [ba_size]; rw [ba_size] at hz1; have := aft_len 45 (tl s.data.toList); omega
    have HC2 := Lib.hid (fun w => cut_all (ba (aft 45 (tl s.data.toList))) 45 w (by unfold maxLen; omega))
    have hz3 : (ba (hd 45 (tl s.data.toList))).size ≤ 1048576 := by rw [ba_size]; rw [ba_size] at hz1; have := hd_len 45 (tl s.data.toList); omega
    have hz4 : (ba (hd 45 (aft 45 (tl s.data.toList)))).size ≤ 1048576 := by rw [ba_size]; rw [ba_size] at hz2; have := hd_len 45 (aft 45 (tl s.data.toList)); omega
    have hz5 : (ba (aft 45 (aft 45 (tl s.data.toList)))).size ≤ 1048576 := by rw [ba_size]; rw [ba_size] at hz2; have := aft_len 45 (aft 45 (tl s.data.toList)); omega
    rw [toList_ba] at HC1 HC2
    have HY : Hid (dp (ba (hd 45 (tl s.data.toList))).data.toList = ptY s.data.toList) := Lib.hid (by rw [toList_ba]; rfl)
    have HM : Hid (dp (ba (hd 45 (aft 45 (tl s.data.toList)))).data.toList = ptM s.data.toList) := Lib.hid (by rw [toList_ba]; rfl)
    have HD : Hid (dp (ba (aft 45 (aft 45 (tl s.data.toList)))).data.toList = ptD' s.data.toList) := Lib.hid (by rw [toList_ba]; rfl)
    generalize ptY s.data.toList = Y at *
    generalize ptM s.data.toList = M at *
    generalize ptD' s.data.toList = D at *
    generalize cc s.data.toList = C at *
    generalize ba (hd 45 (tl s.data.toList)) = sY at *
    generalize ba (hd 45 (aft 45 (tl s.data.toList))) = sM at *
    generalize ba (aft 45 (aft 45 (tl s.data.toList))) = sD at *
    generalize ba (aft 45 (tl s.data.toList)) = sR at *
    generalize stB 45 (aft 45 (tl s.data.toList)) = f2 at *
    generalize stB 45 (tl s.data.toList) = f1 at *
    generalize ba (tl s.data.toList) = sT at *
    clear hz1 hz2 hu ht he
    have HB := Lib.hid (box_below w (.cells #[.int .i64 0, .int .i64 0, .int .i64 0, .bool false] 25))
    have HZ := Lib.hid (D4F.new w 0 0 0 false 25)
    go_enter Tryd.func7, Tryd.ntmps7
    go_wp2_with fail
    refine (HCP.out _).mono ?_
    rintro e w0 ⟨rfl, hw0⟩
    rw [← hw0] at HB HZ
    clear hw0
    go_wp2_with fail
    refine (HC1.out _).mono ?_
    rintro e w1 ⟨rfl, q1, rfl⟩
    have k1 : Below w.heap.size w (w0.drewN q1) := below_drewN HB.out q1
    have HZ1 : Hid (D4F (w0.drewN q1) w.heap.size 0 0 0 false) := HZ
    generalize w0.drewN q1 = w1 at *
    go_wp2_with fail
    refine (HC2.out _).mono ?_
    rintro e w2 ⟨rfl, q2, rfl⟩
    have k2 : Below w.heap.size w (w1.drewN q2) := below_drewN k1 q2
    have HZ2 : Hid (D4F (w1.drewN q2) w.heap.size 0 0 0 false) := HZ1
    generalize w1.drewN q2 = w2 at *
    clear HC1 HC2 HCP k1 HZ HZ1 HB
    go_wp2_with fail
    refine (datePart sY Y _ hz3 HY.out (HE.out.below k2)).mono ?_
    rintro e w3 ⟨rfl, b3⟩
    have k3 := k2.trans (b3.mono k2.size)
    have HZ3 := Lib.hid (D4F.below b3 HZ2.out)
    clear b3 k2 HZ2
    go_wp2_with fail
    refine (datePart sM M _ hz4 HM.out (HE.out.below k3)).mono ?_
    rintro e w4 ⟨rfl, b4⟩
    have k4 := k3.trans (b4.mono k3.size)
    have HZ4 := Lib.hid (D4F.below b4 HZ3.out)
    clear b4 k3 HZ3
    go_wp2_with fail
    refine (datePart sD D _ hz5 HD.out (HE.out.below k4)).mono ?_
    rintro e w5 ⟨rfl, b5⟩
    have k5 := k4.trans (b5.mono k4.size)
    have HZ5 := Lib.hid (D4F.below b5 HZ4.out)
    clear b5 k4 HZ4
    have N6 : Hid (Below w5.heap.size w5 (w5.alloc (.cells #[.int .i64 Y, .int .i64 M, .int .i64 D, .bool C] 25)) ∧ D4 (w5.alloc (.cells #[.int .i64 Y, .int .i64 M, .int .i64 D, .bool C] 25)) w5.heap.size Y M D C) := Lib.hid ⟨box_below w5 _, D4.new w5 Y M D C _⟩
    have k6 := k5.trans (N6.out.1.mono k5.size)
    have HZ6 := Lib.hid (D4F.below N6.out.1 HZ5.out)
    have HT6 := Lib.hid (HT.out.below k6)
    have D6 := Lib.hid N6.out.2
    clear HZ5 N6
    cases hr : okB Y M D C with
    | false =>
      have HR := Lib.hid hr
      have HP := Lib.hid (HRd.out.no (fun h => by rw [hr] at h; cases h))
      clear hr
      go_wp2_with fail
      refine (iFormat Y M D C false ⟨#[]⟩ _ HR.out rfl HT6.out).mono ?_
      rintro e w6 ⟨rfl, b6⟩
      have k7 := k6.trans (b6.mono k6.size)
      obtain ⟨⟨hl, z0, z1, z2, z3⟩, f0, f1, f2, f3⟩ := D4F.below b6 HZ6.out
      clear b6 k6 HZ6 D6 k5
      go_wp2_with fail
      exact bodyPost_ret (v := .tuple #[dtV 0 0 0 false, .bool false]) (by simp [results, Tryd.results7, go_sem, *]) rfl ⟨_, HP.out, rfl, set4 k7 (Nat.le_refl _)⟩
    | true =>
      by_cases hx : ba (text Y M D C) = s
      · have HR := Lib.hid hr
        have HP : Hid (AnsD s (.tuple #[dtV Y M D C, .bool true])) := Lib.hid (.inl ⟨Y, M, D, C, hr, hx.symm, rfl⟩)
        have HF := Lib.hid (fun w ht => iFormat Y M D C true _ w hr rfl ht)
        rw [if_pos rfl, hx] at HF
        clear hr hx
        go_wp2_with fail
        refine (HF.out _ HT6.out).mono ?_
        rintro e w6 ⟨rfl, b6⟩
        have k7 := k6.trans (b6.mono k6.size)
        obtain ⟨⟨hl, z0, z1, z2, z3⟩, f0, f1, f2, f3⟩ := D4F.below b6 HZ6.out
        obtain ⟨hl2, d0, d1, d2, d3⟩ := D6.out.below b6
        clear b6 k6 HZ6 D6 k5
        go_wp2_with fail
        exact bodyPost_ret (v := .tuple #[dtV Y M D C, .bool true]) (by simp [results, Tryd.results7, go_sem, *]) rfl ⟨_, HP.out, rfl, set4 k7 (Nat.le_refl _)⟩
      · have HP := Lib.hid (HRd.out.no (fun _ => hx))
        have HF := Lib.hid (fun w ht => iFormat Y M D C true _ w hr rfl ht)
        rw [if_pos rfl] at HF
        have hnx := ne_forms hx
        generalize ba (text Y M D C) = T at *
        clear hr hx
        go_wp2_with fail
        refine (HF.out _ HT6.out).mono ?_
        rintro e w6 ⟨rfl, b6⟩
        have k7 := k6.trans (b6.mono k6.size)
        obtain ⟨⟨hl, z0, z1, z2, z3⟩, f0, f1, f2, f3⟩ := D4F.below b6 HZ6.out
        clear b6 k6 HZ6 D6 k5
        go_wp2_with fail
        exact bodyPost_ret (v := .tuple #[dtV 0 0 0 false, .bool false]) (by simp [results, Tryd.results7, go_sem, *]) rfl ⟨_, HP.out, rfl, set4 k7 (Nat.le_refl _)⟩
end Go.Proofs.YtlhkfhgnlopejaaDoor.Pd
