/-
  Contracts: strings.Cut at a hyphen, ExpandRange of the program.
-/
import Derived.Test.YtiekplndcpcdkaaDoorPgPd
namespace Go.Proofs.YtiekplndcpcdkaaDoor.PgEi
set_option linter.ambiguousOpen false
open Go.RowKit Pl ReadPl PgPl PgTx Pg PgF PgCo PgC PgEx NmPl PgBx PgPd Stands Cut SplitPl
open Num (Tab Tab.below)
open Read (Errs Errs.below)
set_option linter.unusedSimpArgs false
set_option linter.unusedVariables false

theorem cut_any (s : ByteArray) (w : World) (hs : s.size ≤ maxLen) :
    Calls Tryd.prog 12 #[.string s, .string ⟨#[45]⟩] w fun e w' => e = .returned (.tuple #[.string (ba (fst s.data.toList)), .string (ba (snd s.data.toList)), .bool (stB 45 s.data.toList)]) ∧ Below w.heap.size w w' := by
  cases h : stB 45 s.data.toList with
  | true =>
    refine (cut_yes s 45 w hs h).mono ?_
    rintro e w' ⟨rfl, q, rfl⟩
    refine ⟨?_, Num.below_drewN (Below.refl _ w) q⟩
    unfold fst snd
    rw [if_pos h, if_pos h]
  | false =>
    refine (cut_no s 45 w h).mono ?_
    rintro e w' ⟨rfl, rfl⟩
    refine ⟨?_, Below.refl _ _⟩
    unfold fst snd
    rw [if_neg (by rw [h]; exact Bool.false_ne_true), if_neg (by rw [h]; exact Bool.false_ne_true), ba_toList]
    rfl
theorem fst_len (s : List UInt8) : (fst s).length ≤ s.length := by
  unfold fst
  split
  · rename_i h
    have := congrArg List.length (hd_rest h)
    rw [List.length_append] at this
    omega
  · exact Nat.le_refl _
theorem snd_len (s : List UInt8) : (snd s).length ≤ s.length := by
  unfold snd
  split
  · exact rest_len 45 s
  · exact Nat.zero_le _
theorem comp_len (a b : List UInt8) : (comp a b).length ≤ max a.length b.length := by
  unfold comp
  rw [List.length_append, List.length_take]
  omega

/-- v is the answer of ExpandRange at s -/
def AnsE (s : ByteArray) (v : Value) : Prop :=
  (∃ r, Ex s.data.toList r ∧ v = .tuple #[prV r.l r.f r.t, .bool true]) ∨ ((∀ r, ¬ Ex s.data.toList r) ∧ v = .tuple #[prV ⟨#[]⟩ 0 0, .bool false])
theorem AnsE.uniq {s : ByteArray} {v v' : Value} (h : AnsE s v) (h' : AnsE s v') : v = v' := by
  rcases h with ⟨r, hr, rfl⟩ | ⟨hno, rfl⟩ <;> rcases h' with ⟨r', hr', rfl⟩ | ⟨hno', rfl⟩
  · rw [ex_one hr hr']
  · exact absurd hr (hno' r)
  · exact absurd hr' (hno r')
  · rfl
/-- does the style write s -/
def HitE (r : Pr) (s : ByteArray) (st : Int) : Prop := colB r st = true ∧ colS true r st = s
theorem hit_ex {r : Pr} {s : ByteArray} {st : Int} (h : HitE r s st) : Ex s.data.toList r := by
  obtain ⟨h1, h2⟩ := h
  unfold colB at h1
  rw [Bool.and_eq_true, decide_eq_true_eq] at h1
  refine ⟨h1.1, st, h1.2, ?_⟩
  rw [← h2]
  exact (toList_ba _).symm
theorem ex_hit {r : Pr} {s : ByteArray} (h : Ex s.data.toList r) : ∃ st : Int, (1 ≤ st ∧ st ≤ 3) ∧ HitE r s st := by
  obtain ⟨hok, st, h13, hs⟩ := h
  refine ⟨st, h13, ?_, ?_⟩
  · unfold colB; rw [hok, decide_eq_true h13]; rfl
  · show ba (cT r.l.data.toList r.f.toNat r.t.toNat st) = s
    rw [hs, ba_toList]

set_option maxHeartbeats 2000000 in
theorem expand_i (s : ByteArray) (w : World) (hs : s.size ≤ 1048576) (ht : Tab w) (he : Errs w) :
    Calls Tryd.prog 5 #[.string s] w fun e w' => ∃ v, AnsE s v ∧ e = .returned v ∧ Below w.heap.size w w' := by
  have hb0 := box_below w (.cells #[.string ⟨#[]⟩, .int .i64 0, .int .i64 0] 23)
  have HB := Lib.hid hb0
  have HD := Lib.hid (P3F.new w ⟨#[]⟩ 0 0 23)
  have HT := Lib.hid (ht.below hb0)
  have HE := Lib.hid (he.below hb0)
  have HCut := Lib.hid (fun w => cut_any s w (by unfold maxLen; omega))
  have hz := len_size s
  have hf := fst_len s.data.toList
  have hl := snd_len s.data.toList
  have hc := comp_len (fst s.data.toList) (snd s.data.toList)
  have HW := Lib.hid (fun w => whole_i (ba (fst s.data.toList)) (ba (snd s.data.toList)) w (by rw [ba_size]; omega) (by rw [ba_size]; omega))
  have HR := Lib.hid (fun w ht he => ends_i (ba (fst s.data.toList)) (ba (comp (fst s.data.toList) (snd s.data.toList))) w (by rw [ba_size]; omega) (by rw [ba_size]; omega) ht he)
  rw [toList_ba, toList_ba] at HW HR
  have HV : Hid (∀ r, Ex s.data.toList r → r = cand s.data.toList) := Lib.hid (fun r h => (cand_of h).symm)
  have HCd : Hid (cand s.data.toList = ⟨ba (letL (fst s.data.toList)), (num (numL (fst s.data.toList))).1, (num (numL (comp (fst s.data.toList) (snd s.data.toList)))).1⟩) := Lib.hid rfl
  rw [HCd.out] at HV
  clear ht he hb0 hz hf hl hc HCd
  generalize ba (letL (fst s.data.toList)) = l at *
  generalize (num (numL (fst s.data.toList))).1 = f at *
  generalize (num (numL (comp (fst s.data.toList) (snd s.data.toList)))).1 = t at *
  generalize ba (comp (fst s.data.toList) (snd s.data.toList)) = y at *
  generalize ba (fst s.data.toList) = x at *
  generalize ba (snd s.data.toList) = x2 at *
  generalize stB 45 s.data.toList = found at *
  go_enter Tryd.func5, Tryd.ntmps5
  go_wp2_with fail
  refine (HCut.out _).mono ?_
  rintro e w1 ⟨rfl, b1⟩
  have HT1 := Lib.hid (HT.out.below b1)
  have HE1 := Lib.hid (HE.out.below b1)
  have HD1 := Lib.hid (HD.out.below b1)
  have HB1 := Lib.hid (HB.out.trans (b1.mono HB.out.size))
  clear b1 HT HE HB HD HCut
  go_wp2_with fail
  refine (HW.out _).mono ?_
  rintro e w2 ⟨rfl, b2⟩
  have HT2 := Lib.hid (HT1.out.below b2)
  have HE2 := Lib.hid (HE1.out.below b2)
  have HD2 := Lib.hid (HD1.out.below b2)
  have HB2 := Lib.hid (HB1.out.trans (b2.mono HB1.out.size))
  clear b2 HT1 HE1 HB1 HD1 HW
  go_wp2_with fail
  refine (HR.out _ HT2.out HE2.out).mono ?_
  rintro e w3 ⟨rfl, b3⟩
  have HT3 := Lib.hid (HT2.out.below b3)
  have HD3 := Lib.hid (HD2.out.below b3)
  have HB3 := Lib.hid (HB2.out.trans (b3.mono HB2.out.size))
  clear b3 HT2 HE2 HB2 HD2 HR
  have hne : w.heap.size < w3.heap.size := HD3.out.1.1
  have hb5 := box_below w3 (.cells #[.string l, .int .i64 f, .int .i64 t] 23)
  have HN := Lib.hid (P3F.new w3 l f t 23)
  have HT5 := Lib.hid (HT3.out.below hb5)
  have HD5 := Lib.hid (HD3.out.below hb5)
  have HB5 := Lib.hid (HB3.out.trans (hb5.mono HB3.out.size))
  clear hb5 HT3 HD3 HB3
  go_upto_region 3 with fail
  generalize w3.alloc (.cells #[.string l, .int .i64 f, .int .i64 t] 23) = w5 at *
  generalize w3.heap.size = b at *
  go_wp2_with fail
  go_loopw [8] (fun i wr => ∃ k : Nat, (1 ≤ k ∧ k ≤ 4) ∧ i = .int .i64 k ∧ Hid (∀ st : Int, 1 ≤ st → st < k → ¬ HitE ⟨l, f, t⟩ s st) ∧ Hid (Below w5.heap.size w5 wr)) (fun i _ => 4 - (intOf i).toNat)
  case atStart => exact ⟨1, by omega, rfl, Lib.hid (fun st h1 h2 => by omega), Lib.hid (Below.refl _ _)⟩
  case round =>
    obtain ⟨k, ⟨hk1, hk4⟩, rfl, HNo, HK⟩ := hrel
    have HT6 := Lib.hid (HT5.out.below HK.out)
    have HD6 := Lib.hid (HD5.out.below HK.out)
    have HN6 := Lib.hid (HN.out.below HK.out)
    have HB6 := Lib.hid (HB5.out.trans (HK.out.mono HB5.out.size))
    obtain ⟨⟨hlt, c0, c1, c2⟩, f0, f1, f2⟩ := HN6.out
    by_cases hlt4 : k < 4
    · have hd3 : decide ((k : Int) ≤ 3) = true := by simp; omega
      have hkw : IntKind.i64.wrap ((k : Int) + 1) = (k : Int) + 1 := IntWalk.i64_in _ (by omega)
      obtain ⟨z, hz⟩ : ∃ z, colB ⟨l, f, t⟩ (k : Int) = z := ⟨_, rfl⟩
      obtain ⟨s', hv⟩ : ∃ s', colS z ⟨l, f, t⟩ (k : Int) = s' := ⟨_, rfl⟩
      have HC := Lib.hid (collapse_i l f t (k : Int) z s' wr HT6.out hz hv)
      have HH : Hid (HitE ⟨l, f, t⟩ s (k : Int) ↔ z = true ∧ s' = s) := Lib.hid (by
        unfold HitE
        constructor
        · rintro ⟨h1, h2⟩
          rw [hz] at h1
          subst h1
          exact ⟨rfl, hv.symm.trans h2⟩
        · rintro ⟨h1, h2⟩
          subst h1
          exact ⟨hz, hv.trans h2⟩)
      have HStep : Hid (¬ HitE ⟨l, f, t⟩ s (k : Int) → ∀ st : Int, 1 ≤ st → st < (k + 1 : Nat) → ¬ HitE ⟨l, f, t⟩ s st) := Lib.hid (fun hn st h1 h2 => by
        by_cases h : st = k
        · rw [h]; exact hn
        · exact HNo.out st h1 (by omega))
      clear hz hv HNo HT6
      go_wp2_with fail
      refine HC.out.mono ?_
      rintro e w7 ⟨rfl, b7⟩
      have HK7 := Lib.hid (HK.out.trans (b7.mono HK.out.size))
      have HD7 := Lib.hid (HD6.out.below b7)
      have HN7 := Lib.hid (HN6.out.below b7)
      have HB7 := Lib.hid (HB6.out.trans (b7.mono HB6.out.size))
      clear b7 hlt c0 c1 c2 f0 f1 f2 HK HD6 HN6 HB6 HC
      cases z with
      | false =>
        have HS2 := Lib.hid (HStep.out (fun h => by have := (HH.out.1 h).1; cases this))
        go_wp2_with fail
        go_roundw
        case rel => exact ⟨k + 1, by omega, by go_num, HS2, HK7⟩
        case measure => simp [intOf]; omega
      | true =>
        by_cases he : s' = s
        · subst he
          have HP : Hid (AnsE s' (.tuple #[prV l f t, .bool true])) := Lib.hid (.inl ⟨⟨l, f, t⟩, hit_ex (HH.out.2 ⟨rfl, rfl⟩), rfl⟩)
          clear HH HStep
          obtain ⟨⟨hlt, c0, c1, c2⟩, f0, f1, f2⟩ := HN7.out
          obtain ⟨⟨hlt', d0, d1, d2⟩, g0, g1, g2⟩ := HD7.out
          go_wp2_with fail
          exact bodyPost_ret (v := .tuple #[prV l f t, .bool true]) (by simp [results, Tryd.results5, go_sem, *]) rfl ⟨_, HP.out, rfl, set3 HB7.out (Nat.le_refl _)⟩
        · have hnx := Read.ne_forms he
          have HS2 := Lib.hid (HStep.out (fun h => he (HH.out.1 h).2))
          clear he HH HStep
          go_wp2_with fail
          go_roundw
          case rel => exact ⟨k + 1, by omega, by go_num, HS2, HK7⟩
          case measure => simp [intOf]; omega
    · have hd3 : decide ((k : Int) ≤ 3) = false := by simp; omega
      have HP : Hid (AnsE s (.tuple #[prV ⟨#[]⟩ 0 0, .bool false])) := Lib.hid (.inr ⟨fun r h => by
        obtain ⟨st, h13, hh⟩ := ex_hit h
        rw [HV.out r h] at hh
        exact HNo.out st h13.1 (by omega) hh, rfl⟩)
      clear HNo hlt c0 c1 c2 f0 f1 f2
      obtain ⟨⟨hlt', d0, d1, d2⟩, g0, g1, g2⟩ := HD6.out
      go_wp2_with fail
      exact bodyPost_ret (v := .tuple #[prV ⟨#[]⟩ 0 0, .bool false]) (by simp [results, Tryd.results5, go_sem, *]) rfl ⟨_, HP.out, rfl, set3 HB6.out (Nat.le_refl _)⟩
end Go.Proofs.YtiekplndcpcdkaaDoor.PgEi
