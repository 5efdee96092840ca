/-
  Contracts of the texts of ranges: pageText, rangeText, pagesText, FormatPages; l7Text, l7List, FormatPages of the model.
-/
import Derived.Test.YtocgpoafhocbbaaDoorPg1
import Derived.Test.YtocgpoafhocbbaaDoorPgTx
import Derived.Test.YtocgpoafhocbbaaDoorNum
import Derived.Test.YtocgpoafhocbbaaDoorCs
import Derived.LoopTactic
import Derived.Maps.AppendAt
namespace Go.Proofs.YtocgpoafhocbbaaDoor.PgF
open Go.RowKit Pl ReadPl PgPl PgTx Pg Num Cs
set_option linter.unusedSimpArgs false
set_option linter.unusedVariables false

theorem ret_str {a b : ByteArray} (h : a = b) : Ending.returned (.string a) = .returned (.string b) := by rw [h]
theorem one45 : (ByteArray.mk #[45]).size = 1 := rfl
theorem two44 : (ByteArray.mk #[44, 32]).size = 2 := rfl
theorem page_i (l : ByteArray) (n : Nat) (w : World) (hl : l.size ≤ 1) (hn : n ≤ 99999) (ht : Tab w) :
    Calls Tryd.prog 49 #[.string l, .int .i64 n] w fun e w' => e = .returned (.string (l ++ ba (Lib.decDigits n))) ∧ Below w.heap.size w w' := by
  have HI := Lib.hid (Tryd.strconv_Itoa n (by omega) (by omega) w ht)
  rw [itoa_nat] at HI
  have h5 : (ba (Lib.decDigits n)).size ≤ 5 := by rw [ba_size]; exact dec5 hn
  change Hid (Calls _ _ _ _ fun e w' => e = .returned (.string (ba (Lib.decDigits n))) ∧ _) at HI
  generalize ba (Lib.decDigits n) = o at *
  clear ht
  go_enter Tryd.func49, Tryd.ntmps49
  go_wp2_with fail
  refine HI.out.mono ?_
  rintro e w1 ⟨rfl, k', os, rfl⟩
  go_wp2_with fail
  go_ret
  exact ⟨rfl, grow_below w k' os⟩
/-- the box of a range -/
def P3 (W : World) (b : Nat) (l : ByteArray) (f t : Int) : Prop := b < W.heap.size ∧ W.cell? ⟨b, 0, none⟩ = some (.string l) ∧ W.cell? ⟨b, 1, none⟩ = some (.int .i64 f) ∧ W.cell? ⟨b, 2, none⟩ = some (.int .i64 t)
theorem P3.new (w : World) (l : ByteArray) (f t : Int) (ty : TypeId) : P3 (w.alloc (.cells #[.string l, .int .i64 f, .int .i64 t] ty)) w.heap.size l f t :=
  ⟨by simp, by simp, by simp, by simp⟩
theorem P3.below {W w' : World} {b : Nat} {l : ByteArray} {f t : Int} (h : P3 W b l f t) (hb : Below W.heap.size W w') : P3 w' b l f t := by
  obtain ⟨h0, h1, h2, h3⟩ := h
  exact ⟨Nat.lt_of_lt_of_le h0 hb.size, (hb.cell (p := ⟨b, 0, none⟩) h0).trans h1, (hb.cell (p := ⟨b, 1, none⟩) h0).trans h2, (hb.cell (p := ⟨b, 2, none⟩) h0).trans h3⟩

set_option maxHeartbeats 1000000 in
theorem range_i (l : ByteArray) (f t : Nat) (w : World) (hl : l.size ≤ 1) (hf : f ≤ 99999) (ht : t ≤ 99999) (hT : Tab w) :
    Calls Tryd.prog 37 #[prV l f t] w fun e w' => e = .returned (.string (ba (rT l.data.toList f t))) ∧ Below w.heap.size w w' := by
  have hb0 := box_below w (.cells #[.string l, .int .i64 (f : Int), .int .i64 (t : Int)] 34)
  have HB := Lib.hid hb0
  have HD := Lib.hid (P3.new w l f t 34)
  have HT := Lib.hid (hT.below hb0)
  clear hb0 hT
  have HC := Lib.hid (fun w ht => page_i l f w hl hf ht)
  have HC2 := Lib.hid (fun w htt => page_i l t w hl ht htt)
  have h5 : (ba (Lib.decDigits f)).size ≤ 5 := by rw [ba_size]; exact dec5 hf
  have h6 : (ba (Lib.decDigits t)).size ≤ 5 := by rw [ba_size]; exact dec5 ht
  have H1 : Hid (Lib.decDigits f = (ba (Lib.decDigits f)).data.toList) := Lib.hid (toList_ba _).symm
  have H2 : Hid (Lib.decDigits t = (ba (Lib.decDigits t)).data.toList) := Lib.hid (toList_ba _).symm
  have HE : Hid (rT l.data.toList f t = (l.data.toList ++ Lib.decDigits f) ++ (if f < t then 45 :: (l.data.toList ++ Lib.decDigits t) else [])) := Lib.hid rfl
  generalize ba (Lib.decDigits f) = p at *
  generalize ba (Lib.decDigits t) = q at *
  have hz : (l ++ p).size ≤ 6 := by rw [ByteArray.size_append]; omega
  have hz2 : (l ++ q).size ≤ 6 := by rw [ByteArray.size_append]; omega
  have H3 : Hid ((l ++ p).data.toList = l.data.toList ++ p.data.toList) := Lib.hid (by simp)
  have H4 : Hid ((l ++ q).data.toList = l.data.toList ++ q.data.toList) := Lib.hid (by simp)
  rw [H1.out, H2.out, ← H3.out, ← H4.out] at HE
  clear H1 H2 H3 H4
  generalize l ++ p = a at *
  generalize l ++ q = b at *
  by_cases hft : f < t
  · rw [if_pos hft] at HE
    go_enter Tryd.func37, Tryd.ntmps37
    go_wp2_with fail
    refine (HC.out _ HT.out).mono ?_
    rintro e w1 ⟨rfl, b1⟩
    have k1 := HB.out.trans (b1.mono HB.out.size)
    have D1 := Lib.hid (HD.out.below b1)
    have T1 := Lib.hid (HT.out.below b1)
    clear b1
    obtain ⟨hlt, c0, c1, c2⟩ := D1.out
    go_wp2_with fail
    refine (HC2.out _ T1.out).mono ?_
    rintro e w2 ⟨rfl, b2⟩
    have k2 := k1.trans (b2.mono k1.size)
    clear b2 hlt c0 c1 c2
    have hs : ((⟨#[45]⟩ : ByteArray) ++ b).size ≤ 7 := by rw [ByteArray.size_append, one45]; omega
    go_wp2_with fail
    go_ret
    refine ⟨ret_str ?_, k2⟩
    rw [HE.out]
    apply ByteArray.ext
    simp [ba]
  · rw [if_neg hft] at HE
    go_enter Tryd.func37, Tryd.ntmps37
    go_wp2_with fail
    refine (HC.out _ HT.out).mono ?_
    rintro e w1 ⟨rfl, b1⟩
    have k1 := HB.out.trans (b1.mono HB.out.size)
    have D1 := Lib.hid (HD.out.below b1)
    clear b1
    obtain ⟨hlt, c0, c1, c2⟩ := D1.out
    go_wp2_with fail
    go_ret
    refine ⟨ret_str ?_, k1⟩
    rw [HE.out]
    apply ByteArray.ext
    simp [ba]

set_option maxHeartbeats 1000000 in
theorem text_s (l : ByteArray) (f t : Nat) (w : World) (hl : l.size ≤ 1) (hf : f ≤ 99999) (ht : t ≤ 99999) :
    Calls Tryd.prog 39 #[prV l f t] w fun e w' => e = .returned (.string (ba (rT l.data.toList f t))) ∧ Below w.heap.size w w' := by
  have HC := Lib.hid (fun w => l1Num_nat f (by omega) w)
  have HC2 := Lib.hid (fun w => l1Num_nat t (by omega) w)
  have h5 : (ba (Lib.decDigits f)).size ≤ 5 := by rw [ba_size]; exact dec5 hf
  have h6 : (ba (Lib.decDigits t)).size ≤ 5 := by rw [ba_size]; exact dec5 ht
  have H1 : Hid (Lib.decDigits f = (ba (Lib.decDigits f)).data.toList) := Lib.hid (toList_ba _).symm
  have H2 : Hid (Lib.decDigits t = (ba (Lib.decDigits t)).data.toList) := Lib.hid (toList_ba _).symm
  have HE : Hid (rT l.data.toList f t = (l.data.toList ++ Lib.decDigits f) ++ (if f < t then 45 :: (l.data.toList ++ Lib.decDigits t) else [])) := Lib.hid rfl
  generalize ba (Lib.decDigits f) = p at *
  generalize ba (Lib.decDigits t) = q at *
  have hz : ¬ 9223372036854775807 < l.size + p.size := by omega
  have hz1 : (l ++ p).size ≤ 6 := by rw [ByteArray.size_append]; omega
  have H3 : Hid ((l ++ p).data.toList = l.data.toList ++ p.data.toList) := Lib.hid (by simp)
  rw [H1.out, H2.out, ← H3.out] at HE
  clear H1 H2 H3
  by_cases hft : f < t
  · rw [if_pos hft] at HE
    go_enter Tryd.func39, Tryd.ntmps39
    go_wp2_with fail
    go_quiet ((go_at_call 53; exact Calls.quiet_of (HC.out _)))
    go_wp2_with fail
    generalize l ++ p = a at *
    have hz8 : ¬ 9223372036854775807 < a.size + 1 := by omega
    have hz9 : ¬ 9223372036854775807 < a.size + 1 + l.size := by omega
    have hz10 : ¬ 9223372036854775807 < a.size + 1 + l.size + q.size := by omega
    go_region_with ((go_at_call 53; refine (HC2.out _).mono ?_; rintro e w7 ⟨rfl, q7, rfl⟩))
    all_goals go_wp2_with fail
    all_goals go_ret
    all_goals
      refine ⟨ret_str ?_, ?_⟩
      · rw [HE.out]
        apply ByteArray.ext
        simp [ba]
      · have := box_below w (.cells #[.string l, .int .i64 (f : Int), .int .i64 (t : Int)] 34)
        exact below_drewN this _
  · rw [if_neg hft] at HE
    go_enter Tryd.func39, Tryd.ntmps39
    go_wp2_with fail
    go_quiet ((go_at_call 53; exact Calls.quiet_of (HC.out _)))
    go_wp2_with fail
    go_ret
    refine ⟨ret_str ?_, ?_⟩
    · rw [HE.out]
      apply ByteArray.ext
      simp [ba]
    · have := box_below w (.cells #[.string l, .int .i64 (f : Int), .int .i64 (t : Int)] 34)
      exact below_drewN this _
end Go.Proofs.YtocgpoafhocbbaaDoor.PgF
