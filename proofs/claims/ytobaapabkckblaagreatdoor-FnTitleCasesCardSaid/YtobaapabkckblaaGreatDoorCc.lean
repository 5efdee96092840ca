/-
  Contracts of changeCase with both rules, of TitleCase and SentenceCase of the program.
-/
import Derived.Test.YtobaapabkckblaaGreatDoorTc
import Derived.Test.YtobaapabkckblaaGreatDoorTw
import Derived.Test.YtobaapabkckblaaGreatDoorTi
import Derived.OwnWalk
namespace Go.Proofs.YtobaapabkckblaaGreatDoor.Cc
open Go.RowKit Pl NmPl TiPl Word Lt Ra Ca Jo Br Mi Tc Cs Ti Kt
set_option linter.unusedVariables false
set_option linter.unusedSimpArgs false

/-- a title with its words changed -/
def caseV (F : List (List UInt8) → Nat → List UInt8 → List UInt8) (s : ByteArray) : Value :=
  if okT s.data.toList = true then .tuple #[.string (ba (jL (outs (F (words s.data.toList)) (words s.data.toList) (words s.data.toList).length))), .bool true] else .tuple #[.string ⟨#[]⟩, .bool false]
theorem case_form (F : List (List UInt8) → Nat → List UInt8 → List UInt8) (s : ByteArray) : ∃ t r, caseV F s = .tuple #[.string t, .bool r] := by unfold caseV; split <;> exact ⟨_, _, rfl⟩
theorem own_outs {w : World} {base : Nat} {e : TypeId} {v : Value} {k : Nat} {F : Nat → List UInt8 → List UInt8} {ws : List (List UInt8)} (h : w.ownsRow base e 1 v k (cs (outs F ws k))) : w.ownsRow base e 1 v (outs F ws k).length (cs (outs F ws k)) := by
  rw [outs_len]; exact h
theorem ok_words {w : World} {A : Option Addr} {l : List UInt8} (h : okT l = true) (hr : Rd w A (words l)) (hA : ∀ a, A = some a → a.block < w.heap.size) : Ok w A (words l).length (words l) :=
  ⟨hr, hA, rfl, by have := words_len l; have := okT_size h; omega, words_good h⟩

set_option maxRecDepth 100000 in
set_option maxHeartbeats 4000000 in
theorem ccTitle (s : ByteArray) (w : World) (hml : ML w) (hs : s.size ≤ 1048576) :
    Calls Tryz.prog 25 #[.string s, .func (.func 26) #[] #[]] w fun e w' => e = .returned (caseV tcF s) ∧ Below w.heap.size w w' := by
  have HV := Lib.hid (fun r h => isValidT s r w hml hs h)
  have HW := Lib.hid (Tw.words_any s w hs)
  obtain ⟨i0, hi, hz0, hz1, hz2⟩ := info_parts infoStr
  clear hml
  cases hr : okT s.data.toList with
  | false =>
    have HE : Hid (caseV tcF s = .tuple #[.string ⟨#[]⟩, .bool false]) := Lib.hid (by unfold caseV; rw [hr]; rfl)
    have HV' := Lib.hid (HV.out false hr)
    clear hr HV
    go_enter Tryz.func25, Tryz.ntmps25
    go_wp2_with fail
    refine HV'.out.mono ?_
    rintro e w' ⟨rfl, rfl⟩
    go_wp2_with fail
    go_ret2
    exact ⟨by rw [HE.out]; rfl, Below.refl _ _⟩
  | true =>
    have HE : Hid (caseV tcF s = .tuple #[.string (ba (jL (outs (tcF (words s.data.toList)) (words s.data.toList) (words s.data.toList).length))), .bool true]) := Lib.hid (by unfold caseV; rw [if_pos hr])
    have HV' := Lib.hid (HV.out true hr)
    have HOK := Lib.hid (fun (w : World) A h1 h2 => ok_words (w := w) (A := A) hr h1 h2)
    have HOff : Hid (off (words s.data.toList) ≤ 101) := Lib.hid (by rw [words_off]; have := okT_size hr; omega)
    have HLn : Hid ((words s.data.toList).length ≤ 101) := Lib.hid (by have := words_len s.data.toList; have := okT_size hr; omega)
    clear hr HV
    generalize words s.data.toList = W at *
    obtain ⟨n, HN⟩ : ∃ n, Hid (n = W.length) := ⟨_, Lib.hid rfl⟩
    rw [← HN.out] at HW HE HOK HLn
    have hnb := HLn.out
    go_enter Tryz.func25, Tryz.ntmps25
    go_wp2_with fail
    refine HV'.out.mono ?_
    rintro e w' ⟨rfl, rfl⟩
    go_wp2_with fail
    refine HW.out.mono ?_
    rintro e w1 ⟨v, rfl, ho, b1⟩
    rw [HN.out] at ho
    obtain ⟨A, c, rfl, hrd, hA, hc⟩ := rd_own ho
    rw [← HN.out] at hc
    have HO := Lib.hid (HOK.out w1 A hrd hA)
    have HB1 := Lib.hid b1
    have HF := Lib.hid (fun k (hk : k ≤ W.length) => outs_off (tcF W) (tcF_len W) W k hk)
    have hnl := HN.out
    clear ho hrd hA HOK b1
    rw [← hnl]
    have HNL := Lib.hid hnl
    clear hnl
    go_wp2_with fail
    go_loopw [7, 18] (fun v i wr => ∃ k : Nat, k ≤ n ∧ i = .int .i64 k ∧ wr.ownsRow w1.heap.size 9 1 v k (cs (outs (tcF W) W k)) ∧ Below w1.heap.size w1 wr) (fun _ i _ => n - (intOf i).toNat)
    case atStart => exact ⟨0, Nat.zero_le _, rfl, World.ownsRow_lit w1 #[] 0 (Nat.le_refl _) (Nat.zero_le _) rfl, (Below.refl _ _).alloc (Nat.le_refl _) _⟩
    case round =>
      obtain ⟨k, hk, rfl, hown, hbe⟩ := hrel
      have HOr := Lib.hid (HO.out.below hbe)
      by_cases hlt : k < n
      · have hx := List.getElem?_eq_getElem (show k < W.length by have := HNL.out; omega)
        obtain ⟨g, of, rfl, hcx⟩ := HOr.out.at hx
        have hxl := (HO.out.good _ (List.mem_of_getElem? hx)).2.2
        have HX := Lib.hid hx
        clear hx
        generalize W[k] = x at *
        have HR := Lib.hid (title_i (some ⟨g, of, none⟩) c n k W x wr HOr.out hlt HX.out)
        have HC := Lib.hid (letters_i x (tcK W k x) (tcK_le W k x) hxl)
        have HS : Hid (outs (tcF W) W (k + 1) = outs (tcF W) W k ++ [chg (tcK W k x) x]) := Lib.hid (by rw [outs_snoc _ _ _ HX.out, chg_tc])
        generalize tcK W k x = kk at *
        go_wp2_with fail
        refine HR.out.mono ?_
        rintro e w3 ⟨rfl, b3⟩
        go_wp2_with fail
        refine (HC.out _).mono ?_
        rintro e w4 ⟨rfl, b4⟩
        have ho4 := own_below (own_below hown b3) b4
        have hb4 := (hbe.trans (b3.mono hbe.size)).trans (b4.mono (Nat.le_trans hbe.size b3.size))
        go_wp2_with (first | (at_builtin; refine wpList_append_own _ rfl _ _ 30 rfl w1.heap.size 9 i0 (.string ByteArray.empty) 1 16 Tryz.underlying30 hi hz0 hz1 hz2 rfl (by decide) _ _ _ rfl (ho4.alloc _) ⟨w4.heap.size, 0, none⟩ 1 1 [.string (ba (chg kk x))] rfl rfl (cell_one_new _ _ _) (by simp [Value.oneCell']) (by unfold maxLen; omega) (by omega) (by have := hb4.size; simp; omega) ?_; intro v' w9 hown' hgrow _) | go_in)
        go_roundw
        case rel => exact ⟨k + 1, by omega, by go_num, by rw [HS.out, cs_snoc]; exact hown', (hb4.alloc hb4.size _).grown hgrow (by have := hb4.size; simp; omega) (fun g hg => (ho4.lt g hg).1)⟩
        case measure => simp [intOf]; omega
      · obtain rfl : k = n := by omega
        obtain ⟨A2, c2, rfl, hr2, hA2, hc2⟩ := rd_own (own_outs hown)
        have hoff : off (outs (tcF W) W k) ≤ 2097152 := by
          rw [HF.out k (by have := HNL.out; omega)]
          have h1 := off_take W k
          have h2 := HOff.out
          omega
        have hol := outs_len (tcF W) W k
        generalize outs (tcF W) W k = O at *
        rw [hol] at hc2
        have HJo := Lib.hid (join_any A2 c2 k O wr hr2 hA2 hol hc2 hoff)
        rw [hol]
        clear hol hr2 hA2 hoff hown
        go_wp2_with fail
        with_reducible refine (HJo.out).mono ?_
        rintro e w5 ⟨rfl, b5⟩
        go_wp2_with fail
        go_ret2
        exact ⟨by rw [HE.out]; rfl, HB1.out.trans ((hbe.trans (b5.mono hbe.size)).mono HB1.out.size)⟩

set_option maxRecDepth 100000 in
set_option maxHeartbeats 4000000 in
theorem ccSentence (s : ByteArray) (w : World) (hml : ML w) (hs : s.size ≤ 1048576) :
    Calls Tryz.prog 25 #[.string s, .func (.func 27) #[] #[]] w fun e w' => e = .returned (caseV scF s) ∧ Below w.heap.size w w' := by
  have HV := Lib.hid (fun r h => isValidT s r w hml hs h)
  have HW := Lib.hid (Tw.words_any s w hs)
  obtain ⟨i0, hi, hz0, hz1, hz2⟩ := info_parts infoStr
  clear hml
  cases hr : okT s.data.toList with
  | false =>
    have HE : Hid (caseV scF s = .tuple #[.string ⟨#[]⟩, .bool false]) := Lib.hid (by unfold caseV; rw [hr]; rfl)
    have HV' := Lib.hid (HV.out false hr)
    clear hr HV
    go_enter Tryz.func25, Tryz.ntmps25
    go_wp2_with fail
    refine HV'.out.mono ?_
    rintro e w' ⟨rfl, rfl⟩
    go_wp2_with fail
    go_ret2
    exact ⟨by rw [HE.out]; rfl, Below.refl _ _⟩
  | true =>
    have HE : Hid (caseV scF s = .tuple #[.string (ba (jL (outs (scF (words s.data.toList)) (words s.data.toList) (words s.data.toList).length))), .bool true]) := Lib.hid (by unfold caseV; rw [if_pos hr])
    have HV' := Lib.hid (HV.out true hr)
    have HOK := Lib.hid (fun (w : World) A h1 h2 => ok_words (w := w) (A := A) hr h1 h2)
    have HOff : Hid (off (words s.data.toList) ≤ 101) := Lib.hid (by rw [words_off]; have := okT_size hr; omega)
    have HLn : Hid ((words s.data.toList).length ≤ 101) := Lib.hid (by have := words_len s.data.toList; have := okT_size hr; omega)
    clear hr HV
    generalize words s.data.toList = W at *
    obtain ⟨n, HN⟩ : ∃ n, Hid (n = W.length) := ⟨_, Lib.hid rfl⟩
    rw [← HN.out] at HW HE HOK HLn
    have hnb := HLn.out
    go_enter Tryz.func25, Tryz.ntmps25
    go_wp2_with fail
    refine HV'.out.mono ?_
    rintro e w' ⟨rfl, rfl⟩
    go_wp2_with fail
    refine HW.out.mono ?_
    rintro e w1 ⟨v, rfl, ho, b1⟩
    rw [HN.out] at ho
    obtain ⟨A, c, rfl, hrd, hA, hc⟩ := rd_own ho
    rw [← HN.out] at hc
    have HO := Lib.hid (HOK.out w1 A hrd hA)
    have HB1 := Lib.hid b1
    have HF := Lib.hid (fun k (hk : k ≤ W.length) => outs_off (scF W) (scF_len W) W k hk)
    have hnl := HN.out
    clear ho hrd hA HOK b1
    rw [← hnl]
    have HNL := Lib.hid hnl
    clear hnl
    go_wp2_with fail
    go_loopw [7, 18] (fun v i wr => ∃ k : Nat, k ≤ n ∧ i = .int .i64 k ∧ wr.ownsRow w1.heap.size 9 1 v k (cs (outs (scF W) W k)) ∧ Below w1.heap.size w1 wr) (fun _ i _ => n - (intOf i).toNat)
    case atStart => exact ⟨0, Nat.zero_le _, rfl, World.ownsRow_lit w1 #[] 0 (Nat.le_refl _) (Nat.zero_le _) rfl, (Below.refl _ _).alloc (Nat.le_refl _) _⟩
    case round =>
      obtain ⟨k, hk, rfl, hown, hbe⟩ := hrel
      have HOr := Lib.hid (HO.out.below hbe)
      by_cases hlt : k < n
      · have hx := List.getElem?_eq_getElem (show k < W.length by have := HNL.out; omega)
        obtain ⟨g, of, rfl, hcx⟩ := HOr.out.at hx
        have hxl := (HO.out.good _ (List.mem_of_getElem? hx)).2.2
        have HX := Lib.hid hx
        clear hx
        generalize W[k] = x at *
        have HR := Lib.hid (sentence_i (some ⟨g, of, none⟩) c n k W x wr HOr.out hlt HX.out)
        have HC := Lib.hid (letters_i x (scK W k x) (scK_le W k x) hxl)
        have HS : Hid (outs (scF W) W (k + 1) = outs (scF W) W k ++ [chg (scK W k x) x]) := Lib.hid (by rw [outs_snoc _ _ _ HX.out, chg_sc])
        generalize scK W k x = kk at *
        go_wp2_with fail
        refine HR.out.mono ?_
        rintro e w3 ⟨rfl, b3⟩
        go_wp2_with fail
        refine (HC.out _).mono ?_
        rintro e w4 ⟨rfl, b4⟩
        have ho4 := own_below (own_below hown b3) b4
        have hb4 := (hbe.trans (b3.mono hbe.size)).trans (b4.mono (Nat.le_trans hbe.size b3.size))
        go_wp2_with (first | (at_builtin; refine wpList_append_own _ rfl _ _ 30 rfl w1.heap.size 9 i0 (.string ByteArray.empty) 1 16 Tryz.underlying30 hi hz0 hz1 hz2 rfl (by decide) _ _ _ rfl (ho4.alloc _) ⟨w4.heap.size, 0, none⟩ 1 1 [.string (ba (chg kk x))] rfl rfl (cell_one_new _ _ _) (by simp [Value.oneCell']) (by unfold maxLen; omega) (by omega) (by have := hb4.size; simp; omega) ?_; intro v' w9 hown' hgrow _) | go_in)
        go_roundw
        case rel => exact ⟨k + 1, by omega, by go_num, by rw [HS.out, cs_snoc]; exact hown', (hb4.alloc hb4.size _).grown hgrow (by have := hb4.size; simp; omega) (fun g hg => (ho4.lt g hg).1)⟩
        case measure => simp [intOf]; omega
      · obtain rfl : k = n := by omega
        obtain ⟨A2, c2, rfl, hr2, hA2, hc2⟩ := rd_own (own_outs hown)
        have hoff : off (outs (scF W) W k) ≤ 2097152 := by
          rw [HF.out k (by have := HNL.out; omega)]
          have h1 := off_take W k
          have h2 := HOff.out
          omega
        have hol := outs_len (scF W) W k
        generalize outs (scF W) W k = O at *
        rw [hol] at hc2
        have HJo := Lib.hid (join_any A2 c2 k O wr hr2 hA2 hol hc2 hoff)
        rw [hol]
        clear hol hr2 hA2 hoff hown
        go_wp2_with fail
        with_reducible refine (HJo.out).mono ?_
        rintro e w5 ⟨rfl, b5⟩
        go_wp2_with fail
        go_ret2
        exact ⟨by rw [HE.out]; rfl, HB1.out.trans ((hbe.trans (b5.mono hbe.size)).mono HB1.out.size)⟩

theorem titleCase_i (s : ByteArray) (w : World) (hml : ML w) (hs : s.size ≤ 1048576) :
    Calls Tryz.prog 7 #[.string s] w fun e w' => e = .returned (caseV tcF s) ∧ Below w.heap.size w w' := by
  obtain ⟨t, r, hV⟩ := case_form tcF s
  have H := Lib.hid (ccTitle s w hml hs)
  rw [hV] at H
  rw [hV]
  clear hV hml
  go_enter Tryz.func7, Tryz.ntmps7
  go_wp2_with fail
  refine H.out.mono ?_
  rintro e w1 ⟨rfl, b1⟩
  go_wp2_with fail
  go_ret2
  exact ⟨rfl, b1⟩

theorem sentenceCase_i (s : ByteArray) (w : World) (hml : ML w) (hs : s.size ≤ 1048576) :
    Calls Tryz.prog 8 #[.string s] w fun e w' => e = .returned (caseV scF s) ∧ Below w.heap.size w w' := by
  obtain ⟨t, r, hV⟩ := case_form scF s
  have H := Lib.hid (ccSentence s w hml hs)
  rw [hV] at H
  rw [hV]
  clear hV hml
  go_enter Tryz.func8, Tryz.ntmps8
  go_wp2_with fail
  refine H.out.mono ?_
  rintro e w1 ⟨rfl, b1⟩
  go_wp2_with fail
  go_ret2
  exact ⟨rfl, b1⟩
end Go.Proofs.YtobaapabkckblaaGreatDoor.Cc
