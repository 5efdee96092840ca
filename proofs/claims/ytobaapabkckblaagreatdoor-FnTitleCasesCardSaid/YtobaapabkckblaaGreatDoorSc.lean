/-
  Contracts of TitleCase and SentenceCase of the model.
-/
import Derived.Test.YtobaapabkckblaaGreatDoorCc
import Derived.Test.YtobaapabkckblaaGreatDoorLw
namespace Go.Proofs.YtobaapabkckblaaGreatDoor.Sc
open Go.RowKit Pl NmPl TiPl Word Lt Ra Ca Jo Br Mi Tc Cs Ti Kt Cc
set_option linter.unusedVariables false
set_option linter.unusedSimpArgs false

theorem brace_x (x : List UInt8) (hl : x.length ≤ 100) (r : Bool) (hr : brB x = r) (w : World) :
    Calls Tryz.prog 30 #[.string (ba x)] w fun e w' => e = .returned (.bool r) ∧ w = w' :=
  brace_s (ba x) r w (by rw [ba_size]; omega) (by rw [toList_ba]; exact hr)
theorem minor_x (x : List UInt8) (hl : x.length ≤ 100) (r : Bool) (hr : minorB x = r) (w : World) :
    Calls Tryz.prog 31 #[.string (ba x)] w fun e w' => e = .returned (.bool r) ∧ Below w.heap.size w w' :=
  minor_s (ba x) w (by rw [ba_size]; omega) r (by rw [toList_ba]; exact hr)
theorem raise_x (x : List UInt8) (hl : x.length ≤ 100) (w : World) : Calls Tryz.prog 34 #[.string (ba x)] w fun e w' => e = .returned (.string (ba (raise x))) ∧ Below w.heap.size w w' := by
  have := raise_s (ba x) w (by rw [ba_size]; omega)
  rwa [toList_ba] at this
theorem calm_x (x : List UInt8) (hl : x.length ≤ 100) (w : World) : Calls Tryz.prog 36 #[.string (ba x)] w fun e w' => e = .returned (.string (ba (calm x))) ∧ Below w.heap.size w w' := by
  have := calm_s (ba x) w (by rw [ba_size]; omega)
  rwa [toList_ba] at this
theorem low_x (x : List UInt8) (hl : x.length ≤ 100) (w : World) : Calls Tryz.prog 33 #[.string (ba x)] w fun e w' => e = .returned (.string (ba (x.map Lib.lowerB))) ∧ Below w.heap.size w w' := by
  have := low_all (ba x) w (by rw [ba_size]; omega)
  rwa [toList_ba] at this
theorem drewB (w : World) (q : Nat) : Below w.heap.size w (w.drewN q) := ⟨rfl, rfl, rfl, Nat.le_refl _, fun _ _ => rfl⟩

set_option maxRecDepth 100000 in
set_option maxHeartbeats 8000000 in
theorem titleCase_s (s : ByteArray) (w : World) (hs : s.size ≤ 1048576) :
    Calls Tryz.prog 9 #[.string s] w fun e w' => e = .returned (caseV tcF s) ∧ Below w.heap.size w w' := by
  have HV := Lib.hid (fun r h => l6Good_any s r w hs h)
  have HW := Lib.hid (Lw.l6Words_any s w hs)
  obtain ⟨i0, hi, hz0, hz1, hz2⟩ := info_parts infoStr
  cases hr : okT s.data.toList with
  | false =>
    have HE : Hid (caseV tcF s = .tuple #[.string ⟨#[]⟩, .bool false]) := Lib.hid (by unfold caseV; rw [hr]; rfl)
    have HV' := Lib.hid (HV.out false hr)
    clear hr HV
    go_enter Tryz.func9, Tryz.ntmps9
    go_wp2_with fail
    refine HV'.out.mono ?_
    rintro e w' ⟨rfl, rfl⟩
    go_wp2_with fail
    go_ret2
    exact ⟨by rw [HE.out]; rfl, Below.refl _ _⟩
  | true =>
    have HE : Hid (caseV tcF s = .tuple #[.string (ba (jL (outs (tcF (words s.data.toList)) (words s.data.toList) (words s.data.toList).length))), .bool true]) := Lib.hid (by unfold caseV; rw [if_pos hr])
    have HV' := Lib.hid (HV.out true hr)
    have HOK := Lib.hid (fun (w : World) A h1 h2 => ok_words (w := w) (A := A) hr h1 h2)
    have HOff : Hid (off (words s.data.toList) ≤ 101) := Lib.hid (by rw [words_off]; have := okT_size hr; omega)
    have HLn : Hid ((words s.data.toList).length ≤ 101) := Lib.hid (by have := words_len s.data.toList; have := okT_size hr; omega)
    clear hr HV
    generalize words s.data.toList = W at *
    obtain ⟨n, HN⟩ : ∃ n, Hid (n = W.length) := ⟨_, Lib.hid rfl⟩
    rw [← HN.out] at HW HE HOK HLn
    have hnb := HLn.out
    go_enter Tryz.func9, Tryz.ntmps9
    go_wp2_with fail
    refine HV'.out.mono ?_
    rintro e w' ⟨rfl, rfl⟩
    go_wp2_with fail
    refine HW.out.mono ?_
    rintro e w1 ⟨v, rfl, ho, b1⟩
    rw [HN.out] at ho
    obtain ⟨A, c, rfl, hrd, hA, hc⟩ := rd_own ho
    rw [← HN.out] at hc
    have HO := Lib.hid (HOK.out w1 A hrd hA)
    have HB1 := Lib.hid b1
    have HF := Lib.hid (fun k (hk : k ≤ W.length) => outs_off (tcF W) (tcF_len W) W k hk)
    have hnl := HN.out
    clear ho hrd hA HOK b1
    rw [← hnl]
    have HNL := Lib.hid hnl
    clear hnl
    go_wp2_with fail
    go_loopw [5, 6] (fun v i wr => ∃ k : Nat, k ≤ n ∧ i = .int .i64 k ∧ wr.ownsRow w1.heap.size 9 1 v k (cs (outs (tcF W) W k)) ∧ Below w1.heap.size w1 wr) (fun _ i _ => n - (intOf i).toNat)
    case atStart => exact ⟨0, Nat.zero_le _, rfl, World.ownsRow_lit w1 #[] 0 (Nat.le_refl _) (Nat.zero_le _) rfl, (Below.refl _ _).alloc (Nat.le_refl _) _⟩
    case round =>
      obtain ⟨k, hk, rfl, hown, hbe⟩ := hrel
      have HOr := Lib.hid (HO.out.below hbe)
      by_cases hlt : k < n
      · have hx := List.getElem?_eq_getElem (show k < W.length by have := HNL.out; omega)
        obtain ⟨g, of, rfl, hcx⟩ := HOr.out.at hx
        have hxl := (HO.out.good _ (List.mem_of_getElem? hx)).2.2
        have HX := Lib.hid hx
        clear hx
        generalize W[k] = x at *
        have HS : Hid (outs (tcF W) W (k + 1) = outs (tcF W) W k ++ [tcF W k x]) := Lib.hid (outs_snoc _ _ _ HX.out)
        have HRa := Lib.hid (raise_x x hxl)
        have HLo := Lib.hid (low_x x hxl)
        cases hb : brB x with
        | true =>
          have HBr := Lib.hid (brace_x x hxl true hb)
          have HE2 : Hid (tcF W k x = x) := Lib.hid (by unfold tcF; rw [if_pos hb])
          clear hb
          go_wp2_with fail
          with_reducible refine (HBr.out _).mono ?_
          rintro e w' ⟨rfl, rfl⟩
          go_wp2_with (first | (at_builtin; refine wpList_append_own _ rfl _ _ 30 rfl w1.heap.size 9 i0 (.string ByteArray.empty) 1 16 Tryz.underlying30 hi hz0 hz1 hz2 rfl (by decide) _ _ _ rfl (hown.alloc _) ⟨(wr).heap.size, 0, none⟩ 1 1 [.string (ba (x))] rfl rfl (cell_one_new _ _ _) (by simp [Value.oneCell']) (by unfold maxLen; omega) (by omega) (by have h1 := hbe.size; (try simp at h1); simp; omega) ?_; intro v' w9 hown' hgrow _) | go_in)
          go_roundw
          case rel => exact ⟨k + 1, by omega, by go_num, by rw [HS.out, HE2.out, cs_snoc]; exact hown', (hbe.alloc hbe.size _).grown hgrow (by have h1 := hbe.size; (try simp at h1); simp; omega) (fun g hg => (hown.lt g hg).1)⟩
          case measure => simp [intOf]; omega
        | false =>
          have HBr := Lib.hid (brace_x x hxl false hb)
          cases hm : minorB x with
          | false =>
            have HMi := Lib.hid (minor_x x hxl false hm)
            have HE2 : Hid (tcF W k x = raise x) := Lib.hid (by unfold tcF; rw [if_neg (by rw [hb]; decide), if_neg (fun h => by rw [hm] at h; cases h.1)])
            clear hb hm
            go_wp2_with fail
            with_reducible refine (HBr.out _).mono ?_
            rintro e w' ⟨rfl, rfl⟩
            go_wp2_with fail
            with_reducible refine (HMi.out _).mono ?_
            rintro e w3 ⟨rfl, bw3⟩
            have how3 := own_below hown bw3
            have hbw3 := hbe.trans (bw3.mono hbe.size)
            go_wp2_with fail
            with_reducible refine (HRa.out _).mono ?_
            rintro e w4 ⟨rfl, bw4⟩
            have how4 := own_below how3 bw4
            have hbw4 := hbw3.trans (bw4.mono hbw3.size)
            go_wp2_with (first | (at_builtin; refine wpList_append_own _ rfl _ _ 30 rfl w1.heap.size 9 i0 (.string ByteArray.empty) 1 16 Tryz.underlying30 hi hz0 hz1 hz2 rfl (by decide) _ _ _ rfl (how4.alloc _) ⟨(w4).heap.size, 0, none⟩ 1 1 [.string (ba (raise x))] rfl rfl (cell_one_new _ _ _) (by simp [Value.oneCell']) (by unfold maxLen; omega) (by omega) (by have h1 := hbw4.size; (try simp at h1); simp; omega) ?_; intro v' w9 hown' hgrow _) | go_in)
            go_roundw
            case rel => exact ⟨k + 1, by omega, by go_num, by rw [HS.out, HE2.out, cs_snoc]; exact hown', (hbw4.alloc hbw4.size _).grown hgrow (by have h1 := hbw4.size; (try simp at h1); simp; omega) (fun g hg => (how4.lt g hg).1)⟩
            case measure => simp [intOf]; omega
          | true =>
            have HMi := Lib.hid (minor_x x hxl true hm)
            cases hs : TiPl.starts W k with
            | true =>
              have HSt := Lib.hid (fun w (h : Ok w (some ⟨g, of, none⟩) n W) => h.starts (c := c) hlt true hs)
              have HE2 : Hid (tcF W k x = raise x) := Lib.hid (by unfold tcF; rw [if_neg (by rw [hb]; decide), if_neg (fun h => by rw [hs] at h; cases h.2.1)])
              clear hb hm hs
              go_wp2_with fail
              with_reducible refine (HBr.out _).mono ?_
              rintro e w' ⟨rfl, rfl⟩
              go_wp2_with fail
              with_reducible refine (HMi.out _).mono ?_
              rintro e w3 ⟨rfl, bw3⟩
              have how3 := own_below hown bw3
              have hbw3 := hbe.trans (bw3.mono hbe.size)
              have HO3 := Lib.hid (HOr.out.below bw3)
              go_wp2_with fail
              with_reducible refine (HSt.out _ HO3.out).mono ?_
              rintro e w' ⟨rfl, q, rfl⟩
              have hoq := own_below how3 (drewB w3 q)
              have hbq := hbw3.trans ((drewB w3 q).mono hbw3.size)
              go_wp2_with fail
              with_reducible refine (HRa.out _).mono ?_
              rintro e w4 ⟨rfl, bw4⟩
              have how4 := own_below hoq bw4
              have hbw4 := hbq.trans (bw4.mono hbq.size)
              go_wp2_with (first | (at_builtin; refine wpList_append_own _ rfl _ _ 30 rfl w1.heap.size 9 i0 (.string ByteArray.empty) 1 16 Tryz.underlying30 hi hz0 hz1 hz2 rfl (by decide) _ _ _ rfl (how4.alloc _) ⟨(w4).heap.size, 0, none⟩ 1 1 [.string (ba (raise x))] rfl rfl (cell_one_new _ _ _) (by simp [Value.oneCell']) (by unfold maxLen; omega) (by omega) (by have h1 := hbw4.size; (try simp at h1); simp; omega) ?_; intro v' w9 hown' hgrow _) | go_in)
              go_roundw
              case rel => exact ⟨k + 1, by omega, by go_num, by rw [HS.out, HE2.out, cs_snoc]; exact hown', (hbw4.alloc hbw4.size _).grown hgrow (by have h1 := hbw4.size; (try simp at h1); simp; omega) (fun g hg => (how4.lt g hg).1)⟩
              case measure => simp [intOf]; omega
            | false =>
              have HSt := Lib.hid (fun w (h : Ok w (some ⟨g, of, none⟩) n W) => h.starts (c := c) hlt false hs)
              by_cases hl2 : k + 1 < n
              · have hd2 : decide ((k : Int) + 1 < (n : Int)) = true := by simp; omega
                have HE2 : Hid (tcF W k x = x.map Lib.lowerB) := Lib.hid (by unfold tcF; rw [if_neg (by rw [hb]; decide), if_pos ⟨hm, hs, by rw [← HNL.out]; exact hl2⟩])
                clear hb hm hs hl2
                go_wp2_with fail
                with_reducible refine (HBr.out _).mono ?_
                rintro e w' ⟨rfl, rfl⟩
                go_wp2_with fail
                with_reducible refine (HMi.out _).mono ?_
                rintro e w3 ⟨rfl, bw3⟩
                have how3 := own_below hown bw3
                have hbw3 := hbe.trans (bw3.mono hbe.size)
                have HO3 := Lib.hid (HOr.out.below bw3)
                go_wp2_with fail
                with_reducible refine (HSt.out _ HO3.out).mono ?_
                rintro e w' ⟨rfl, q, rfl⟩
                have hoq := own_below how3 (drewB w3 q)
                have hbq := hbw3.trans ((drewB w3 q).mono hbw3.size)
                go_wp2_with fail
                with_reducible refine (HLo.out _).mono ?_
                rintro e w4 ⟨rfl, bw4⟩
                have how4 := own_below hoq bw4
                have hbw4 := hbq.trans (bw4.mono hbq.size)
                go_wp2_with (first | (at_builtin; refine wpList_append_own _ rfl _ _ 30 rfl w1.heap.size 9 i0 (.string ByteArray.empty) 1 16 Tryz.underlying30 hi hz0 hz1 hz2 rfl (by decide) _ _ _ rfl (how4.alloc _) ⟨(w4).heap.size, 0, none⟩ 1 1 [.string (ba (x.map Lib.lowerB))] rfl rfl (cell_one_new _ _ _) (by simp [Value.oneCell']) (by unfold maxLen; omega) (by omega) (by have h1 := hbw4.size; (try simp at h1); simp; omega) ?_; intro v' w9 hown' hgrow _) | go_in)
                go_roundw
                case rel => exact ⟨k + 1, by omega, by go_num, by rw [HS.out, HE2.out, cs_snoc]; exact hown', (hbw4.alloc hbw4.size _).grown hgrow (by have h1 := hbw4.size; (try simp at h1); simp; omega) (fun g hg => (how4.lt g hg).1)⟩
                case measure => simp [intOf]; omega
              · have hd2 : decide ((k : Int) + 1 < (n : Int)) = false := by simp; omega
                have HE2 : Hid (tcF W k x = raise x) := Lib.hid (by unfold tcF; rw [if_neg (by rw [hb]; decide), if_neg (fun h => by have := h.2.2; rw [← HNL.out] at this; exact hl2 this)])
                clear hb hm hs hl2
                go_wp2_with fail
                with_reducible refine (HBr.out _).mono ?_
                rintro e w' ⟨rfl, rfl⟩
                go_wp2_with fail
                with_reducible refine (HMi.out _).mono ?_
                rintro e w3 ⟨rfl, bw3⟩
                have how3 := own_below hown bw3
                have hbw3 := hbe.trans (bw3.mono hbe.size)
                have HO3 := Lib.hid (HOr.out.below bw3)
                go_wp2_with fail
                with_reducible refine (HSt.out _ HO3.out).mono ?_
                rintro e w' ⟨rfl, q, rfl⟩
                have hoq := own_below how3 (drewB w3 q)
                have hbq := hbw3.trans ((drewB w3 q).mono hbw3.size)
                go_wp2_with fail
                with_reducible refine (HRa.out _).mono ?_
                rintro e w4 ⟨rfl, bw4⟩
                have how4 := own_below hoq bw4
                have hbw4 := hbq.trans (bw4.mono hbq.size)
                go_wp2_with (first | (at_builtin; refine wpList_append_own _ rfl _ _ 30 rfl w1.heap.size 9 i0 (.string ByteArray.empty) 1 16 Tryz.underlying30 hi hz0 hz1 hz2 rfl (by decide) _ _ _ rfl (how4.alloc _) ⟨(w4).heap.size, 0, none⟩ 1 1 [.string (ba (raise x))] rfl rfl (cell_one_new _ _ _) (by simp [Value.oneCell']) (by unfold maxLen; omega) (by omega) (by have h1 := hbw4.size; (try simp at h1); simp; omega) ?_; intro v' w9 hown' hgrow _) | go_in)
                go_roundw
                case rel => exact ⟨k + 1, by omega, by go_num, by rw [HS.out, HE2.out, cs_snoc]; exact hown', (hbw4.alloc hbw4.size _).grown hgrow (by have h1 := hbw4.size; (try simp at h1); simp; omega) (fun g hg => (how4.lt g hg).1)⟩
                case measure => simp [intOf]; omega
      · obtain rfl : k = n := by omega
        obtain ⟨A2, c2, rfl, hr2, hA2, hc2⟩ := rd_own (own_outs hown)
        have hoff : off (outs (tcF W) W k) ≤ 2097152 := by
          rw [HF.out k (by have := HNL.out; omega)]
          have h1 := off_take W k
          have h2 := HOff.out
          omega
        have hol := outs_len (tcF W) W k
        generalize outs (tcF W) W k = O at *
        rw [hol] at hc2
        have HJo := Lib.hid (l6Join_any A2 c2 k O wr hr2 hol hoff)
        rw [hol]
        clear hol hr2 hA2 hoff hown
        go_wp2_with fail
        with_reducible refine (HJo.out).mono ?_
        rintro e w5 ⟨rfl, rfl⟩
        go_wp2_with fail
        go_ret2
        exact ⟨by rw [HE.out]; rfl, HB1.out.trans (hbe.mono HB1.out.size)⟩

set_option maxRecDepth 100000 in
set_option maxHeartbeats 8000000 in
theorem sentenceCase_s (s : ByteArray) (w : World) (hs : s.size ≤ 1048576) :
    Calls Tryz.prog 10 #[.string s] w fun e w' => e = .returned (caseV scF s) ∧ Below w.heap.size w w' := by
  have HV := Lib.hid (fun r h => l6Good_any s r w hs h)
  have HW := Lib.hid (Lw.l6Words_any s w hs)
  obtain ⟨i0, hi, hz0, hz1, hz2⟩ := info_parts infoStr
  cases hr : okT s.data.toList with
  | false =>
    have HE : Hid (caseV scF s = .tuple #[.string ⟨#[]⟩, .bool false]) := Lib.hid (by unfold caseV; rw [hr]; rfl)
    have HV' := Lib.hid (HV.out false hr)
    clear hr HV
    go_enter Tryz.func10, Tryz.ntmps10
    go_wp2_with fail
    refine HV'.out.mono ?_
    rintro e w' ⟨rfl, rfl⟩
    go_wp2_with fail
    go_ret2
    exact ⟨by rw [HE.out]; rfl, Below.refl _ _⟩
  | true =>
    have HE : Hid (caseV scF s = .tuple #[.string (ba (jL (outs (scF (words s.data.toList)) (words s.data.toList) (words s.data.toList).length))), .bool true]) := Lib.hid (by unfold caseV; rw [if_pos hr])
    have HV' := Lib.hid (HV.out true hr)
    have HOK := Lib.hid (fun (w : World) A h1 h2 => ok_words (w := w) (A := A) hr h1 h2)
    have HOff : Hid (off (words s.data.toList) ≤ 101) := Lib.hid (by rw [words_off]; have := okT_size hr; omega)
    have HLn : Hid ((words s.data.toList).length ≤ 101) := Lib.hid (by have := words_len s.data.toList; have := okT_size hr; omega)
    clear hr HV
    generalize words s.data.toList = W at *
    obtain ⟨n, HN⟩ : ∃ n, Hid (n = W.length) := ⟨_, Lib.hid rfl⟩
    rw [← HN.out] at HW HE HOK HLn
    have hnb := HLn.out
    go_enter Tryz.func10, Tryz.ntmps10
    go_wp2_with fail
    refine HV'.out.mono ?_
    rintro e w' ⟨rfl, rfl⟩
    go_wp2_with fail
    refine HW.out.mono ?_
    rintro e w1 ⟨v, rfl, ho, b1⟩
    rw [HN.out] at ho
    obtain ⟨A, c, rfl, hrd, hA, hc⟩ := rd_own ho
    rw [← HN.out] at hc
    have HO := Lib.hid (HOK.out w1 A hrd hA)
    have HB1 := Lib.hid b1
    have HF := Lib.hid (fun k (hk : k ≤ W.length) => outs_off (scF W) (scF_len W) W k hk)
    have hnl := HN.out
    clear ho hrd hA HOK b1
    rw [← hnl]
    have HNL := Lib.hid hnl
    clear hnl
    go_wp2_with fail
    go_loopw [5, 6] (fun v i wr => ∃ k : Nat, k ≤ n ∧ i = .int .i64 k ∧ wr.ownsRow w1.heap.size 9 1 v k (cs (outs (scF W) W k)) ∧ Below w1.heap.size w1 wr) (fun _ i _ => n - (intOf i).toNat)
    case atStart => exact ⟨0, Nat.zero_le _, rfl, World.ownsRow_lit w1 #[] 0 (Nat.le_refl _) (Nat.zero_le _) rfl, (Below.refl _ _).alloc (Nat.le_refl _) _⟩
    case round =>
      obtain ⟨k, hk, rfl, hown, hbe⟩ := hrel
      have HOr := Lib.hid (HO.out.below hbe)
      by_cases hlt : k < n
      · have hx := List.getElem?_eq_getElem (show k < W.length by have := HNL.out; omega)
        obtain ⟨g, of, rfl, hcx⟩ := HOr.out.at hx
        have hxl := (HO.out.good _ (List.mem_of_getElem? hx)).2.2
        have HX := Lib.hid hx
        clear hx
        generalize W[k] = x at *
        have HS : Hid (outs (scF W) W (k + 1) = outs (scF W) W k ++ [scF W k x]) := Lib.hid (outs_snoc _ _ _ HX.out)
        have HCa := Lib.hid (calm_x x hxl)
        have hcl : (calm x).length ≤ 100 := by rw [calm_len]; exact hxl
        have HRa := Lib.hid (raise_x (calm x) hcl)
        cases hs : TiPl.starts W k with
        | false =>
          have HSt := Lib.hid (fun w (h : Ok w (some ⟨g, of, none⟩) n W) => h.starts (c := c) hlt false hs)
          have HE2 : Hid (scF W k x = calm x) := Lib.hid (by unfold scF; rw [if_neg (fun h => by rw [hs] at h; cases h.1)])
          clear hs
          go_wp2_with fail
          with_reducible refine (HCa.out _).mono ?_
          rintro e w3 ⟨rfl, bw3⟩
          have how3 := own_below hown bw3
          have hbw3 := hbe.trans (bw3.mono hbe.size)
          have HO3 := Lib.hid (HOr.out.below bw3)
          go_wp2_with fail
          with_reducible refine (HSt.out _ HO3.out).mono ?_
          rintro e w' ⟨rfl, q, rfl⟩
          have hoq := own_below how3 (drewB w3 q)
          have hbq := hbw3.trans ((drewB w3 q).mono hbw3.size)
          go_wp2_with (first | (at_builtin; refine wpList_append_own _ rfl _ _ 30 rfl w1.heap.size 9 i0 (.string ByteArray.empty) 1 16 Tryz.underlying30 hi hz0 hz1 hz2 rfl (by decide) _ _ _ rfl (hoq.alloc _) ⟨(w3).heap.size, 0, none⟩ 1 1 [.string (ba (calm x))] rfl rfl (cell_one_new _ _ _) (by simp [Value.oneCell']) (by unfold maxLen; omega) (by omega) (by have h1 := hbq.size; (try simp at h1); simp; omega) ?_; intro v' w9 hown' hgrow _) | go_in)
          go_roundw
          case rel => exact ⟨k + 1, by omega, by go_num, by rw [HS.out, HE2.out, cs_snoc]; exact hown', (hbq.alloc hbq.size _).grown hgrow (by have h1 := hbq.size; (try simp at h1); simp; omega) (fun g hg => (hoq.lt g hg).1)⟩
          case measure => simp [intOf]; omega
        | true =>
          have HSt := Lib.hid (fun w (h : Ok w (some ⟨g, of, none⟩) n W) => h.starts (c := c) hlt true hs)
          cases hb : brB x with
          | true =>
            have HBr := Lib.hid (brace_x (calm x) hcl true (by rw [calm_br]; exact hb))
            have HE2 : Hid (scF W k x = calm x) := Lib.hid (by unfold scF; rw [if_neg (fun h => by rw [hb] at h; cases h.2)])
            clear hs hb
            go_wp2_with fail
            with_reducible refine (HCa.out _).mono ?_
            rintro e w3 ⟨rfl, bw3⟩
            have how3 := own_below hown bw3
            have hbw3 := hbe.trans (bw3.mono hbe.size)
            have HO3 := Lib.hid (HOr.out.below bw3)
            go_wp2_with fail
            with_reducible refine (HSt.out _ HO3.out).mono ?_
            rintro e w' ⟨rfl, q, rfl⟩
            have hoq := own_below how3 (drewB w3 q)
            have hbq := hbw3.trans ((drewB w3 q).mono hbw3.size)
            go_wp2_with fail
            with_reducible refine (HBr.out _).mono ?_
            rintro e w' ⟨rfl, rfl⟩
            go_wp2_with (first | (at_builtin; refine wpList_append_own _ rfl _ _ 30 rfl w1.heap.size 9 i0 (.string ByteArray.empty) 1 16 Tryz.underlying30 hi hz0 hz1 hz2 rfl (by decide) _ _ _ rfl (hoq.alloc _) ⟨(w3).heap.size, 0, none⟩ 1 1 [.string (ba (calm x))] rfl rfl (cell_one_new _ _ _) (by simp [Value.oneCell']) (by unfold maxLen; omega) (by omega) (by have h1 := hbq.size; (try simp at h1); simp; omega) ?_; intro v' w9 hown' hgrow _) | go_in)
            go_roundw
            case rel => exact ⟨k + 1, by omega, by go_num, by rw [HS.out, HE2.out, cs_snoc]; exact hown', (hbq.alloc hbq.size _).grown hgrow (by have h1 := hbq.size; (try simp at h1); simp; omega) (fun g hg => (hoq.lt g hg).1)⟩
            case measure => simp [intOf]; omega
          | false =>
            have HBr := Lib.hid (brace_x (calm x) hcl false (by rw [calm_br]; exact hb))
            have HE2 : Hid (scF W k x = raise (calm x)) := Lib.hid (by unfold scF; rw [if_pos ⟨hs, hb⟩])
            clear hs hb
            go_wp2_with fail
            with_reducible refine (HCa.out _).mono ?_
            rintro e w3 ⟨rfl, bw3⟩
            have how3 := own_below hown bw3
            have hbw3 := hbe.trans (bw3.mono hbe.size)
            have HO3 := Lib.hid (HOr.out.below bw3)
            go_wp2_with fail
            with_reducible refine (HSt.out _ HO3.out).mono ?_
            rintro e w' ⟨rfl, q, rfl⟩
            have hoq := own_below how3 (drewB w3 q)
            have hbq := hbw3.trans ((drewB w3 q).mono hbw3.size)
            go_wp2_with fail
            with_reducible refine (HBr.out _).mono ?_
            rintro e w' ⟨rfl, rfl⟩
            go_wp2_with fail
            with_reducible refine (HRa.out _).mono ?_
            rintro e w4 ⟨rfl, bw4⟩
            have how4 := own_below hoq bw4
            have hbw4 := hbq.trans (bw4.mono hbq.size)
            go_wp2_with (first | (at_builtin; refine wpList_append_own _ rfl _ _ 30 rfl w1.heap.size 9 i0 (.string ByteArray.empty) 1 16 Tryz.underlying30 hi hz0 hz1 hz2 rfl (by decide) _ _ _ rfl (how4.alloc _) ⟨(w4).heap.size, 0, none⟩ 1 1 [.string (ba (raise (calm x)))] rfl rfl (cell_one_new _ _ _) (by simp [Value.oneCell']) (by unfold maxLen; omega) (by omega) (by have h1 := hbw4.size; (try simp at h1); simp; omega) ?_; intro v' w9 hown' hgrow _) | go_in)
            go_roundw
            case rel => exact ⟨k + 1, by omega, by go_num, by rw [HS.out, HE2.out, cs_snoc]; exact hown', (hbw4.alloc hbw4.size _).grown hgrow (by have h1 := hbw4.size; (try simp at h1); simp; omega) (fun g hg => (how4.lt g hg).1)⟩
            case measure => simp [intOf]; omega
      · obtain rfl : k = n := by omega
        obtain ⟨A2, c2, rfl, hr2, hA2, hc2⟩ := rd_own (own_outs hown)
        have hoff : off (outs (scF W) W k) ≤ 2097152 := by
          rw [HF.out k (by have := HNL.out; omega)]
          have h1 := off_take W k
          have h2 := HOff.out
          omega
        have hol := outs_len (scF W) W k
        generalize outs (scF W) W k = O at *
        rw [hol] at hc2
        have HJo := Lib.hid (l6Join_any A2 c2 k O wr hr2 hol hoff)
        rw [hol]
        clear hol hr2 hA2 hoff hown
        go_wp2_with fail
        with_reducible refine (HJo.out).mono ?_
        rintro e w5 ⟨rfl, rfl⟩
        go_wp2_with fail
        go_ret2
        exact ⟨by rw [HE.out]; rfl, HB1.out.trans (hbe.mono HB1.out.size)⟩
end Go.Proofs.YtobaapabkckblaaGreatDoor.Sc
