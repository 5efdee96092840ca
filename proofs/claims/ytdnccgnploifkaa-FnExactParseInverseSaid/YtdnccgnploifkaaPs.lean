/-
  Contracts of the model's l2Parse and ParseInverse.
-/
import Derived.Test.YtdnccgnploifkaaPiS
import Derived.Test.YtdnccgnploifkaaPn
import Derived.Deep.DeepCutAuto
namespace Go.Proofs.Ytdnccgnploifkaa.Pi
open Go.RowKit Pl Strs Help Name Stands SplitPl NmPl Word Part NGood Forms
set_option linter.unusedSimpArgs false
set_option linter.unusedVariables false

theorem own_str {w : World} {base : Nat} {e : TypeId} {v : Value} {l : List (List UInt8)} (h : w.ownsRow base e 1 v l.length (Split.cs l)) (h0 : 0 < l.length) :
    ∃ g c, v = .slice (some ⟨g, 0, none⟩) l.length c ∧ base ≤ g ∧ g < w.heap.size ∧ l.length ≤ c ∧ c ≤ maxLen ∧ ∀ (j : Nat) (x : List UInt8), l[j]? = some x → w.cell? ⟨g, j, none⟩ = some (.string (ba x)) := by
  rcases h.2 with ⟨_, h'⟩ | ⟨g, cap, cur, rfl, hb, hg, hc, hm, hs, ht⟩
  · omega
  · refine ⟨g, cap, rfl, hb, (Array.getElem?_eq_some_iff.1 hg).1, hc, hm, fun j x hx => ?_⟩
    have hj : j < l.length := (List.getElem?_eq_some_iff.1 hx).1
    have h1 : (cur.toList.take (l.length * 1))[j]? = some (.string (ba x)) := by rw [ht]; unfold Split.cs; rw [List.getElem?_map, hx]; rfl
    rw [List.getElem?_take] at h1
    rw [if_pos (by omega)] at h1
    have h2 : cur[j]? = some (.string (ba x)) := by rw [← Array.getElem?_toList]; exact h1
    simp [World.cell?, hg, h2]
theorem c4_3 {W : World} {b : Nat} {v : Value} {p f u u' : ByteArray} (h : C4 W b v p f u) : C4 (W.setCell ⟨b, 3, none⟩ (.string u')) b v p f u' := by
  obtain ⟨h0, c0, c1, c2, c3⟩ := h
  have key : ∀ k, k ≠ 3 → (W.setCell ⟨b, 3, none⟩ (.string u')).cell? ⟨b, k, none⟩ = W.cell? ⟨b, k, none⟩ := fun k hk => World.cell?_setCell_other W _ _ _ (fun e => by injection e with _ e2 _; omega)
  exact ⟨by simpa [World.setCell] using h0, (key _ (by omega)).trans c0, (key _ (by omega)).trans c1, (key _ (by omega)).trans c2, World.cell?_setCell_same _ _ _ c3⟩
theorem split_pos' (b : UInt8) (l : List UInt8) : 0 < (split b l).length := by unfold split; simp

set_option maxRecDepth 100000 in
set_option maxHeartbeats 16000000 in
theorem l2Parse (s : ByteArray) (w : World) (hs : s.size ≤ 1048576) :
    Calls Try.prog 9 #[.string s] w (Ans s w) := by
  obtain ⟨a, r, hps⟩ := ps_cons s
  have HB := Lib.hid ((Below.refl _ w).alloc (Nat.le_refl _) (.cells #[.slice none 0 0, .string ⟨#[]⟩, .string ⟨#[]⟩, .string ⟨#[]⟩] 24))
  have HX := Lib.hid (C4.new w (.slice none 0 0) ⟨#[]⟩ ⟨#[]⟩ ⟨#[]⟩ 24)
  have HZ := Lib.hid (Nz.new w #[.slice none 0 0, .string ⟨#[]⟩, .string ⟨#[]⟩, .string ⟨#[]⟩] 24)
  have HCz := Lib.hid (cand_size_s hps)
  have HNo := Lib.hid (pi_no_s (s := s))
  rw [hps] at HNo
  have hsum := split_sum 44 s.data.toList
  have hz := len_size s
  have hps' : split 44 s.data.toList = a :: r := hps
  rw [hps'] at hsum
  have hal : a.length ≤ 1048576 := by simp only [List.length_cons, List.map_cons, List.sum_cons] at hsum; omega
  have HS1 := Lib.hid (fun w => Split.l1Split_any s 44 w (by omega))
  have HS2 := Lib.hid (fun w => Split.l1Split_any (ba a) 32 w (by rw [ba_size]; omega))
  rw [hps'] at HS1
  rw [toList_ba] at HS2
  have hws := split_sum 32 a
  have hwl : (split 32 a).length = (spD 32 a).length + 1 := by unfold split; simp
  have hhd := head_size a
  have HLw := Lib.hid ((by unfold split; simp : (split 32 a)[(spD 32 a).length]? = some (spC 32 a)))
  have HLi := Lib.hid ((fun j x hx => by unfold split; rw [List.getElem?_append_left (List.getElem?_eq_some_iff.1 hx).1]; exact hx : ∀ (j : Nat) (x : List UInt8), (spD 32 a)[j]? = some x → (split 32 a)[j]? = some x))
  have HJl : Hid ((spD 32 a).length + lens ((spD 32 a).map ba) ≤ 4194304) := Lib.hid (by
    rw [lens_map]
    unfold split at hws
    simp at hws
    omega)
  have HeP : Hid (sP (a :: r) = ba (jn (spD 32 a))) := Lib.hid rfl
  have HeF : Hid (sF (a :: r) = ba (spC 32 a)) := Lib.hid rfl
  clear hws hhd
  unfold Ans
  go_enter Try.func9, Try.ntmps9
  go_wp2_with fail
  generalize w.alloc (.cells #[.slice none 0 0, .string ⟨#[]⟩, .string ⟨#[]⟩, .string ⟨#[]⟩] 24) = w0 at HB HX HZ ⊢
  refine (HS1.out _).mono ?_
  rintro e w1 ⟨v1, rfl, o1, b1⟩
  obtain ⟨g1, c1, rfl, hg1, hl1, hc1, hm1, hcell⟩ := own_str o1 (by simp)
  have p0 := hcell 0 a rfl
  have HC1 := Lib.hid hcell
  have hlen1 : (a :: r).length = r.length + 1 := rfl
  rw [hlen1]
  clear o1 hcell HS1
  go_wp2_with fail
  refine (HS2.out _).mono ?_
  rintro e w2 ⟨v2, rfl, o2, b2⟩
  obtain ⟨g2, c2, rfl, hg2, hl2, hc2, hm2, hcell⟩ := own_str o2 (split_pos' _ _)
  rw [hwl] at hc2 ⊢
  have q1 := hcell _ _ HLw.out
  have HJ := Lib.hid (fun w' (hb : Below w2.heap.size w2 w') => l2Join (some ⟨g2, 0, none⟩) c2 (spD 32 a).length ((spD 32 a).map ba) w' (fun j x hx => by
    rw [List.getElem?_map] at hx
    obtain ⟨y, hy, rfl⟩ := Option.map_eq_some_iff.1 hx
    exact ⟨g2, 0, rfl, by rw [Nat.zero_add]; exact (hb.cell (p := ⟨g2, j, none⟩) hl2).trans (hcell j y (HLi.out j y hy))⟩) (by simp) HJl.out)
  rw [ls_map_ba, ← HeP.out] at HJ
  rw [← HeF.out] at q1
  generalize (spD 32 a).length = m at *
  have hi1 : ((m + 1 : Nat) : Int) - 1 = (m : Int) := by omega
  have hi2 : IntKind.i64.wrap (m : Int) = (m : Int) := IntWalk.i64_in _ (by have := HJl.out; omega)
  have hi3 : ((m : Int) + 1) - 1 = (m : Int) := by omega
  have hi4 : m < m + 1 := by omega
  have hi5 : m ≤ c2 := by omega
  have hi6 : (m : Int) ≤ (c2 : Int) := by omega
  have hi7 : (m : Int) < (m : Int) + 1 := by omega
  clear o2 hcell HS2 p0
  have HB2 := HB.out.trans ((b1.trans (b2.mono b1.size)).mono HB.out.size)
  have HX2 := (HX.out.below b1).below b2
  have HZ2 := (HZ.out.below b1).below b2
  have HC2 := Lib.hid (fun (j : Nat) (x : List UInt8) (hx : (a :: r)[j]? = some x) => (b2.cell (p := ⟨g1, j, none⟩) hl1).trans (HC1.out j x hx))
  have hl12 : g1 < w2.heap.size := Nat.lt_of_lt_of_le hl1 b2.size
  clear b1 b2 HB HX HZ HC1 hl1
  go_upto_region 3 with fail
  go_cut [6] (fun s6 wx => s6 = .pointer (some ⟨w2.heap.size, 0, none⟩) ∧ wx = (w2.alloc (.cells #[.slice none 0 0, .string (sP (a :: r)), .string (sF (a :: r)), .string ⟨#[]⟩] 24)).drew)
  case first =>
    go_region_with (go_at_call 18; refine (HJ.out _ (by first | exact Below.refl _ _ | exact Below.drew (Below.refl _ _) | exact Below.drew ((Below.refl _ _).alloc (Nat.le_refl _) _) | exact (Below.drew (Below.refl _ _)).alloc (Nat.le_refl _) _)).mono ?_; rintro e w' ⟨rfl, rfl⟩)
    all_goals go_wp2_with fail
    all_goals go_meet
    all_goals exact ⟨rfl, rfl⟩
  case rest =>
    obtain ⟨rfl, rfl⟩ := hcut
    have ST0 : Stt w (w2.alloc (.cells #[.slice none 0 0, .string (sP (a :: r)), .string (sF (a :: r)), .string ⟨#[]⟩] 24)) w2.heap.size (.slice none 0 0) (sP (a :: r)) (sF (a :: r)) ⟨#[]⟩ := ⟨HB2.alloc HB2.size _, HX2.below ((Below.refl _ w2).alloc (Nat.le_refl _) _), HZ2.below ((Below.refl _ w2).alloc (Nat.le_refl _) _), C4.new _ _ _ _ _ _, Nz.new _ _ _, HX2.1⟩
    have ST := Lib.hid ST0.drew
    have HC3 := Lib.hid (fun (j : Nat) (x : List UInt8) (hx : (a :: r)[j]? = some x) => ((Below.drew ((Below.refl _ w2).alloc (Nat.le_refl _) (.cells #[.slice none 0 0, .string (sP (a :: r)), .string (sF (a :: r)), .string ⟨#[]⟩] 24))).cell (p := ⟨g1, j, none⟩) hl12).trans (HC2.out j x hx))
    have hl13 : g1 < ((w2.alloc (.cells #[.slice none 0 0, .string (sP (a :: r)), .string (sF (a :: r)), .string ⟨#[]⟩] 24)).drew).heap.size := Nat.lt_of_lt_of_le hl12 (Below.drew ((Below.refl _ w2).alloc (Nat.le_refl _) (.cells #[.slice none 0 0, .string (sP (a :: r)), .string (sF (a :: r)), .string ⟨#[]⟩] 24))).size
    have hg1b := hl12
    clear ST0 HC2 hl12 HB2 HX2 HZ2 q1 HJ
    generalize (w2.alloc (.cells #[.slice none 0 0, .string (sP (a :: r)), .string (sF (a :: r)), .string ⟨#[]⟩] 24)).drew = w3 at *
    generalize w2.heap.size = bn at *
    clear HJl HLw HLi hwl HeP HeF hi1 hi2 hi3 hi4 hi5 hi6 hi7 hc2 hm2 hg2 hl2
    cases r with
    | nil =>
      generalize sP [a] = PP at *
      generalize sF [a] = FF at *
      generalize hXS : sX [a] = XS at *
      generalize hUU : sU [a] = UU at *
      have hX0 : XS = [] := hXS.symm
      have hU0 : UU = ⟨#[]⟩ := hUU.symm
      have ST2 := ST
      rw [← hU0] at ST2
      have OWN : Hid (w3.ownsRow (w.heap.size + 1) 9 1 (.slice none 0 0) 0 (XS.map Value.string)) := Lib.hid (by rw [hX0]; exact own_nil w3 (w.heap.size + 1))
      clear hX0 hU0 hXS hUU ST HC3
      have HRd := Lib.hid (Rdn.own OWN.out)
      have HG := Lib.hid (fun W' (hk : Below w3.heap.size w3 W') (r : Bool) (hr : okN XS PP FF UU = r) => l2Good_b none 0 0 XS PP FF UU r W' (HRd.out.below hk).1 (HRd.out.below hk).2.1 (HRd.out.below hk).2.2 (by have := HCz.out; have := HRd.out.2.2; omega) (fun x hx => by have := mem_lens hx; have := HCz.out; omega) (by have := HCz.out; omega) (by have := HCz.out; omega) (by have := HCz.out; omega) hr)
      have HI := Lib.hid (fun W' (hk : Below w3.heap.size w3 W') => l2Inverse none 0 0 XS PP FF UU W' (HRd.out.below hk) (by have := HCz.out; have := HRd.out.2.2; omega))
      obtain ⟨l0, c0, c1', c2', c3⟩ := ST2.out.box
      cases hok : okN XS PP FF UU with
      | false =>
        have hpi := HNo.out (fun _ h => by rw [hok] at h; cases h)
        replace HG := Lib.hid (fun W' hk => HG.out W' hk false hok)
        clear hok
        go_wp2_with fail
        refine (HG.out _ (by first | exact Below.refl _ _ | exact Below.drew (Below.refl _ _))).mono ?_
        rintro e w9 ⟨rfl, b9⟩
        have ST9 := (by first | exact ST2.out.below b9 | exact ST2.out.drew.below b9 : Stt w w9 bn (.slice none 0 0) PP FF UU)
        clear b9 c0 c1' c2' c3 l0 HG HI
        obtain ⟨r0, x0, x1, x2, x3⟩ := ST9.res
        have g0 := ST9.nfr.frozen 0 none
        have g1' := ST9.nfr.frozen 1 none
        have g2' := ST9.nfr.frozen 2 none
        have g3 := ST9.nfr.frozen 3 none
        go_wp2_with fail
        exact bodyPost_ret (v := .tuple #[.agg #[.slice none 0 0, .string ⟨#[]⟩, .string ⟨#[]⟩, .string ⟨#[]⟩], .bool false]) (by simp [results, Try.results9, go_sem, *]) rfl ⟨.slice none 0 0, [], em, em, em, false, rfl, hpi, own_nil _ _, bel4 ST9.bel (Nat.le_refl _)⟩
      | true =>
        replace HG := Lib.hid (fun W' hk => HG.out W' hk true hok)
        by_cases he : ba (invL XS PP FF UU) = s
        · have hpi := pi_yes hok he
          have hq : ((ba (invL XS PP FF UU)).toList == s.toList) = true := by rw [he]; simp
          clear hok he
          go_wp2_with fail
          refine (HG.out _ (by first | exact Below.refl _ _ | exact Below.drew (Below.refl _ _))).mono ?_
          rintro e w8 ⟨rfl, b8⟩
          have k8 := (by first | exact b8 | exact (Below.drew (Below.refl _ _)).trans b8 : Below w3.heap.size w3 w8)
          have ST8 := ST2.out.below k8
          clear b8 c0 c1' c2' c3 l0 HG
          obtain ⟨l0, c0, c1', c2', c3⟩ := ST8.box
          go_wp2_with fail
          refine (HI.out _ k8).mono ?_
          rintro e w9 ⟨rfl, b9⟩
          have k9 := k8.trans (b9.mono k8.size)
          have ST9 := ST2.out.below k9
          have O9 := own_b OWN.out k9
          generalize ba (invL XS PP FF UU) = z at *
          clear b9 c0 c1' c2' c3 l0 HI ST8 k8
          obtain ⟨r0, x0, x1, x2, x3⟩ := ST9.res
          obtain ⟨l0, c0, c1', c2', c3⟩ := ST9.box
          have g0 := ST9.nfr.frozen 0 none
          have g1' := ST9.nfr.frozen 1 none
          have g2' := ST9.nfr.frozen 2 none
          have g3 := ST9.nfr.frozen 3 none
          go_wp2_with fail
          exact bodyPost_ret (v := .tuple #[.agg #[.slice none 0 0, .string PP, .string FF, .string UU], .bool true]) (by simp [results, Try.results9, go_sem, *]) rfl ⟨.slice none 0 0, XS, PP, FF, UU, true, rfl, hpi, row_le' (Nat.le_succ _) (own4 (by rw [HRd.out.2.2]; exact O9) (Nat.lt_succ_self _)), bel4 ST9.bel (Nat.le_refl _)⟩
        · have hpi := HNo.out (fun _ _ => he)
          have hq := ne_formsP he
          clear hok he
          go_wp2_with fail
          refine (HG.out _ (by first | exact Below.refl _ _ | exact Below.drew (Below.refl _ _))).mono ?_
          rintro e w8 ⟨rfl, b8⟩
          have k8 := (by first | exact b8 | exact (Below.drew (Below.refl _ _)).trans b8 : Below w3.heap.size w3 w8)
          have ST8 := ST2.out.below k8
          clear b8 c0 c1' c2' c3 l0 HG
          obtain ⟨l0, c0, c1', c2', c3⟩ := ST8.box
          go_wp2_with fail
          refine (HI.out _ k8).mono ?_
          rintro e w9 ⟨rfl, b9⟩
          have ST9 := ST2.out.below (k8.trans (b9.mono k8.size))
          generalize ba (invL XS PP FF UU) = z at *
          clear b9 c0 c1' c2' c3 l0 HI ST8 k8
          obtain ⟨r0, x0, x1, x2, x3⟩ := ST9.res
          have g0 := ST9.nfr.frozen 0 none
          have g1' := ST9.nfr.frozen 1 none
          have g2' := ST9.nfr.frozen 2 none
          have g3 := ST9.nfr.frozen 3 none
          go_wp2_with fail
          exact bodyPost_ret (v := .tuple #[.agg #[.slice none 0 0, .string ⟨#[]⟩, .string ⟨#[]⟩, .string ⟨#[]⟩], .bool false]) (by simp [results, Try.results9, go_sem, *]) rfl ⟨.slice none 0 0, [], em, em, em, false, rfl, hpi, own_nil _ _, bel4 ST9.bel (Nat.le_refl _)⟩
    | cons b r1 =>
      cases r1 with
      | nil =>
        cases b with
        | nil =>
          have hlen2 : ([([] : List UInt8)] : List (List UInt8)).length + 1 = 2 := rfl
          rw [hlen2]
          obtain ⟨B, hBd⟩ : ∃ B, B = ba [] := ⟨_, rfl⟩
          have p1 := HC3.out 1 [] rfl
          rw [← hBd] at p1
          have hBe1 : (B.toList == []) = true := by rw [hBd, Lib.toList_data, toList_ba]; rfl
          have hBe2 : B.toList.isEmpty = true := by rw [hBd, Lib.toList_data, toList_ba]; rfl
          clear hBd
          have hbad : sOk [a, []] = false := rfl
          have hpi := HNo.out (fun h => by rw [hbad] at h; cases h)
          have ST9 := ST.out
          clear ST
          obtain ⟨r0, x0, x1, x2, x3⟩ := ST9.res
          have g0 := ST9.nfr.frozen 0 none
          have g1' := ST9.nfr.frozen 1 none
          have g2' := ST9.nfr.frozen 2 none
          have g3 := ST9.nfr.frozen 3 none
          go_wp2_with fail
          exact bodyPost_ret (v := .tuple #[.agg #[.slice none 0 0, .string ⟨#[]⟩, .string ⟨#[]⟩, .string ⟨#[]⟩], .bool false]) (by simp [results, Try.results9, go_sem, *]) rfl ⟨.slice none 0 0, [], em, em, em, false, rfl, hpi, own_nil _ _, bel4 ST9.bel (Nat.le_refl _)⟩
        | cons x bl =>
          have hlen2 : ([x :: bl] : List (List UInt8)).length + 1 = 2 := rfl
          rw [hlen2]
          obtain ⟨B, hBd⟩ : ∃ B, B = ba (x :: bl) := ⟨_, rfl⟩
          have p1 := HC3.out 1 (x :: bl) rfl
          rw [← hBd] at p1
          have hBl : B.data.toList = x :: bl := by rw [hBd, toList_ba]
          have hBz : B.size = bl.length + 1 := by rw [hBd, ba_size]; rfl
          have hBp : 0 < B.size := by omega
          have hBp' : (0 : Int) < (B.size : Int) := by omega
          have hBe1 : (B.toList == []) = false := (str_ne (s := B) (by rw [hBl]; simp)).1
          have hBe2 : B.toList.isEmpty = false := (str_ne (s := B) (by rw [hBl]; simp)).2
          have hB0 : (B[0]'hBp) = x := by
            have h1 : B.data.toList[0]? = some x := by rw [hBl]; rfl
            rw [Lib.data_getElem? B 0 hBp] at h1
            exact Option.some.inj h1
          have hBE : (B.extract 1 B.size).data.toList = bl := by rw [extract_list, toList_ba, take_all B _ (Nat.le_refl _), hBl]; rfl
          have hBzE : (B.extract 1 B.size).size = bl.length := by rw [← len_size, hBE]
          have hblz : bl.length ≤ 1048576 := by simp only [List.length_cons, List.map_cons, List.sum_cons] at hsum; omega
          have HBd := Lib.hid hBd
          have HBz := Lib.hid hBz
          clear hBd hBl hBz
          by_cases x32 : x = 32
          · skip
            have hB1 : ((B[0]'hBp).toNat : Int) = 32 := by rw [hB0, x32]; rfl
            have hB2 : (B[0]'hBp).toNat = 32 := by omega
            have hB3 : (((B[0]'hBp).toNat : Int) == 32) = true := by rw [hB1]; rfl
            clear x32 hB0
            generalize sP [a, x :: bl] = PP at *
            generalize sF [a, x :: bl] = FF at *
            generalize hXS : sX [a, x :: bl] = XS at *
            generalize hUU : sU [a, x :: bl] = UU at *
            by_cases hbl : bl = []
            · skip
              have hB1 : B.size = 1 := by rw [HBz.out, hbl]; rfl
              have hg1' : ¬ ((1 : Int) < (B.size : Int)) := by omega
              have hg2' : decide ((1 : Int) < (B.size : Int)) = false := decide_eq_false hg1'
              have hX0 : XS = [] := by rw [← hXS, hbl]; rfl
              clear hbl hXS
              go_upto_region 8 with fail
              have OWG : Hid (w3.ownsRow (bn + 1) 9 1 (.slice none 0 0) 0 (XS.map Value.string)) := Lib.hid (by rw [hX0]; exact own_nil w3 (bn + 1))
              have STg := ST
              clear ST hX0 hg1' hg2'
              clear HC3
              have hU0 : UU = ⟨#[]⟩ := hUU.symm
              have ST2 := STg
              rw [← hU0] at ST2
              have OWN := Lib.hid (row_le' (Nat.succ_le_succ (Nat.le_of_lt STg.out.lt)) OWG.out)
              clear hU0 hUU STg OWG
              have HRd := Lib.hid (Rdn.own OWN.out)
              have HG := Lib.hid (fun W' (hk : Below w3.heap.size w3 W') (r : Bool) (hr : okN XS PP FF UU = r) => l2Good_b none 0 0 XS PP FF UU r W' (HRd.out.below hk).1 (HRd.out.below hk).2.1 (HRd.out.below hk).2.2 (by have := HCz.out; have := HRd.out.2.2; omega) (fun x hx => by have := mem_lens hx; have := HCz.out; omega) (by have := HCz.out; omega) (by have := HCz.out; omega) (by have := HCz.out; omega) hr)
              have HI := Lib.hid (fun W' (hk : Below w3.heap.size w3 W') => l2Inverse none 0 0 XS PP FF UU W' (HRd.out.below hk) (by have := HCz.out; have := HRd.out.2.2; omega))
              obtain ⟨l0, c0, c1', c2', c3⟩ := ST2.out.box
              cases hok : okN XS PP FF UU with
              | false =>
                have hpi := HNo.out (fun _ h => by rw [hok] at h; cases h)
                replace HG := Lib.hid (fun W' hk => HG.out W' hk false hok)
                clear hok
                go_wp2_with fail
                refine (HG.out _ (by first | exact Below.refl _ _ | exact Below.drew (Below.refl _ _))).mono ?_
                rintro e w9 ⟨rfl, b9⟩
                have ST9 := (by first | exact ST2.out.below b9 | exact ST2.out.drew.below b9 : Stt w w9 bn (.slice none 0 0) PP FF UU)
                clear b9 c0 c1' c2' c3 l0 HG HI
                obtain ⟨r0, x0, x1, x2, x3⟩ := ST9.res
                have g0 := ST9.nfr.frozen 0 none
                have g1' := ST9.nfr.frozen 1 none
                have g2' := ST9.nfr.frozen 2 none
                have g3 := ST9.nfr.frozen 3 none
                go_wp2_with fail
                exact bodyPost_ret (v := .tuple #[.agg #[.slice none 0 0, .string ⟨#[]⟩, .string ⟨#[]⟩, .string ⟨#[]⟩], .bool false]) (by simp [results, Try.results9, go_sem, *]) rfl ⟨.slice none 0 0, [], em, em, em, false, rfl, hpi, own_nil _ _, bel4 ST9.bel (Nat.le_refl _)⟩
              | true =>
                replace HG := Lib.hid (fun W' hk => HG.out W' hk true hok)
                by_cases he : ba (invL XS PP FF UU) = s
                · have hpi := pi_yes hok he
                  have hq : ((ba (invL XS PP FF UU)).toList == s.toList) = true := by rw [he]; simp
                  clear hok he
                  go_wp2_with fail
                  refine (HG.out _ (by first | exact Below.refl _ _ | exact Below.drew (Below.refl _ _))).mono ?_
                  rintro e w8 ⟨rfl, b8⟩
                  have k8 := (by first | exact b8 | exact (Below.drew (Below.refl _ _)).trans b8 : Below w3.heap.size w3 w8)
                  have ST8 := ST2.out.below k8
                  clear b8 c0 c1' c2' c3 l0 HG
                  obtain ⟨l0, c0, c1', c2', c3⟩ := ST8.box
                  go_wp2_with fail
                  refine (HI.out _ k8).mono ?_
                  rintro e w9 ⟨rfl, b9⟩
                  have k9 := k8.trans (b9.mono k8.size)
                  have ST9 := ST2.out.below k9
                  have O9 := own_b OWN.out k9
                  generalize ba (invL XS PP FF UU) = z at *
                  clear b9 c0 c1' c2' c3 l0 HI ST8 k8
                  obtain ⟨r0, x0, x1, x2, x3⟩ := ST9.res
                  obtain ⟨l0, c0, c1', c2', c3⟩ := ST9.box
                  have g0 := ST9.nfr.frozen 0 none
                  have g1' := ST9.nfr.frozen 1 none
                  have g2' := ST9.nfr.frozen 2 none
                  have g3 := ST9.nfr.frozen 3 none
                  go_wp2_with fail
                  exact bodyPost_ret (v := .tuple #[.agg #[.slice none 0 0, .string PP, .string FF, .string UU], .bool true]) (by simp [results, Try.results9, go_sem, *]) rfl ⟨.slice none 0 0, XS, PP, FF, UU, true, rfl, hpi, row_le' (Nat.le_succ _) (own4 (by rw [HRd.out.2.2]; exact O9) (Nat.lt_succ_self _)), bel4 ST9.bel (Nat.le_refl _)⟩
                · have hpi := HNo.out (fun _ _ => he)
                  have hq := ne_formsP he
                  clear hok he
                  go_wp2_with fail
                  refine (HG.out _ (by first | exact Below.refl _ _ | exact Below.drew (Below.refl _ _))).mono ?_
                  rintro e w8 ⟨rfl, b8⟩
                  have k8 := (by first | exact b8 | exact (Below.drew (Below.refl _ _)).trans b8 : Below w3.heap.size w3 w8)
                  have ST8 := ST2.out.below k8
                  clear b8 c0 c1' c2' c3 l0 HG
                  obtain ⟨l0, c0, c1', c2', c3⟩ := ST8.box
                  go_wp2_with fail
                  refine (HI.out _ k8).mono ?_
                  rintro e w9 ⟨rfl, b9⟩
                  have ST9 := ST2.out.below (k8.trans (b9.mono k8.size))
                  generalize ba (invL XS PP FF UU) = z at *
                  clear b9 c0 c1' c2' c3 l0 HI ST8 k8
                  obtain ⟨r0, x0, x1, x2, x3⟩ := ST9.res
                  have g0 := ST9.nfr.frozen 0 none
                  have g1' := ST9.nfr.frozen 1 none
                  have g2' := ST9.nfr.frozen 2 none
                  have g3 := ST9.nfr.frozen 3 none
                  go_wp2_with fail
                  exact bodyPost_ret (v := .tuple #[.agg #[.slice none 0 0, .string ⟨#[]⟩, .string ⟨#[]⟩, .string ⟨#[]⟩], .bool false]) (by simp [results, Try.results9, go_sem, *]) rfl ⟨.slice none 0 0, [], em, em, em, false, rfl, hpi, own_nil _ _, bel4 ST9.bel (Nat.le_refl _)⟩
            · skip
              have hg1' : (1 : Int) < (B.size : Int) := by have := List.length_pos_iff.2 hbl; have := HBz.out; omega
              have hg2' : decide ((1 : Int) < (B.size : Int)) = true := decide_eq_true hg1'
              have hg4' : (1 : Int) ≤ (B.size : Int) := by omega
              have hg5' : 1 ≤ B.size := by omega
              have hg6' : ¬ ((B.size : Int) < 1) := by omega
              have HS3 := Lib.hid (fun w => Split.l1Split_any (B.extract 1 B.size) 32 w (by rw [hBzE]; omega))
              rw [hBE] at HS3
              have hX0 : XS = (split 32 bl).map ba := by rw [← hXS]; show (gvL bl).map ba = _; unfold gvL; rw [if_neg hbl]
              go_wp2_with fail
              refine (HS3.out _).mono ?_
              rintro e w6 ⟨v, rfl, o6, b6⟩
              have k6 := (by first | exact b6 | exact (Below.drew (Below.refl _ _)).trans b6 : Below w3.heap.size w3 w6)
              have hbn3 := ST.out.box.1
              have ST6 := ST.out.below k6
              have o6' : w6.ownsRow (bn + 1) 9 1 v XS.length (XS.map Value.string) := by
                rw [hX0, List.length_map, List.map_map]
                exact row_le' hbn3 o6
              obtain ⟨A, cc, rfl, -, -, -⟩ := Strs.own_rds o6'
              have ST7 := ST6.set (W' := w6.setCell ⟨bn, 0, none⟩ (.slice A XS.length cc)) rfl (c4_0 ST6.box)
              have o7 := o6'.kept (grownBy_setCell' w6 bn (.slice A XS.length cc)) (apart_old o6 (by exact hbn3))
              obtain ⟨l0, c0, c1', c2', c3⟩ := ST6.box
              have f0 := ST6.nfb.frozen 0 none
              clear HS3 b6 HC3 hX0 hXS
              go_upto_region 8 with fail
              generalize w6.setCell ⟨bn, 0, none⟩ (.slice A XS.length cc) = W6 at *
              have STg := Lib.hid ST7
              have OWG := Lib.hid o7
              clear ST7 o7 ST6 o6 o6' l0 c0 c1' c2' c3 f0 ST hg1' hg2' hg4' hg5' hg6'
              have hU0 : UU = ⟨#[]⟩ := hUU.symm
              have ST2 := STg
              rw [← hU0] at ST2
              have OWN := Lib.hid (row_le' (Nat.succ_le_succ (Nat.le_of_lt STg.out.lt)) OWG.out)
              clear hU0 hUU STg OWG
              have HRd := Lib.hid (Rdn.own OWN.out)
              have HG := Lib.hid (fun W' (hk : Below W6.heap.size W6 W') (r : Bool) (hr : okN XS PP FF UU = r) => l2Good_b A cc XS.length XS PP FF UU r W' (HRd.out.below hk).1 (HRd.out.below hk).2.1 (HRd.out.below hk).2.2 (by have := HCz.out; have := HRd.out.2.2; omega) (fun x hx => by have := mem_lens hx; have := HCz.out; omega) (by have := HCz.out; omega) (by have := HCz.out; omega) (by have := HCz.out; omega) hr)
              have HI := Lib.hid (fun W' (hk : Below W6.heap.size W6 W') => l2Inverse A cc XS.length XS PP FF UU W' (HRd.out.below hk) (by have := HCz.out; have := HRd.out.2.2; omega))
              obtain ⟨l0, c0, c1', c2', c3⟩ := ST2.out.box
              cases hok : okN XS PP FF UU with
              | false =>
                have hpi := HNo.out (fun _ h => by rw [hok] at h; cases h)
                replace HG := Lib.hid (fun W' hk => HG.out W' hk false hok)
                clear hok
                go_wp2_with fail
                refine (HG.out _ (by first | exact Below.refl _ _ | exact Below.drew (Below.refl _ _))).mono ?_
                rintro e w9 ⟨rfl, b9⟩
                have ST9 := (by first | exact ST2.out.below b9 | exact ST2.out.drew.below b9 : Stt w w9 bn (.slice A XS.length cc) PP FF UU)
                clear b9 c0 c1' c2' c3 l0 HG HI
                obtain ⟨r0, x0, x1, x2, x3⟩ := ST9.res
                have g0 := ST9.nfr.frozen 0 none
                have g1' := ST9.nfr.frozen 1 none
                have g2' := ST9.nfr.frozen 2 none
                have g3 := ST9.nfr.frozen 3 none
                go_wp2_with fail
                exact bodyPost_ret (v := .tuple #[.agg #[.slice none 0 0, .string ⟨#[]⟩, .string ⟨#[]⟩, .string ⟨#[]⟩], .bool false]) (by simp [results, Try.results9, go_sem, *]) rfl ⟨.slice none 0 0, [], em, em, em, false, rfl, hpi, own_nil _ _, bel4 ST9.bel (Nat.le_refl _)⟩
              | true =>
                replace HG := Lib.hid (fun W' hk => HG.out W' hk true hok)
                by_cases he : ba (invL XS PP FF UU) = s
                · have hpi := pi_yes hok he
                  have hq : ((ba (invL XS PP FF UU)).toList == s.toList) = true := by rw [he]; simp
                  clear hok he
                  go_wp2_with fail
                  refine (HG.out _ (by first | exact Below.refl _ _ | exact Below.drew (Below.refl _ _))).mono ?_
                  rintro e w8 ⟨rfl, b8⟩
                  have k8 := (by first | exact b8 | exact (Below.drew (Below.refl _ _)).trans b8 : Below W6.heap.size W6 w8)
                  have ST8 := ST2.out.below k8
                  clear b8 c0 c1' c2' c3 l0 HG
                  obtain ⟨l0, c0, c1', c2', c3⟩ := ST8.box
                  go_wp2_with fail
                  refine (HI.out _ k8).mono ?_
                  rintro e w9 ⟨rfl, b9⟩
                  have k9 := k8.trans (b9.mono k8.size)
                  have ST9 := ST2.out.below k9
                  have O9 := own_b OWN.out k9
                  generalize ba (invL XS PP FF UU) = z at *
                  clear b9 c0 c1' c2' c3 l0 HI ST8 k8
                  obtain ⟨r0, x0, x1, x2, x3⟩ := ST9.res
                  obtain ⟨l0, c0, c1', c2', c3⟩ := ST9.box
                  have g0 := ST9.nfr.frozen 0 none
                  have g1' := ST9.nfr.frozen 1 none
                  have g2' := ST9.nfr.frozen 2 none
                  have g3 := ST9.nfr.frozen 3 none
                  go_wp2_with fail
                  exact bodyPost_ret (v := .tuple #[.agg #[.slice A XS.length cc, .string PP, .string FF, .string UU], .bool true]) (by simp [results, Try.results9, go_sem, *]) rfl ⟨.slice A XS.length cc, XS, PP, FF, UU, true, rfl, hpi, row_le' (Nat.le_succ _) (own4 (by rw [HRd.out.2.2]; exact O9) (Nat.lt_succ_self _)), bel4 ST9.bel (Nat.le_refl _)⟩
                · have hpi := HNo.out (fun _ _ => he)
                  have hq := ne_formsP he
                  clear hok he
                  go_wp2_with fail
                  refine (HG.out _ (by first | exact Below.refl _ _ | exact Below.drew (Below.refl _ _))).mono ?_
                  rintro e w8 ⟨rfl, b8⟩
                  have k8 := (by first | exact b8 | exact (Below.drew (Below.refl _ _)).trans b8 : Below W6.heap.size W6 w8)
                  have ST8 := ST2.out.below k8
                  clear b8 c0 c1' c2' c3 l0 HG
                  obtain ⟨l0, c0, c1', c2', c3⟩ := ST8.box
                  go_wp2_with fail
                  refine (HI.out _ k8).mono ?_
                  rintro e w9 ⟨rfl, b9⟩
                  have ST9 := ST2.out.below (k8.trans (b9.mono k8.size))
                  generalize ba (invL XS PP FF UU) = z at *
                  clear b9 c0 c1' c2' c3 l0 HI ST8 k8
                  obtain ⟨r0, x0, x1, x2, x3⟩ := ST9.res
                  have g0 := ST9.nfr.frozen 0 none
                  have g1' := ST9.nfr.frozen 1 none
                  have g2' := ST9.nfr.frozen 2 none
                  have g3 := ST9.nfr.frozen 3 none
                  go_wp2_with fail
                  exact bodyPost_ret (v := .tuple #[.agg #[.slice none 0 0, .string ⟨#[]⟩, .string ⟨#[]⟩, .string ⟨#[]⟩], .bool false]) (by simp [results, Try.results9, go_sem, *]) rfl ⟨.slice none 0 0, [], em, em, em, false, rfl, hpi, own_nil _ _, bel4 ST9.bel (Nat.le_refl _)⟩
          · skip
            have hBn : x.toNat ≠ 32 := fun e => x32 (UInt8.toNat_inj.1 e)
            have hB2 : (B[0]'hBp).toNat ≠ 32 := by rw [hB0]; exact hBn
            have hB1 : ¬ (((B[0]'hBp).toNat : Int) = 32) := by omega
            have hB3 : (((B[0]'hBp).toNat : Int) == 32) = false := by rw [beq_eq_false_iff_ne]; exact hB1
            have Hx32 := Lib.hid x32
            clear x32 hB0 hBn
            have hbad : sOk [a, x :: bl] = false := by unfold sOk sp32; exact beq_eq_false_iff_ne.2 Hx32.out
            have hpi := HNo.out (fun h => by rw [hbad] at h; cases h)
            have ST9 := ST.out
            clear ST
            obtain ⟨r0, x0, x1, x2, x3⟩ := ST9.res
            have g0 := ST9.nfr.frozen 0 none
            have g1' := ST9.nfr.frozen 1 none
            have g2' := ST9.nfr.frozen 2 none
            have g3 := ST9.nfr.frozen 3 none
            go_wp2_with fail
            exact bodyPost_ret (v := .tuple #[.agg #[.slice none 0 0, .string ⟨#[]⟩, .string ⟨#[]⟩, .string ⟨#[]⟩], .bool false]) (by simp [results, Try.results9, go_sem, *]) rfl ⟨.slice none 0 0, [], em, em, em, false, rfl, hpi, own_nil _ _, bel4 ST9.bel (Nat.le_refl _)⟩
      | cons c r2 =>
        cases r2 with
        | cons d t =>
          have hN : 3 < (b :: c :: d :: t).length + 1 := by simp only [List.length_cons]; omega
          generalize (b :: c :: d :: t).length + 1 = N at *
          have hN1 : (3 : Int) < (N : Int) := by omega
          have hN2 : decide ((3 : Int) < (N : Int)) = true := decide_eq_true hN1
          have hbad : sOk (a :: b :: c :: d :: t) = false := rfl
          have hpi := HNo.out (fun h => by rw [hbad] at h; cases h)
          have ST9 := ST.out
          clear ST
          obtain ⟨r0, x0, x1, x2, x3⟩ := ST9.res
          have g0 := ST9.nfr.frozen 0 none
          have g1' := ST9.nfr.frozen 1 none
          have g2' := ST9.nfr.frozen 2 none
          have g3 := ST9.nfr.frozen 3 none
          go_wp2_with fail
          exact bodyPost_ret (v := .tuple #[.agg #[.slice none 0 0, .string ⟨#[]⟩, .string ⟨#[]⟩, .string ⟨#[]⟩], .bool false]) (by simp [results, Try.results9, go_sem, *]) rfl ⟨.slice none 0 0, [], em, em, em, false, rfl, hpi, own_nil _ _, bel4 ST9.bel (Nat.le_refl _)⟩
        | nil =>
          cases b with
          | nil =>
            have hlen2 : ([[], c] : List (List UInt8)).length + 1 = 3 := rfl
            rw [hlen2]
            obtain ⟨B, hBd⟩ : ∃ B, B = ba [] := ⟨_, rfl⟩
            have p1 := HC3.out 1 [] rfl
            rw [← hBd] at p1
            have hBe1 : (B.toList == []) = true := by rw [hBd, Lib.toList_data, toList_ba]; rfl
            have hBe2 : B.toList.isEmpty = true := by rw [hBd, Lib.toList_data, toList_ba]; rfl
            clear hBd
            have hbad : sOk [a, [], c] = false := rfl
            have hpi := HNo.out (fun h => by rw [hbad] at h; cases h)
            have ST9 := ST.out
            clear ST
            obtain ⟨r0, x0, x1, x2, x3⟩ := ST9.res
            have g0 := ST9.nfr.frozen 0 none
            have g1' := ST9.nfr.frozen 1 none
            have g2' := ST9.nfr.frozen 2 none
            have g3 := ST9.nfr.frozen 3 none
            go_wp2_with fail
            exact bodyPost_ret (v := .tuple #[.agg #[.slice none 0 0, .string ⟨#[]⟩, .string ⟨#[]⟩, .string ⟨#[]⟩], .bool false]) (by simp [results, Try.results9, go_sem, *]) rfl ⟨.slice none 0 0, [], em, em, em, false, rfl, hpi, own_nil _ _, bel4 ST9.bel (Nat.le_refl _)⟩
          | cons x bl =>
            by_cases x32 : x = 32
            · cases c with
              | nil =>
                have hlen2 : ([x :: bl, []] : List (List UInt8)).length + 1 = 3 := rfl
                rw [hlen2]
                obtain ⟨B, hBd⟩ : ∃ B, B = ba (x :: bl) := ⟨_, rfl⟩
                have p1 := HC3.out 1 (x :: bl) rfl
                rw [← hBd] at p1
                have hBl : B.data.toList = x :: bl := by rw [hBd, toList_ba]
                have hBz : B.size = bl.length + 1 := by rw [hBd, ba_size]; rfl
                have hBp : 0 < B.size := by omega
                have hBp' : (0 : Int) < (B.size : Int) := by omega
                have hBe1 : (B.toList == []) = false := (str_ne (s := B) (by rw [hBl]; simp)).1
                have hBe2 : B.toList.isEmpty = false := (str_ne (s := B) (by rw [hBl]; simp)).2
                have hB0 : (B[0]'hBp) = x := by
                  have h1 : B.data.toList[0]? = some x := by rw [hBl]; rfl
                  rw [Lib.data_getElem? B 0 hBp] at h1
                  exact Option.some.inj h1
                have hBE : (B.extract 1 B.size).data.toList = bl := by rw [extract_list, toList_ba, take_all B _ (Nat.le_refl _), hBl]; rfl
                have hBzE : (B.extract 1 B.size).size = bl.length := by rw [← len_size, hBE]
                have hblz : bl.length ≤ 1048576 := by simp only [List.length_cons, List.map_cons, List.sum_cons] at hsum; omega
                have HBd := Lib.hid hBd
                have HBz := Lib.hid hBz
                clear hBd hBl hBz
                have hB1 : ((B[0]'hBp).toNat : Int) = 32 := by rw [hB0, x32]; rfl
                have hB2 : (B[0]'hBp).toNat = 32 := by omega
                have hB3 : (((B[0]'hBp).toNat : Int) == 32) = true := by rw [hB1]; rfl
                clear x32 hB0
                obtain ⟨C, hCd⟩ : ∃ C, C = ba [] := ⟨_, rfl⟩
                have p2 := HC3.out 2 [] rfl
                rw [← hCd] at p2
                have hCe1 : (C.toList == []) = true := by rw [hCd, Lib.toList_data, toList_ba]; rfl
                have hCe2 : C.toList.isEmpty = true := by rw [hCd, Lib.toList_data, toList_ba]; rfl
                clear hCd
                have hbad : sOk [a, x :: bl, []] = false := by show (sp32 (x :: bl) && sp32 []) = false; rw [show sp32 [] = false from rfl, Bool.and_false]
                have hpi := HNo.out (fun h => by rw [hbad] at h; cases h)
                have ST9 := ST.out
                clear ST
                obtain ⟨r0, x0, x1, x2, x3⟩ := ST9.res
                have g0 := ST9.nfr.frozen 0 none
                have g1' := ST9.nfr.frozen 1 none
                have g2' := ST9.nfr.frozen 2 none
                have g3 := ST9.nfr.frozen 3 none
                go_wp2_with fail
                exact bodyPost_ret (v := .tuple #[.agg #[.slice none 0 0, .string ⟨#[]⟩, .string ⟨#[]⟩, .string ⟨#[]⟩], .bool false]) (by simp [results, Try.results9, go_sem, *]) rfl ⟨.slice none 0 0, [], em, em, em, false, rfl, hpi, own_nil _ _, bel4 ST9.bel (Nat.le_refl _)⟩
              | cons y cl =>
                have hlen2 : ([x :: bl, y :: cl] : List (List UInt8)).length + 1 = 3 := rfl
                rw [hlen2]
                obtain ⟨B, hBd⟩ : ∃ B, B = ba (x :: bl) := ⟨_, rfl⟩
                have p1 := HC3.out 1 (x :: bl) rfl
                rw [← hBd] at p1
                have hBl : B.data.toList = x :: bl := by rw [hBd, toList_ba]
                have hBz : B.size = bl.length + 1 := by rw [hBd, ba_size]; rfl
                have hBp : 0 < B.size := by omega
                have hBp' : (0 : Int) < (B.size : Int) := by omega
                have hBe1 : (B.toList == []) = false := (str_ne (s := B) (by rw [hBl]; simp)).1
                have hBe2 : B.toList.isEmpty = false := (str_ne (s := B) (by rw [hBl]; simp)).2
                have hB0 : (B[0]'hBp) = x := by
                  have h1 : B.data.toList[0]? = some x := by rw [hBl]; rfl
                  rw [Lib.data_getElem? B 0 hBp] at h1
                  exact Option.some.inj h1
                have hBE : (B.extract 1 B.size).data.toList = bl := by rw [extract_list, toList_ba, take_all B _ (Nat.le_refl _), hBl]; rfl
                have hBzE : (B.extract 1 B.size).size = bl.length := by rw [← len_size, hBE]
                have hblz : bl.length ≤ 1048576 := by simp only [List.length_cons, List.map_cons, List.sum_cons] at hsum; omega
                have HBd := Lib.hid hBd
                have HBz := Lib.hid hBz
                clear hBd hBl hBz
                obtain ⟨C, hCd⟩ : ∃ C, C = ba (y :: cl) := ⟨_, rfl⟩
                have p2 := HC3.out 2 (y :: cl) rfl
                rw [← hCd] at p2
                have hCl : C.data.toList = y :: cl := by rw [hCd, toList_ba]
                have hCz : C.size = cl.length + 1 := by rw [hCd, ba_size]; rfl
                have hCp : 0 < C.size := by omega
                have hCp' : (0 : Int) < (C.size : Int) := by omega
                have hCe1 : (C.toList == []) = false := (str_ne (s := C) (by rw [hCl]; simp)).1
                have hCe2 : C.toList.isEmpty = false := (str_ne (s := C) (by rw [hCl]; simp)).2
                have hC0 : (C[0]'hCp) = y := by
                  have h1 : C.data.toList[0]? = some y := by rw [hCl]; rfl
                  rw [Lib.data_getElem? C 0 hCp] at h1
                  exact Option.some.inj h1
                have hCE : (C.extract 1 C.size).data.toList = cl := by rw [extract_list, toList_ba, take_all C _ (Nat.le_refl _), hCl]; rfl
                have hCzE : (C.extract 1 C.size).size = cl.length := by rw [← len_size, hCE]
                have hclz : cl.length ≤ 1048576 := by simp only [List.length_cons, List.map_cons, List.sum_cons] at hsum; omega
                have HCd := Lib.hid hCd
                have HCz := Lib.hid hCz
                clear hCd hCl hCz
                have hB1 : ((B[0]'hBp).toNat : Int) = 32 := by rw [hB0, x32]; rfl
                have hB2 : (B[0]'hBp).toNat = 32 := by omega
                have hB3 : (((B[0]'hBp).toNat : Int) == 32) = true := by rw [hB1]; rfl
                clear x32 hB0
                by_cases y32 : y = 32
                · skip
                  have hC1 : ((C[0]'hCp).toNat : Int) = 32 := by rw [hC0, y32]; rfl
                  have hC2 : (C[0]'hCp).toNat = 32 := by omega
                  have hC3 : (((C[0]'hCp).toNat : Int) == 32) = true := by rw [hC1]; rfl
                  clear y32 hC0
                  generalize sP [a, x :: bl, y :: cl] = PP at *
                  generalize sF [a, x :: bl, y :: cl] = FF at *
                  generalize hXS : sX [a, x :: bl, y :: cl] = XS at *
                  generalize hUU : sU [a, x :: bl, y :: cl] = UU at *
                  by_cases hbl : bl = []
                  · skip
                    have hB1 : B.size = 1 := by rw [HBz.out, hbl]; rfl
                    have hg1' : ¬ ((1 : Int) < (B.size : Int)) := by omega
                    have hg2' : decide ((1 : Int) < (B.size : Int)) = false := decide_eq_false hg1'
                    have hX0 : XS = [] := by rw [← hXS, hbl]; rfl
                    clear hbl hXS
                    go_upto_region 8 with fail
                    have OWG : Hid (w3.ownsRow (bn + 1) 9 1 (.slice none 0 0) 0 (XS.map Value.string)) := Lib.hid (by rw [hX0]; exact own_nil w3 (bn + 1))
                    have STg := ST
                    clear ST hX0 hg1' hg2'
                    have HPC := Lib.hid (HC3.out 2 _ rfl)
                    clear HC3
                    have hU0 : UU = C.extract 1 C.size := by rw [← hUU, ← ba_toList (C.extract 1 C.size), hCE]; rfl
                    have ST7 := STg.out.set (W' := w3.setCell ⟨bn, 3, none⟩ (.string (C.extract 1 C.size))) rfl (c4_3 STg.out.box)
                    have o7 := own_far (b := bn) (o := 3) (x := .string (C.extract 1 C.size)) OWG.out (Nat.lt_succ_self bn)
                    obtain ⟨l0, c0, c1', c2', c3⟩ := STg.out.box
                    have f3 := STg.out.nfb.frozen 3 none
                    have pc := HPC.out
                    rw [← HCd.out] at pc
                    have hc4' : (1 : Int) ≤ (C.size : Int) := by omega
                    have hc5' : 1 ≤ C.size := by omega
                    have hc6' : ¬ ((C.size : Int) < 1) := by omega
                    go_wp2_with fail
                    generalize w3.setCell ⟨bn, 3, none⟩ (.string (C.extract 1 C.size)) = W7 at *
                    rw [← hU0] at ST7
                    rw [← hU0]
                    have ST2 := Lib.hid ST7
                    have OWN := Lib.hid (row_le' (Nat.succ_le_succ (Nat.le_of_lt STg.out.lt)) o7)
                    clear ST7 o7 l0 c0 c1' c2' c3 f3 pc hc4' hc5' hc6' hU0 hUU STg OWG HPC
                    have HRd := Lib.hid (Rdn.own OWN.out)
                    have HG := Lib.hid (fun W' (hk : Below W7.heap.size W7 W') (r : Bool) (hr : okN XS PP FF UU = r) => l2Good_b none 0 0 XS PP FF UU r W' (HRd.out.below hk).1 (HRd.out.below hk).2.1 (HRd.out.below hk).2.2 (by have := HCz.out; have := HRd.out.2.2; omega) (fun x hx => by have := mem_lens hx; have := HCz.out; omega) (by have := HCz.out; omega) (by have := HCz.out; omega) (by have := HCz.out; omega) hr)
                    have HI := Lib.hid (fun W' (hk : Below W7.heap.size W7 W') => l2Inverse none 0 0 XS PP FF UU W' (HRd.out.below hk) (by have := HCz.out; have := HRd.out.2.2; omega))
                    obtain ⟨l0, c0, c1', c2', c3⟩ := ST2.out.box
                    cases hok : okN XS PP FF UU with
                    | false =>
                      have hpi := HNo.out (fun _ h => by rw [hok] at h; cases h)
                      replace HG := Lib.hid (fun W' hk => HG.out W' hk false hok)
                      clear hok
                      refine (HG.out _ (by first | exact Below.refl _ _ | exact Below.drew (Below.refl _ _))).mono ?_
                      rintro e w9 ⟨rfl, b9⟩
                      have ST9 := (by first | exact ST2.out.below b9 | exact ST2.out.drew.below b9 : Stt w w9 bn (.slice none 0 0) PP FF UU)
                      clear b9 c0 c1' c2' c3 l0 HG HI
                      obtain ⟨r0, x0, x1, x2, x3⟩ := ST9.res
                      have g0 := ST9.nfr.frozen 0 none
                      have g1' := ST9.nfr.frozen 1 none
                      have g2' := ST9.nfr.frozen 2 none
                      have g3 := ST9.nfr.frozen 3 none
                      go_wp2_with fail
                      exact bodyPost_ret (v := .tuple #[.agg #[.slice none 0 0, .string ⟨#[]⟩, .string ⟨#[]⟩, .string ⟨#[]⟩], .bool false]) (by simp [results, Try.results9, go_sem, *]) rfl ⟨.slice none 0 0, [], em, em, em, false, rfl, hpi, own_nil _ _, bel4 ST9.bel (Nat.le_refl _)⟩
                    | true =>
                      replace HG := Lib.hid (fun W' hk => HG.out W' hk true hok)
                      by_cases he : ba (invL XS PP FF UU) = s
                      · have hpi := pi_yes hok he
                        have hq : ((ba (invL XS PP FF UU)).toList == s.toList) = true := by rw [he]; simp
                        clear hok he
                        refine (HG.out _ (by first | exact Below.refl _ _ | exact Below.drew (Below.refl _ _))).mono ?_
                        rintro e w8 ⟨rfl, b8⟩
                        have k8 := (by first | exact b8 | exact (Below.drew (Below.refl _ _)).trans b8 : Below W7.heap.size W7 w8)
                        have ST8 := ST2.out.below k8
                        clear b8 c0 c1' c2' c3 l0 HG
                        obtain ⟨l0, c0, c1', c2', c3⟩ := ST8.box
                        go_wp2_with fail
                        refine (HI.out _ k8).mono ?_
                        rintro e w9 ⟨rfl, b9⟩
                        have k9 := k8.trans (b9.mono k8.size)
                        have ST9 := ST2.out.below k9
                        have O9 := own_b OWN.out k9
                        generalize ba (invL XS PP FF UU) = z at *
                        clear b9 c0 c1' c2' c3 l0 HI ST8 k8
                        obtain ⟨r0, x0, x1, x2, x3⟩ := ST9.res
                        obtain ⟨l0, c0, c1', c2', c3⟩ := ST9.box
                        have g0 := ST9.nfr.frozen 0 none
                        have g1' := ST9.nfr.frozen 1 none
                        have g2' := ST9.nfr.frozen 2 none
                        have g3 := ST9.nfr.frozen 3 none
                        go_wp2_with fail
                        exact bodyPost_ret (v := .tuple #[.agg #[.slice none 0 0, .string PP, .string FF, .string UU], .bool true]) (by simp [results, Try.results9, go_sem, *]) rfl ⟨.slice none 0 0, XS, PP, FF, UU, true, rfl, hpi, row_le' (Nat.le_succ _) (own4 (by rw [HRd.out.2.2]; exact O9) (Nat.lt_succ_self _)), bel4 ST9.bel (Nat.le_refl _)⟩
                      · have hpi := HNo.out (fun _ _ => he)
                        have hq := ne_formsP he
                        clear hok he
                        refine (HG.out _ (by first | exact Below.refl _ _ | exact Below.drew (Below.refl _ _))).mono ?_
                        rintro e w8 ⟨rfl, b8⟩
                        have k8 := (by first | exact b8 | exact (Below.drew (Below.refl _ _)).trans b8 : Below W7.heap.size W7 w8)
                        have ST8 := ST2.out.below k8
                        clear b8 c0 c1' c2' c3 l0 HG
                        obtain ⟨l0, c0, c1', c2', c3⟩ := ST8.box
                        go_wp2_with fail
                        refine (HI.out _ k8).mono ?_
                        rintro e w9 ⟨rfl, b9⟩
                        have ST9 := ST2.out.below (k8.trans (b9.mono k8.size))
                        generalize ba (invL XS PP FF UU) = z at *
                        clear b9 c0 c1' c2' c3 l0 HI ST8 k8
                        obtain ⟨r0, x0, x1, x2, x3⟩ := ST9.res
                        have g0 := ST9.nfr.frozen 0 none
                        have g1' := ST9.nfr.frozen 1 none
                        have g2' := ST9.nfr.frozen 2 none
                        have g3 := ST9.nfr.frozen 3 none
                        go_wp2_with fail
                        exact bodyPost_ret (v := .tuple #[.agg #[.slice none 0 0, .string ⟨#[]⟩, .string ⟨#[]⟩, .string ⟨#[]⟩], .bool false]) (by simp [results, Try.results9, go_sem, *]) rfl ⟨.slice none 0 0, [], em, em, em, false, rfl, hpi, own_nil _ _, bel4 ST9.bel (Nat.le_refl _)⟩
                  · skip
                    have hg1' : (1 : Int) < (B.size : Int) := by have := List.length_pos_iff.2 hbl; have := HBz.out; omega
                    have hg2' : decide ((1 : Int) < (B.size : Int)) = true := decide_eq_true hg1'
                    have hg4' : (1 : Int) ≤ (B.size : Int) := by omega
                    have hg5' : 1 ≤ B.size := by omega
                    have hg6' : ¬ ((B.size : Int) < 1) := by omega
                    have HS3 := Lib.hid (fun w => Split.l1Split_any (B.extract 1 B.size) 32 w (by rw [hBzE]; omega))
                    rw [hBE] at HS3
                    have hX0 : XS = (split 32 bl).map ba := by rw [← hXS]; show (gvL bl).map ba = _; unfold gvL; rw [if_neg hbl]
                    go_wp2_with fail
                    refine (HS3.out _).mono ?_
                    rintro e w6 ⟨v, rfl, o6, b6⟩
                    have k6 := (by first | exact b6 | exact (Below.drew (Below.refl _ _)).trans b6 : Below w3.heap.size w3 w6)
                    have hbn3 := ST.out.box.1
                    have ST6 := ST.out.below k6
                    have o6' : w6.ownsRow (bn + 1) 9 1 v XS.length (XS.map Value.string) := by
                      rw [hX0, List.length_map, List.map_map]
                      exact row_le' hbn3 o6
                    obtain ⟨A, cc, rfl, -, -, -⟩ := Strs.own_rds o6'
                    have ST7 := ST6.set (W' := w6.setCell ⟨bn, 0, none⟩ (.slice A XS.length cc)) rfl (c4_0 ST6.box)
                    have o7 := o6'.kept (grownBy_setCell' w6 bn (.slice A XS.length cc)) (apart_old o6 (by exact hbn3))
                    obtain ⟨l0, c0, c1', c2', c3⟩ := ST6.box
                    have f0 := ST6.nfb.frozen 0 none
                    have HPC0 := Lib.hid ((World.cell?_setCell_other w6 ⟨bn, 0, none⟩ ⟨g1, 2, none⟩ (.slice A XS.length cc) (fun e => by injection e with e1 _ _; exact absurd e1 (Nat.ne_of_gt hg1b))).trans ((k6.cell (p := ⟨g1, 2, none⟩) hl13).trans (HC3.out 2 _ rfl)))
                    clear HS3 b6 HC3 hX0 hXS
                    go_upto_region 8 with fail
                    generalize w6.setCell ⟨bn, 0, none⟩ (.slice A XS.length cc) = W6 at *
                    have STg := Lib.hid ST7
                    have OWG := Lib.hid o7
                    have HPC := HPC0
                    clear HPC0
                    clear ST7 o7 ST6 o6 o6' l0 c0 c1' c2' c3 f0 ST hg1' hg2' hg4' hg5' hg6'
                    have hU0 : UU = C.extract 1 C.size := by rw [← hUU, ← ba_toList (C.extract 1 C.size), hCE]; rfl
                    have ST7 := STg.out.set (W' := W6.setCell ⟨bn, 3, none⟩ (.string (C.extract 1 C.size))) rfl (c4_3 STg.out.box)
                    have o7 := own_far (b := bn) (o := 3) (x := .string (C.extract 1 C.size)) OWG.out (Nat.lt_succ_self bn)
                    obtain ⟨l0, c0, c1', c2', c3⟩ := STg.out.box
                    have f3 := STg.out.nfb.frozen 3 none
                    have pc := HPC.out
                    rw [← HCd.out] at pc
                    have hc4' : (1 : Int) ≤ (C.size : Int) := by omega
                    have hc5' : 1 ≤ C.size := by omega
                    have hc6' : ¬ ((C.size : Int) < 1) := by omega
                    go_wp2_with fail
                    generalize W6.setCell ⟨bn, 3, none⟩ (.string (C.extract 1 C.size)) = W7 at *
                    rw [← hU0] at ST7
                    rw [← hU0]
                    have ST2 := Lib.hid ST7
                    have OWN := Lib.hid (row_le' (Nat.succ_le_succ (Nat.le_of_lt STg.out.lt)) o7)
                    clear ST7 o7 l0 c0 c1' c2' c3 f3 pc hc4' hc5' hc6' hU0 hUU STg OWG HPC
                    have HRd := Lib.hid (Rdn.own OWN.out)
                    have HG := Lib.hid (fun W' (hk : Below W7.heap.size W7 W') (r : Bool) (hr : okN XS PP FF UU = r) => l2Good_b A cc XS.length XS PP FF UU r W' (HRd.out.below hk).1 (HRd.out.below hk).2.1 (HRd.out.below hk).2.2 (by have := HCz.out; have := HRd.out.2.2; omega) (fun x hx => by have := mem_lens hx; have := HCz.out; omega) (by have := HCz.out; omega) (by have := HCz.out; omega) (by have := HCz.out; omega) hr)
                    have HI := Lib.hid (fun W' (hk : Below W7.heap.size W7 W') => l2Inverse A cc XS.length XS PP FF UU W' (HRd.out.below hk) (by have := HCz.out; have := HRd.out.2.2; omega))
                    obtain ⟨l0, c0, c1', c2', c3⟩ := ST2.out.box
                    cases hok : okN XS PP FF UU with
                    | false =>
                      have hpi := HNo.out (fun _ h => by rw [hok] at h; cases h)
                      replace HG := Lib.hid (fun W' hk => HG.out W' hk false hok)
                      clear hok
                      refine (HG.out _ (by first | exact Below.refl _ _ | exact Below.drew (Below.refl _ _))).mono ?_
                      rintro e w9 ⟨rfl, b9⟩
                      have ST9 := (by first | exact ST2.out.below b9 | exact ST2.out.drew.below b9 : Stt w w9 bn (.slice A XS.length cc) PP FF UU)
                      clear b9 c0 c1' c2' c3 l0 HG HI
                      obtain ⟨r0, x0, x1, x2, x3⟩ := ST9.res
                      have g0 := ST9.nfr.frozen 0 none
                      have g1' := ST9.nfr.frozen 1 none
                      have g2' := ST9.nfr.frozen 2 none
                      have g3 := ST9.nfr.frozen 3 none
                      go_wp2_with fail
                      exact bodyPost_ret (v := .tuple #[.agg #[.slice none 0 0, .string ⟨#[]⟩, .string ⟨#[]⟩, .string ⟨#[]⟩], .bool false]) (by simp [results, Try.results9, go_sem, *]) rfl ⟨.slice none 0 0, [], em, em, em, false, rfl, hpi, own_nil _ _, bel4 ST9.bel (Nat.le_refl _)⟩
                    | true =>
                      replace HG := Lib.hid (fun W' hk => HG.out W' hk true hok)
                      by_cases he : ba (invL XS PP FF UU) = s
                      · have hpi := pi_yes hok he
                        have hq : ((ba (invL XS PP FF UU)).toList == s.toList) = true := by rw [he]; simp
                        clear hok he
                        refine (HG.out _ (by first | exact Below.refl _ _ | exact Below.drew (Below.refl _ _))).mono ?_
                        rintro e w8 ⟨rfl, b8⟩
                        have k8 := (by first | exact b8 | exact (Below.drew (Below.refl _ _)).trans b8 : Below W7.heap.size W7 w8)
                        have ST8 := ST2.out.below k8
                        clear b8 c0 c1' c2' c3 l0 HG
                        obtain ⟨l0, c0, c1', c2', c3⟩ := ST8.box
                        go_wp2_with fail
                        refine (HI.out _ k8).mono ?_
                        rintro e w9 ⟨rfl, b9⟩
                        have k9 := k8.trans (b9.mono k8.size)
                        have ST9 := ST2.out.below k9
                        have O9 := own_b OWN.out k9
                        generalize ba (invL XS PP FF UU) = z at *
                        clear b9 c0 c1' c2' c3 l0 HI ST8 k8
                        obtain ⟨r0, x0, x1, x2, x3⟩ := ST9.res
                        obtain ⟨l0, c0, c1', c2', c3⟩ := ST9.box
                        have g0 := ST9.nfr.frozen 0 none
                        have g1' := ST9.nfr.frozen 1 none
                        have g2' := ST9.nfr.frozen 2 none
                        have g3 := ST9.nfr.frozen 3 none
                        go_wp2_with fail
                        exact bodyPost_ret (v := .tuple #[.agg #[.slice A XS.length cc, .string PP, .string FF, .string UU], .bool true]) (by simp [results, Try.results9, go_sem, *]) rfl ⟨.slice A XS.length cc, XS, PP, FF, UU, true, rfl, hpi, row_le' (Nat.le_succ _) (own4 (by rw [HRd.out.2.2]; exact O9) (Nat.lt_succ_self _)), bel4 ST9.bel (Nat.le_refl _)⟩
                      · have hpi := HNo.out (fun _ _ => he)
                        have hq := ne_formsP he
                        clear hok he
                        refine (HG.out _ (by first | exact Below.refl _ _ | exact Below.drew (Below.refl _ _))).mono ?_
                        rintro e w8 ⟨rfl, b8⟩
                        have k8 := (by first | exact b8 | exact (Below.drew (Below.refl _ _)).trans b8 : Below W7.heap.size W7 w8)
                        have ST8 := ST2.out.below k8
                        clear b8 c0 c1' c2' c3 l0 HG
                        obtain ⟨l0, c0, c1', c2', c3⟩ := ST8.box
                        go_wp2_with fail
                        refine (HI.out _ k8).mono ?_
                        rintro e w9 ⟨rfl, b9⟩
                        have ST9 := ST2.out.below (k8.trans (b9.mono k8.size))
                        generalize ba (invL XS PP FF UU) = z at *
                        clear b9 c0 c1' c2' c3 l0 HI ST8 k8
                        obtain ⟨r0, x0, x1, x2, x3⟩ := ST9.res
                        have g0 := ST9.nfr.frozen 0 none
                        have g1' := ST9.nfr.frozen 1 none
                        have g2' := ST9.nfr.frozen 2 none
                        have g3 := ST9.nfr.frozen 3 none
                        go_wp2_with fail
                        exact bodyPost_ret (v := .tuple #[.agg #[.slice none 0 0, .string ⟨#[]⟩, .string ⟨#[]⟩, .string ⟨#[]⟩], .bool false]) (by simp [results, Try.results9, go_sem, *]) rfl ⟨.slice none 0 0, [], em, em, em, false, rfl, hpi, own_nil _ _, bel4 ST9.bel (Nat.le_refl _)⟩
                · skip
                  have hCn : y.toNat ≠ 32 := fun e => y32 (UInt8.toNat_inj.1 e)
                  have hC2 : (C[0]'hCp).toNat ≠ 32 := by rw [hC0]; exact hCn
                  have hC1 : ¬ (((C[0]'hCp).toNat : Int) = 32) := by omega
                  have hC3 : (((C[0]'hCp).toNat : Int) == 32) = false := by rw [beq_eq_false_iff_ne]; exact hC1
                  have Hy32 := Lib.hid y32
                  clear y32 hC0 hCn
                  have hbad : sOk [a, x :: bl, y :: cl] = false := by show (sp32 (x :: bl) && sp32 (y :: cl)) = false; rw [show sp32 (y :: cl) = false from beq_eq_false_iff_ne.2 Hy32.out, Bool.and_false]
                  have hpi := HNo.out (fun h => by rw [hbad] at h; cases h)
                  have ST9 := ST.out
                  clear ST
                  obtain ⟨r0, x0, x1, x2, x3⟩ := ST9.res
                  have g0 := ST9.nfr.frozen 0 none
                  have g1' := ST9.nfr.frozen 1 none
                  have g2' := ST9.nfr.frozen 2 none
                  have g3 := ST9.nfr.frozen 3 none
                  go_wp2_with fail
                  exact bodyPost_ret (v := .tuple #[.agg #[.slice none 0 0, .string ⟨#[]⟩, .string ⟨#[]⟩, .string ⟨#[]⟩], .bool false]) (by simp [results, Try.results9, go_sem, *]) rfl ⟨.slice none 0 0, [], em, em, em, false, rfl, hpi, own_nil _ _, bel4 ST9.bel (Nat.le_refl _)⟩
            · skip
              have hlen2 : ([x :: bl, c] : List (List UInt8)).length + 1 = 3 := rfl
              rw [hlen2]
              obtain ⟨B, hBd⟩ : ∃ B, B = ba (x :: bl) := ⟨_, rfl⟩
              have p1 := HC3.out 1 (x :: bl) rfl
              rw [← hBd] at p1
              have hBl : B.data.toList = x :: bl := by rw [hBd, toList_ba]
              have hBz : B.size = bl.length + 1 := by rw [hBd, ba_size]; rfl
              have hBp : 0 < B.size := by omega
              have hBp' : (0 : Int) < (B.size : Int) := by omega
              have hBe1 : (B.toList == []) = false := (str_ne (s := B) (by rw [hBl]; simp)).1
              have hBe2 : B.toList.isEmpty = false := (str_ne (s := B) (by rw [hBl]; simp)).2
              have hB0 : (B[0]'hBp) = x := by
                have h1 : B.data.toList[0]? = some x := by rw [hBl]; rfl
                rw [Lib.data_getElem? B 0 hBp] at h1
                exact Option.some.inj h1
              have hBE : (B.extract 1 B.size).data.toList = bl := by rw [extract_list, toList_ba, take_all B _ (Nat.le_refl _), hBl]; rfl
              have hBzE : (B.extract 1 B.size).size = bl.length := by rw [← len_size, hBE]
              have hblz : bl.length ≤ 1048576 := by simp only [List.length_cons, List.map_cons, List.sum_cons] at hsum; omega
              have HBd := Lib.hid hBd
              have HBz := Lib.hid hBz
              clear hBd hBl hBz
              have hBn : x.toNat ≠ 32 := fun e => x32 (UInt8.toNat_inj.1 e)
              have hB2 : (B[0]'hBp).toNat ≠ 32 := by rw [hB0]; exact hBn
              have hB1 : ¬ (((B[0]'hBp).toNat : Int) = 32) := by omega
              have hB3 : (((B[0]'hBp).toNat : Int) == 32) = false := by rw [beq_eq_false_iff_ne]; exact hB1
              have Hx32 := Lib.hid x32
              clear x32 hB0 hBn
              have hbad : sOk [a, x :: bl, c] = false := by show (sp32 (x :: bl) && sp32 c) = false; rw [show sp32 (x :: bl) = false from beq_eq_false_iff_ne.2 Hx32.out, Bool.false_and]
              have hpi := HNo.out (fun h => by rw [hbad] at h; cases h)
              have ST9 := ST.out
              clear ST
              obtain ⟨r0, x0, x1, x2, x3⟩ := ST9.res
              have g0 := ST9.nfr.frozen 0 none
              have g1' := ST9.nfr.frozen 1 none
              have g2' := ST9.nfr.frozen 2 none
              have g3 := ST9.nfr.frozen 3 none
              go_wp2_with fail
              exact bodyPost_ret (v := .tuple #[.agg #[.slice none 0 0, .string ⟨#[]⟩, .string ⟨#[]⟩, .string ⟨#[]⟩], .bool false]) (by simp [results, Try.results9, go_sem, *]) rfl ⟨.slice none 0 0, [], em, em, em, false, rfl, hpi, own_nil _ _, bel4 ST9.bel (Nat.le_refl _)⟩
end Go.Proofs.Ytdnccgnploifkaa.Pi
