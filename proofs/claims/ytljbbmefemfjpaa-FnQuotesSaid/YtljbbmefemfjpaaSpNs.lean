/-
  Contract of l10Normal of the model.
-/
import Derived.Test.YtljbbmefemfjpaaSpA
namespace Go.Proofs.Ytljbbmefemfjpaa.SpNs
open Go.RowKit SpPl Sp SpA
set_option linter.unusedSimpArgs false
set_option linter.unusedVariables false

set_option maxRecDepth 100000 in
set_option maxHeartbeats 4000000 in
theorem normal_s (A : Option Addr) (c N : Nat) (L : List Sp1) (w : World) (h : RdSp w A L) (hn : L.length = N) (hN : N ≤ 1048576) (hs : szL L ≤ 1048576) :
    Calls Try.prog 47 #[.slice A N c] w fun e w' => ∃ v, e = .returned v ∧ w'.ownsRow w.heap.size 70 3 v (nmL L).length (pcells (nmL L)) ∧ Below w.heap.size w w' := by
  obtain ⟨i0, hi, hz0, hz1, hz2⟩ := info_parts infoSp
  have HR := Lib.hid h
  have HN := Lib.hid hn
  have HL := Lib.hid hs
  have HO1 : Hid ((w.alloc (.cells #[] 70)).ownsRow w.heap.size 70 3 (.slice (some ⟨w.heap.size, 0, none⟩) 0 0) (nmL (L.take 0)).length (pcells (nmL (L.take 0)))) := Lib.hid (World.ownsRow_lit (base := w.heap.size) (e := 70) (size := 3) w #[] 0 (Nat.le_refl _) (by decide) (by simp))
  have HB1 := Lib.hid (box_below w (.cells #[] 70))
  clear h hn hs
  go_enter Try.func47, Try.ntmps47
  go_wp2_with fail
  go_loopw [3, 4] (fun v q wr => ∃ k : Nat, k ≤ N ∧ q = .int .i64 k ∧ Hid (wr.ownsRow w.heap.size 70 3 v (nmL (L.take k)).length (pcells (nmL (L.take k)))) ∧ Below w.heap.size w wr) (fun _ q _ => N - (intOf q).toNat)
  case atStart => exact ⟨0, Nat.zero_le _, rfl, HO1, HB1.out⟩
  case round =>
    obtain ⟨k, hk, rfl, HO, hb⟩ := hrel
    obtain ⟨A2, c2, rfl, _, RM, hc2⟩ := own_rdp HO.out
    by_cases hlt : k < N
    · have hkx : k < L.length := by rw [HN.out]; exact hlt
      have hx? := List.getElem?_eq_getElem hkx
      obtain ⟨g, o, rfl, hg, c0, c1, c2'⟩ := (HR.out.below hb) k L[k] hx?
      have HMg := Lib.hid (nm_take hx?)
      have HSf := Lib.hid (stp_facts (nmL (L.take k)) L[k])
      have HS1 := Lib.hid (nm_facts (L.take (k + 1)))
      have HS2 := Lib.hid (szL_le L (k + 1))
      have HS3 := Lib.hid (nm_facts (L.take k))
      have hkl : (L.take k).length = k := by rw [List.length_take]; omega
      have hMl : (nmL (L.take k)).length ≤ k := by have := HS3.out.2; omega
      clear hx? hkl
      generalize nmL (L.take k) = M at *
      generalize L[k] = x at *
      obtain ⟨l, f, b⟩ := x
      dsimp only at c0 c1 c2'
      have hsz : szL M + l.size ≤ 1048576 := by
        have h1 := HSf.out.1
        have h2 := HS1.out.1
        rw [HMg.out] at h2
        have h3 := HS2.out
        have h4 := HL.out
        dsimp only at h1
        omega
      clear HSf HS1 HS2 HS3
      have HB5 := Lib.hid (box_below wr (.cells #[.string l, .bool f, .bool b] 70))
      by_cases hx0 : l.size = 0
      · have HM : Hid (nmL (L.take (k + 1)) = M) := Lib.hid (HMg.out.trans (stp_0 hx0))
        obtain rfl := nil_str hx0
        clear hx0
        go_wp2_with fail
        go_roundw
        case rel => exact ⟨k + 1, by omega, by go_num, Lib.hid (by rw [HM.out]; exact own_kept HO.out HB5.out), hb.trans (HB5.out.mono hb.size)⟩
        case measure => simp [intOf]; omega
      · have hl0 : 0 < l.size := by omega
        obtain ⟨hne1, hne2⟩ := ne_str hl0
        have D5 := Lib.hid (P3.new wr l f b 70)
        have hz5 : (wr.alloc (.cells #[.string l, .bool f, .bool b] 70)).frozen? ⟨wr.heap.size, 0, none⟩ = false := by simp
        have HO5 := Lib.hid (own_kept HO.out HB5.out)
        have HL0 := Lib.hid hl0
        clear hl0 hx0
        go_upto_region 24 with fail
        generalize hw5 : wr.alloc (.cells #[.string l, .bool f, .bool b] 70) = w5 at HB5 D5 hz5 HO5 ⊢
        have hb5 := hb.trans (HB5.out.mono hb.size)
        obtain ⟨p5, p0, p1, p2⟩ := D5.out
        clear hw5 c0 c1 c2'
        by_cases hm : M.length = 0
        · obtain rfl : M = [] := List.eq_nil_of_length_eq_zero hm
          have HM : Hid (nmL (L.take (k + 1)) = [] ++ [⟨l, f, b⟩]) := Lib.hid (HMg.out.trans (stp_first HL0.out))
          clear RM hm
          go_wp2_with fail
          go_quiet (fail)
          generalize hwz : w5.drewN _ = wz
          have hkz : Kp w5 wz := by rw [← hwz]; exact below_drewN' (Kp.refl' _) _
          have HOz := own_kept HO5.out hkz
          have hbz := hb5.trans (Below.mono hkz hb5.size)
          have q0 := (hkz.cell (p := ⟨wr.heap.size, 0, none⟩) p5).trans p0
          have q1 := (hkz.cell (p := ⟨wr.heap.size, 1, none⟩) p5).trans p1
          have q2 := (hkz.cell (p := ⟨wr.heap.size, 2, none⟩) p5).trans p2
          have hszz := Below.size hbz
          clear hwz p0 p1 p2
          go_wp2_with (first
            | (at_builtin; refine wpList_append_own _ rfl _ _ 36 rfl w.heap.size 70 i0 (.agg #[.string ByteArray.empty, .bool false, .bool false]) 3 24 Try.underlying36 hi hz0 hz1 hz2 rfl (by decide) _ _ _ rfl (HOz.alloc _) ⟨wz.heap.size, 0, none⟩ 1 1 [.string l, .bool f, .bool b] rfl rfl (cell_three_new _ _ _ _ _) (by simp [Value.oneCell']) (by unfold maxLen; simp <;> omega) (by simp <;> omega) (by simp; omega) ?_; intro v' w9 hown' hgrow _))
          go_roundw
          case rel =>
            refine ⟨k + 1, by omega, by go_num, Lib.hid ?_, ?_⟩
            · rw [HM.out, pcells_app]
              exact hown'
            · exact (hbz.alloc hbz.size _).grown hgrow (by have := hbz.size; simp; omega) (fun g hg => (HOz.lt g hg).1)
          case measure => (simp [intOf] <;> omega)
        · obtain ⟨n1, hn1⟩ : ∃ n1, M.length = n1 + 1 := ⟨M.length - 1, by omega⟩
          have hny : n1 < M.length := by omega
          have hy? := List.getElem?_eq_getElem hny
          obtain ⟨g6, o6, he6, hg6, d0, d1, d2⟩ := (RM.below HB5.out) n1 M[n1] hy?
          have HY? := Lib.hid hy?
          have HYs := Lib.hid (szL_mem (List.getElem_mem hny))
          clear hy? RM hm
          generalize M[n1] = y at *
          subst he6
          obtain rfl : o6 = 0 := by
            rcases HO.out.2 with ⟨hv, _⟩ | ⟨g', cap, cur, hv, _⟩
            · cases hv
            · cases hv; rfl
          obtain ⟨yl, yf, yt⟩ := y
          dsimp only at d0 d1 d2 HYs
          rw [Nat.zero_add] at d0 d1 d2
          have hys : yl.size + l.size ≤ 1048576 := by have := HYs.out; omega
          have HMl := Lib.hid hn1
          have hM8 : n1 + 1 ≤ k := by omega
          rw [hn1] at HO HO5 hc2 ⊢
          clear hn1 hny hMl
          have hI0 : (0 : Int) ≤ (n1 : Int) := Int.natCast_nonneg _
          have hwd : IntKind.i64.wrap (n1 : Int) = (n1 : Int) := by rw [IntWalk.i64_in _ (by omega)]
          by_cases hag : yf = f ∧ yt = b
          · obtain ⟨rfl, rfl⟩ := hag
            have HM : Hid (nmL (L.take (k + 1)) = M.set n1 ⟨yl ++ l, yf, yt⟩) := Lib.hid (HMg.out.trans (stp_join HMl.out HY?.out HL0.out rfl rfl))
            go_wp2_with fail
            go_quiet (fail)
            generalize hwz : w5.drewN _ = wz
            have hkz : Kp w5 wz := by rw [← hwz]; exact below_drewN' (Kp.refl' _) _
            have HOz := own_kept HO5.out hkz
            have hbz := hb5.trans (Below.mono hkz hb5.size)
            have D := Lib.hid (D5.out.below hkz)
            have e0 := (hkz.cell (p := ⟨g6, n1 * 3, none⟩) hg6).trans d0
            have hzz : wz.frozen? ⟨wr.heap.size, 0, none⟩ = false := by rw [← hwz]; exact hz5
            have HKz := Lib.hid hbz
            obtain ⟨u5, q0, q1, q2⟩ := D.out
            have hwrz : w.heap.size ≤ wr.heap.size := hb.size
            clear hwz p0 p1 p2 d0 d1 d2 hz5
            go_wp2_with fail
            go_region_with (fail)
            all_goals
              generalize hw10 : World.setCell _ ⟨wr.heap.size, 0, none⟩ (.string (yl ++ l)) = w10
              have D10 := Lib.hid (show P3 w10 wr.heap.size (yl ++ l) yf yt by rw [← hw10]; exact P3.set0 (show P3 _ _ _ _ _ from D.out) _)
              have hg6r := (HO.out.lt g6 rfl).2
              have HK10 : Below wr.heap.size wz w10 := by rw [← hw10]; first | exact Below.setCell (Below.refl _ _) (p := ⟨wr.heap.size, 0, none⟩) (Nat.le_refl _) _ | exact Below.setCell (Below.refl _ _).drew (p := ⟨wr.heap.size, 0, none⟩) (Nat.le_refl _) _
              have ho10 := own_kept HO.out ((HB5.out.trans (Below.mono hkz HB5.out.size)).trans HK10)
              clear hw10 q0 q1 q2 hzz e0
              obtain ⟨hl10, p0, p1, p2⟩ := D10.out
              have hplen : (pcells M).length = (n1 + 1) * 3 := by rw [pcells_len, HMl.out]
              have f0 := World.ownsRow.frozenAt ho10 (n1 * 3)
              have f1 := World.ownsRow.frozenAt ho10 (n1 * 3 + 1)
              have f2 := World.ownsRow.frozenAt ho10 (n1 * 3 + 2)
              obtain ⟨u0, v0⟩ : ∃ u, w10.cell? ⟨g6, n1 * 3, none⟩ = some u := by rw [World.ownsRow.cellAt ho10 (n1 * 3) (by omega)]; exact ⟨_, List.getElem?_eq_getElem (by omega)⟩
              obtain ⟨u1, v1⟩ : ∃ u, w10.cell? ⟨g6, n1 * 3 + 1, none⟩ = some u := by rw [World.ownsRow.cellAt ho10 (n1 * 3 + 1) (by omega)]; exact ⟨_, List.getElem?_eq_getElem (by omega)⟩
              obtain ⟨u2, v2⟩ : ∃ u, w10.cell? ⟨g6, n1 * 3 + 2, none⟩ = some u := by rw [World.ownsRow.cellAt ho10 (n1 * 3 + 2) (by omega)]; exact ⟨_, List.getElem?_eq_getElem (by omega)⟩
              have HOs := Lib.hid ((((ho10.stored (n1 * 3) (.string (yl ++ l))).1.stored (n1 * 3 + 1) (.bool yf)).1.stored (n1 * 3 + 2) (.bool yt)).1)
              have hb10 := HKz.out.trans (HK10.mono hwrz)
              clear ho10 hplen HOz
              go_wp2_with fail
              go_roundw
              case rel =>
                have hlen : (nmL (L.take (k + 1))).length = n1 + 1 := by rw [HM.out, List.length_set, HMl.out]
                refine ⟨k + 1, by omega, by go_num, Lib.hid ?_, ?_⟩
                · rw [hlen, HM.out, ← pcells_set ⟨yl ++ l, yf, yt⟩ (List.getElem?_eq_some_iff.1 HY?.out).1]
                  exact HOs.out
                · have hwg : w.heap.size ≤ g6 := (HO.out.lt g6 rfl).1
                  have hfin := ((hb10.setCell (p := ⟨g6, n1 * 3, none⟩) hwg (.string (yl ++ l))).setCell (p := ⟨g6, n1 * 3 + 1, none⟩) hwg (.bool yf)).setCell (p := ⟨g6, n1 * 3 + 2, none⟩) hwg (.bool yt)
                  first | exact hfin | exact hfin.drew
              case measure => (simp [intOf] <;> omega)
          · have HM : Hid (nmL (L.take (k + 1)) = M ++ [⟨l, f, b⟩]) := Lib.hid (HMg.out.trans (stp_add HMl.out HY?.out HL0.out hag))
            have hcase : (yf == f) = false ∨ ((yf == f) = true ∧ (yt == b) = false) := by
              cases yf <;> cases f <;> cases yt <;> cases b <;> simp at hag ⊢
            clear hag
            rcases hcase with hq1 | ⟨hq1, hq2⟩
            all_goals
              go_wp2_with fail
              go_quiet (fail)
              generalize hwz : w5.drewN _ = wz
              have hkz : Kp w5 wz := by rw [← hwz]; exact below_drewN' (Kp.refl' _) _
              have HOz := own_kept HO5.out hkz
              have hbz := hb5.trans (Below.mono hkz hb5.size)
              have q0 := (hkz.cell (p := ⟨wr.heap.size, 0, none⟩) p5).trans p0
              have q1 := (hkz.cell (p := ⟨wr.heap.size, 1, none⟩) p5).trans p1
              have q2 := (hkz.cell (p := ⟨wr.heap.size, 2, none⟩) p5).trans p2
              have hszz := Below.size hbz
              clear hwz p0 p1 p2 d0 d1 d2
              go_wp2_with (first
                | (at_builtin; refine wpList_append_own _ rfl _ _ 36 rfl w.heap.size 70 i0 (.agg #[.string ByteArray.empty, .bool false, .bool false]) 3 24 Try.underlying36 hi hz0 hz1 hz2 rfl (by decide) _ _ _ rfl (HOz.alloc _) ⟨wz.heap.size, 0, none⟩ 1 1 [.string l, .bool f, .bool b] rfl rfl (cell_three_new _ _ _ _ _) (by simp [Value.oneCell']) (by unfold maxLen; omega) (by omega) (by simp; omega) ?_; intro v' w9 hown' hgrow _))
              go_roundw
              case rel =>
                have hlen : (nmL (L.take (k + 1))).length = n1 + 1 + 1 := by rw [HM.out, List.length_append, HMl.out]; rfl
                refine ⟨k + 1, by omega, by go_num, Lib.hid ?_, ?_⟩
                · rw [hlen, HM.out, pcells_app]
                  exact hown'
                · exact (hbz.alloc hbz.size _).grown hgrow (by have := hbz.size; simp; omega) (fun g hg => (HOz.lt g hg).1)
              case measure => (simp [intOf] <;> omega)
    · obtain rfl : k = N := by omega
      have HE : Hid (nmL (L.take k) = nmL L) := Lib.hid (by rw [List.take_of_length_le (by rw [HN.out]; exact Nat.le_refl _)])
      go_wp2_with fail
      go_ret
      exact ⟨_, rfl, by rw [← HE.out]; exact HO.out, hb⟩
end Go.Proofs.Ytljbbmefemfjpaa.SpNs
