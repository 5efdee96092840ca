/-
  Contract of l9Simple of the model.
-/
import Derived.Test.YtldfdfdleaemaaaDoorNdSd
import Derived.BigQuiet
namespace Go.Proofs.YtldfdfdleaemaaaDoor.Nd
open Go.RowKit NdPl Ns
set_option linter.unusedSimpArgs false
set_option linter.unusedVariables false

set_option maxRecDepth 100000 in
set_option maxHeartbeats 8000000 in
theorem sSm_step (d : Nat) (ih : ∀ d', d = d' + 1 → SSm d') : SSm d := by
  intro x B c k w hr hz hok
  obtain ⟨i0, hi, hz0, hz1, hz2⟩ := info_parts infoNd
  have hzs := szT_eq x
  obtain ⟨ff, hff⟩ : ∃ ff, ff = smF := ⟨_, rfl⟩
  have HFf := Lib.hid hff
  have HI := Lib.hid (fun d' hd y C cc w1 h1 h2 k' h3 => ih d' hd y C cc k' w1 h1 h2 h3)
  have HEq := Lib.hid (chT_eq ff x)
  have HOk : Hid (shB x.op x.wd x.tx x.af x.ps.length = true ∧ ∃ k', x.ps.all (okT k') = true) := Lib.hid (by
    obtain ⟨k', h1, h2, -⟩ := okT_op hok
    exact ⟨h1, k', h2⟩)
  rw [← hff] at HI ⊢
  obtain ⟨op, wd, tx, af, ps⟩ := x
  simp only [op_mk, wd_mk, tx_mk, af_mk, ps_mk] at *
  have HR := Lib.hid hr
  have HZs : Hid (szS ps ≤ 1048576) := Lib.hid (by omega)
  have hm : ps.length ≤ 1048576 := by omega
  obtain ⟨n, hn⟩ : ∃ n, n = ps.length := ⟨_, rfl⟩
  have HN := Lib.hid hn
  rw [← hn] at hm ⊢
  obtain ⟨W, hW⟩ : ∃ W, W = w.heap.size := ⟨_, rfl⟩
  have HW := Lib.hid hW
  have HWo := Lib.hid (three_world w #[.int .i64 op, .string wd, .string tx, .string af, .slice B n c] #[.int .i64 0, .string ⟨#[]⟩, .string ⟨#[]⟩, .string ⟨#[]⟩, .slice none 0 0] #[.int .i64 op, .string wd, .string tx, .string af, .slice none 0 0] 30 30 30)
  rw [← hW] at HWo
  obtain ⟨hB, hX, hY, hO, hS⟩ := HWo.out
  have HB := Lib.hid (show Below w.heap.size w _ from by rw [← hW]; exact hB)
  have HX := Lib.hid hX
  have HY := Lib.hid hY
  have HO := Lib.hid hO
  have HS3 := Lib.hid hS
  clear hr hz hzs hn ih hff hB hX hY hO hS HWo hok
  go_enter Tryd.func28, Tryd.ntmps28
  go_wp2_with fail
  generalize ((w.alloc _).alloc _).alloc _ = w0 at HB HX HY HO HS3 ⊢
  go_loopw [4] (fun i wr => ∃ (j : Nat) (vA : Option Addr) (vc : Nat), j ≤ n ∧ i = .int .i64 j ∧ Hid (∃ E, GrL d wr (W + 3) (.slice vA j vc) j (chS ff (ps.take j)) E) ∧ Hid (Bw wr W [.int .i64 op, .string wd, .string tx, .string af, .slice B n c]) ∧ Hid (Bw wr (W + 1) [.int .i64 0, .string ⟨#[]⟩, .string ⟨#[]⟩, .string ⟨#[]⟩, .slice none 0 0]) ∧ Hid (Bw wr (W + 2) [.int .i64 op, .string wd, .string tx, .string af, .slice vA j vc]) ∧ Hid (Below w.heap.size w wr) ∧ Hid (W + 3 ≤ wr.heap.size)) (fun i _ => n - (intOf i).toNat)
  case atStart => exact ⟨0, none, 0, Nat.zero_le _, rfl, Lib.hid ⟨[], by simpa [chS] using GrL.nil d _ (W + 3)⟩, HX, HY, HO, HB, HS3⟩
  case round =>
    obtain ⟨j, vA, vc, hj, rfl, HG, HX1, HY1, HO1, HB1, HS1⟩ := hrel
    have hWs := HW.out
    subst hWs
    obtain ⟨E, hG⟩ := HG.out
    have x4 := HX1.out.1.2 4 _ rfl
    by_cases hlt : j < n
    · have hjx : j < ps.length := by rw [← HN.out]; exact hlt
      have hx? := List.getElem?_eq_getElem hjx
      obtain ⟨d', g, o, C, cc, hd, rfl, hg, e0, e1, e2, e3, e4, hr⟩ := (HR.out.below HB1.out).get hx?
      obtain ⟨k', hk'⟩ := HOk.out.2
      have hoky := List.all_eq_true.1 hk' _ (List.getElem_mem hjx)
      clear hk'
      have hzx := szS_mem hx?
      have hzm := HZs.out
      have HTk := Lib.hid (chS_take ff hx?)
      have hgm := HB1.out.size
      clear hx?
      generalize ps[j] = y at *
      have HYc := Lib.hid (HI.out d' hd y C cc wr.drew (hr.below (Below.refl _ _).drew) (by omega) k' hoky)
      rw [← hd] at HYc
      obtain ⟨z, hz⟩ : ∃ z, z = chT ff y := ⟨_, rfl⟩
      rw [← hz] at HYc HTk
      clear hr hzx hzm hd hz hoky
      obtain ⟨yo, yw, yt, ya, yp⟩ := y
      simp only [op_mk, wd_mk, tx_mk, af_mk, ps_mk] at HYc e0 e1 e2 e3 e4
      generalize yp.length = yn at *
      have o4 := HO1.out.1.2 4 _ rfl
      have hS1 := HS1.out
      have hown := hG.1
      have HGj := Lib.hid hG
      have hbig := Lib.hid (fun b (hv : (Value.slice vA j vc).ownBlock = some b) => hG.big hv)
      have hx4d : wr.drew.cell? ⟨w.heap.size, 4, none⟩ = _ := x4
      have ho4d : wr.drew.cell? ⟨w.heap.size + 2, 4, none⟩ = some (.slice vA j vc) := o4
      have e0d : wr.drew.cell? ⟨g, o + j * 5, none⟩ = _ := e0
      have e1d : wr.drew.cell? ⟨g, o + j * 5 + 1, none⟩ = _ := e1
      have e2d : wr.drew.cell? ⟨g, o + j * 5 + 2, none⟩ = _ := e2
      have e3d : wr.drew.cell? ⟨g, o + j * 5 + 3, none⟩ = _ := e3
      have e4d : wr.drew.cell? ⟨g, o + j * 5 + 4, none⟩ = _ := e4
      clear hG HG
      go_wp2_with fail
      go_region_law (first
        | (refine Rr.step_append_own rfl (.tmp 22) (.tmp 29) 28 rfl (w.heap.size + 3) 30 i0 (.agg #[.int .i64 0, .string ByteArray.empty, .string ByteArray.empty, .string ByteArray.empty, .slice none 0 0]) 5 80 Tryd.underlying28 hi hz0 hz1 hz2 rfl (by decide) (.slice vA j vc) j (ecells E) rfl (hown2.alloc _) ⟨w2.heap.size, 0, none⟩ 1 1 [.int .i64 zo, .string zw, .string zt, .string za, .slice A2 zn c2] rfl rfl (five_new _ _ _ _ _ _ _) (by simp [Value.oneCell']) (by unfold maxLen; omega) (by omega) (by simp; omega) ?_; intro v' w9 hown' hgrow hat; obtain ⟨vA', vc', rfl⟩ := own_form hown'; have HO9 := Lib.hid ((HO2.out.below (al _ (.cells #[.int .i64 zo, .string zw, .string zt, .string za, .slice A2 zn c2] 30))).grown hgrow (fun e => by have := (hbig.out _ e.symm).1; omega)); have p4 := HO9.out.1.2 4 _ rfl; have pf4 := HO9.out.2 4; have ps9 := HO9.out.1.1)
        | (go_simp; go_at_call 28; refine HYc.out.mono ?_; rintro e w2 ⟨A2, c2, F2, rfl, q2, n2, f2, b2⟩; have hb2 : Below wr.heap.size wr w2 := (Below.refl wr.heap.size wr).drew.trans b2; have HX2 := Lib.hid (HX1.out.below hb2); have HY2 := Lib.hid (HY1.out.below hb2); have HO2 := Lib.hid (HO1.out.below hb2); have x42 := HX2.out.1.2 4 _ rfl; have o42 := HO2.out.1.2 4 _ rfl; have o42a : ∀ ob, (w2.alloc ob).cell? ⟨w.heap.size + 2, 4, none⟩ = some (.slice vA j vc) := fun ob => (HO2.out.below (al _ ob)).1.2 4 _ rfl; have hown2 := own_kept hown hb2; have hS2 := Nat.le_trans hS1 hb2.size; have HSn := Lib.hid (fun (x : Tr) (hx : x = z) v' (w9 : World) ob hown' hgrow hat => HGj.out.snoc (x := x) (A := A2) (c := c2) (F := F2) (o := ob) (v' := v') (w9 := w9) hb2 hS1 (by rw [hx]; exact q2) n2 f2 hown' hgrow hat); obtain ⟨zo, zw, zt, za, zp⟩ := z; simp only [op_mk, wd_mk, tx_mk, af_mk, ps_mk] at *; obtain ⟨zn, hzn⟩ : ∃ n, n = zp.length := ⟨_, rfl⟩; have HZn := Lib.hid hzn; rw [← hzn]; have HB2 := Lib.hid (HB1.out.trans (hb2.mono HB1.out.size)); clear b2 q2 n2 f2 hzn))
      all_goals
        have hG9 := HSn.out _ rfl _ _ _ (by rw [HZn.out] at hown'; exact hown') hgrow hat
        rw [← HTk.out] at hG9
        have HG9 := Lib.hid (hG9.off (g := w.heap.size + 2) (o := 4) (by omega) (.slice vA' (j + 1) vc'))
        have hrow : ∀ b, b < w.heap.size + 3 → some b ≠ (Value.slice vA j vc).ownBlock := fun b hb e => by have := (hbig.out b e.symm).1; omega
        have HX9 := Lib.hid (((HX2.out.below (al _ (.cells #[.int .i64 zo, .string zw, .string zt, .string za, .slice A2 zn c2] 30))).grown hgrow (hrow _ (by omega))).off (g := w.heap.size + 2) (o := 4) (.slice vA' (j + 1) vc') (by omega))
        have HY9 := Lib.hid (((HY2.out.below (al _ (.cells #[.int .i64 zo, .string zw, .string zt, .string za, .slice A2 zn c2] 30))).grown hgrow (hrow _ (by omega))).off (g := w.heap.size + 2) (o := 4) (.slice vA' (j + 1) vc') (by omega))
        have HO10 := Lib.hid (HO9.out.set4 (.slice vA' (j + 1) vc'))
        have hB9 := ((HB2.out.alloc HB2.out.size (.cells #[.int .i64 zo, .string zw, .string zt, .string za, .slice A2 zn c2] 30)).grown hgrow (by have := HB2.out.size; simp; omega) (fun b hv => by have := (hbig.out b hv).1; omega)).setCell (p := ⟨w.heap.size + 2, 4, none⟩) (by simp) (.slice vA' (j + 1) vc')
        have HB9 := Lib.hid hB9
        have HS9 : Hid (w.heap.size + 3 ≤ (w9.setCell ⟨w.heap.size + 2, 4, none⟩ (.slice vA' (j + 1) vc')).heap.size) := Lib.hid (by
          have h1 := hgrow.size
          simp at h1 ⊢
          omega)
        clear hown' hgrow hat hG9 hB9 HX2 HY2 HO2 HO9 HSn HGj HB2 x42 o42 o42a hown2 p4 pf4 ps9 hx4d ho4d e0d e1d e2d e3d e4d e0 e1 e2 e3 e4 o4 hown hb2
        go_wp2_with fail
        go_roundw
        case rel => exact ⟨j + 1, vA', vc', by omega, by go_num, Lib.hid ⟨_, HG9.out⟩, HX9, HY9, HO10, HB9, HS9⟩
        case measure => simp [intOf]; omega
    · obtain rfl : j = n := by omega
      have htk : ps.take j = ps := List.take_of_length_le (by rw [← HN.out]; omega)
      rw [htk] at hG
      have hlen : (chS ff ps).length = ps.length := chS_len ff ps
      have hsh := HOk.out.1
      rw [← HN.out] at hsh
      have hokL : ∃ k', (chS ff ps).all (okT k') = true := by
        obtain ⟨k', hk'⟩ := HOk.out.2
        refine ⟨k', ?_⟩
        rw [HFf.out, chS_map]
        refine List.all_eq_true.2 (fun y hy => ?_)
        obtain ⟨z, hz, rfl⟩ := List.mem_map.1 hy
        exact chsm_ok k' z (List.all_eq_true.1 hk' z hz)
      have hzL : szS (chS ff ps) ≤ 1048576 := by
        have h1 := chsm_size ps
        have h2 := HZs.out
        rw [HFf.out]
        omega
      obtain ⟨LL, hLL⟩ : ∃ LL, LL = chS ff ps := ⟨_, rfl⟩
      rw [← hLL] at hG hlen hokL hzL HEq
      obtain ⟨F5, ho5, hn5, hB5⟩ := hG.own
      have HO5 := Lib.hid ho5
      have HN5 := Lib.hid hn5
      have HF5 := Lib.hid hB5
      have HokL := Lib.hid hokL
      have HzL := Lib.hid hzL
      have Hln : Hid (LL.length = j) := Lib.hid (by rw [hlen, ← HN.out])
      have x0 := HX1.out.1.2 0 _ rfl
      have x2 := HX1.out.1.2 2 _ rfl
      have x3 := HX1.out.1.2 3 _ rfl
      have o0 := HO1.out.1.2 0 _ rfl
      have o1 := HO1.out.1.2 1 _ rfl
      have o2 := HO1.out.1.2 2 _ rfl
      have o3 := HO1.out.1.2 3 _ rfl
      have o4 := HO1.out.1.2 4 _ rfl
      have y0 := HY1.out.1.2 0 _ rfl
      have y1 := HY1.out.1.2 1 _ rfl
      have y2 := HY1.out.1.2 2 _ rfl
      have y3 := HY1.out.1.2 3 _ rfl
      have y4 := HY1.out.1.2 4 _ rfl
      have q0 := HY1.out.2 0
      have q1 := HY1.out.2 1
      have q2 := HY1.out.2 2
      have q3 := HY1.out.2 3
      have q4 := HY1.out.2 4
      have hsy := HY1.out.1.1
      have HS : Hid (ff = smF) := HFf
      clear hG ho5 hn5 hB5 htk hlen HG hokL hzL hLL hlt HI HOk HN HR HZs HFf E hj
      rcases sh_ops hsh with rfl | rfl | rfl | rfl | rfl | rfl | rfl | rfl | rfl
      · have HFq : Hid (ff (.mk 1 wd tx af LL) = .mk 1 wd tx af LL) := Lib.hid (by rw [HS.out]; exact if_neg (by rw [show adB (.mk 1 wd tx af LL) = false from rfl]; simp))
        clear hsh
        clear HS HokL HzL
        go_wp2_with fail
        go_quiet (fail)
        go_wp2_with fail
        go_quiet (fail)
        go_wp2_with fail
        refine bodyPost_ret (v := ndV 1 wd tx af vA j vc) (by simp [results, Tryd.results28, go_sem, *]) rfl ?_
        rw [HEq.out, HFq.out]
        refine ⟨vA, vc, F5, by rw [← Hln.out]; rfl, ?_, HN5.out, fun b hb => by have := HF5.out b hb; omega, ?_⟩
        · have O2 := HO5.out
          have hF2 := HF5.out
          iterate 5 (refine own_off ?_ hF2 (by simp) _)
          exact O2.below ⟨rfl, rfl, rfl, Nat.le_refl _, fun _ _ => rfl⟩
        · have B2 := HB1.out
          iterate 5 (refine Below.setCell ?_ (by simp) _)
          exact B2.trans ⟨rfl, rfl, rfl, Nat.le_refl _, fun _ _ => rfl⟩
      · have HFq : Hid (ff (.mk 2 wd tx af LL) = .mk 2 wd tx af LL) := Lib.hid (by rw [HS.out]; exact if_neg (by rw [show adB (.mk 2 wd tx af LL) = false from rfl]; simp))
        clear hsh
        clear HS HokL HzL
        go_wp2_with fail
        go_quiet (fail)
        go_wp2_with fail
        go_quiet (fail)
        go_wp2_with fail
        refine bodyPost_ret (v := ndV 2 wd tx af vA j vc) (by simp [results, Tryd.results28, go_sem, *]) rfl ?_
        rw [HEq.out, HFq.out]
        refine ⟨vA, vc, F5, by rw [← Hln.out]; rfl, ?_, HN5.out, fun b hb => by have := HF5.out b hb; omega, ?_⟩
        · have O2 := HO5.out
          have hF2 := HF5.out
          iterate 5 (refine own_off ?_ hF2 (by simp) _)
          exact O2.below ⟨rfl, rfl, rfl, Nat.le_refl _, fun _ _ => rfl⟩
        · have B2 := HB1.out
          iterate 5 (refine Below.setCell ?_ (by simp) _)
          exact B2.trans ⟨rfl, rfl, rfl, Nat.le_refl _, fun _ _ => rfl⟩
      · have HFq : Hid (ff (.mk 3 wd tx af LL) = .mk 3 wd tx af LL) := Lib.hid (by rw [HS.out]; exact if_neg (by rw [show adB (.mk 3 wd tx af LL) = false from rfl]; simp))
        clear hsh
        clear HS HokL HzL
        go_wp2_with fail
        go_quiet (fail)
        go_wp2_with fail
        go_quiet (fail)
        go_wp2_with fail
        refine bodyPost_ret (v := ndV 3 wd tx af vA j vc) (by simp [results, Tryd.results28, go_sem, *]) rfl ?_
        rw [HEq.out, HFq.out]
        refine ⟨vA, vc, F5, by rw [← Hln.out]; rfl, ?_, HN5.out, fun b hb => by have := HF5.out b hb; omega, ?_⟩
        · have O2 := HO5.out
          have hF2 := HF5.out
          iterate 5 (refine own_off ?_ hF2 (by simp) _)
          exact O2.below ⟨rfl, rfl, rfl, Nat.le_refl _, fun _ _ => rfl⟩
        · have B2 := HB1.out
          iterate 5 (refine Below.setCell ?_ (by simp) _)
          exact B2.trans ⟨rfl, rfl, rfl, Nat.le_refl _, fun _ _ => rfl⟩
      · have hj2 : j = 2 := by simp [shB] at hsh; omega
        subst hj2
        clear hsh
        have hx? : LL[0]? = some (LL.getD 0 default) := by rw [List.getD_eq_getElem?_getD, List.getElem?_eq_getElem (by have := Hln.out; omega)]; rfl
        have hy? : LL[1]? = some (LL.getD 1 default) := by rw [List.getD_eq_getElem?_getD, List.getElem?_eq_getElem (by have := Hln.out; omega)]; rfl
        obtain ⟨g, C, cc, f, rfl, hg, c0, c1, c2, c3, c4, hof, hnf, hmf⟩ := OwL.part (d := d) HO5.out HN5.out hx?
        obtain ⟨g', C', cc', f', hgg, hg', e0, e1, e2, e3, e4, hof', -, -⟩ := OwL.part (d := d) HO5.out HN5.out hy?
        cases hgg
        simp only [Nat.zero_mul, Nat.zero_add, Nat.one_mul, Nat.reduceAdd] at c0 c1 c2 c3 c4 e0 e1 e2 e3 e4
        have hz1 := szS_mem hx?
        have hz2 := szS_mem hy?
        have hzL := HzL.out
        obtain ⟨kq, hkq⟩ := HokL.out
        have hka := List.all_eq_true.1 hkq _ (List.mem_of_getElem? hx?)
        have hkb := List.all_eq_true.1 hkq _ (List.mem_of_getElem? hy?)
        have HE := Lib.hid (t_beq hka hkb)
        have HA : Hid (adB (.mk 4 wd tx af LL) = eqB (LL.getD 0 default) (LL.getD 1 default)) := Lib.hid rfl
        have HFp : Hid (eqB (LL.getD 0 default) (LL.getD 1 default) = true → ff (.mk 4 wd tx af LL) = LL.getD 0 default) := Lib.hid (fun h => by rw [HS.out]; exact if_pos (HA.out.trans h))
        have HFs : Hid (eqB (LL.getD 0 default) (LL.getD 1 default) = false → ff (.mk 4 wd tx af LL) = .mk 4 wd tx af LL) := Lib.hid (fun h => by rw [HS.out]; exact if_neg (by rw [HA.out, h]; simp))
        obtain ⟨z, hz⟩ : ∃ z, z = LL.getD 0 default := ⟨_, rfl⟩
        obtain ⟨v, hv⟩ : ∃ v, v = LL.getD 1 default := ⟨_, rfl⟩
        rw [← hz, ← hv] at HE HFp HFs
        rw [← hz] at c0 c1 c2 c3 c4 hof hz1
        rw [← hv] at e0 e1 e2 e3 e4 hof' hz2
        have HT0 := Lib.hid (fun w1 (h : Below wr.heap.size wr w1) => tx_all (d + 1) z C cc w1 ((hof.below h).rd) (by omega))
        have HT1 := Lib.hid (fun w1 (h : Below wr.heap.size wr w1) => tx_all (d + 1) v C' cc' w1 ((hof'.below h).rd) (by omega))
        have HOf := Lib.hid hof
        have HNf := Lib.hid hnf
        have HMf := Lib.hid hmf
        have HZ := Lib.hid hz
        generalize Pl.ba (tT z) = s0 at HE HT0
        generalize Pl.ba (tT v) = s1 at HE HT1
        generalize eqB z v = eq at HE HFp HFs
        clear hof hnf hmf hx? hy? hz hv hof' hz1 hz2 hzL hkq hka hkb HA HzL HokL HS
        obtain ⟨zo, zw, zt, za, zp⟩ := z
        obtain ⟨vo, vw, vt, va, vp⟩ := v
        simp only [op_mk, wd_mk, tx_mk, af_mk, ps_mk] at c0 c1 c2 c3 c4 e0 e1 e2 e3 e4 HOf HT0 HT1
        obtain ⟨zn, hzn⟩ : ∃ n, n = zp.length := ⟨_, rfl⟩
        have HZn := Lib.hid hzn
        rw [← hzn] at c4 HT0
        generalize vp.length = vn at e4 HT1
        clear hzn
        have HC0 : Hid (∀ w', Below wr.heap.size wr w' → w'.cell? ⟨w.heap.size, 0, none⟩ = some (.int .i64 4) ∧ w'.cell? ⟨w.heap.size + 2, 4, none⟩ = some (.slice (some ⟨g, 0, none⟩) 2 vc) ∧ w'.cell? ⟨g, 0, none⟩ = some (.int .i64 zo) ∧ w'.cell? ⟨g, 1, none⟩ = some (.string zw) ∧ w'.cell? ⟨g, 2, none⟩ = some (.string zt) ∧ w'.cell? ⟨g, 3, none⟩ = some (.string za) ∧ w'.cell? ⟨g, 4, none⟩ = some (.slice C zn cc) ∧ w'.cell? ⟨g, 5, none⟩ = some (.int .i64 vo) ∧ w'.cell? ⟨g, 6, none⟩ = some (.string vw) ∧ w'.cell? ⟨g, 7, none⟩ = some (.string vt) ∧ w'.cell? ⟨g, 8, none⟩ = some (.string va) ∧ w'.cell? ⟨g, 9, none⟩ = some (.slice C' vn cc')) := Lib.hid (fun w' h => by
          have hc : ∀ i, w'.cell? ⟨g, i, none⟩ = wr.cell? ⟨g, i, none⟩ := fun i => h.cell (p := ⟨g, i, none⟩) hg
          exact ⟨(HX1.out.below h).1.2 0 _ rfl, (HO1.out.below h).1.2 4 _ rfl, (hc _).trans c0, (hc _).trans c1, (hc _).trans c2, (hc _).trans c3, (hc _).trans c4, (hc _).trans e0, (hc _).trans e1, (hc _).trans e2, (hc _).trans e3, (hc _).trans e4⟩)
        clear c0 c1 c2 c3 c4 e0 e1 e2 e3 e4
        go_wp2_with fail
        go_quiet (fail)
        go_wp2_with fail
        clear x0 x2 x3 x4 o0 o1 o2 o3 o4 y0 y1 y2 y3 y4 q0 q1 q2 q3 q4 hsy
        generalize hwq : wr.drewN _ = wq
        have hbq : Below wr.heap.size wr wq := by rw [← hwq]; exact ⟨rfl, rfl, rfl, Nat.le_refl _, fun _ _ => rfl⟩
        have HBq := Lib.hid hbq
        clear hwq hbq
        have HSt : Hid (∀ w', Kp wq w' → ((w'.cell? ⟨w.heap.size, 0, none⟩ = some (.int .i64 4) ∧ w'.cell? ⟨w.heap.size + 2, 4, none⟩ = some (.slice (some ⟨g, 0, none⟩) 2 vc) ∧ w'.cell? ⟨g, 0, none⟩ = some (.int .i64 zo) ∧ w'.cell? ⟨g, 1, none⟩ = some (.string zw) ∧ w'.cell? ⟨g, 2, none⟩ = some (.string zt) ∧ w'.cell? ⟨g, 3, none⟩ = some (.string za) ∧ w'.cell? ⟨g, 4, none⟩ = some (.slice C zn cc) ∧ w'.cell? ⟨g, 5, none⟩ = some (.int .i64 vo) ∧ w'.cell? ⟨g, 6, none⟩ = some (.string vw) ∧ w'.cell? ⟨g, 7, none⟩ = some (.string vt) ∧ w'.cell? ⟨g, 8, none⟩ = some (.string va) ∧ w'.cell? ⟨g, 9, none⟩ = some (.slice C' vn cc')) ∧ Kp wq w')) := Lib.hid (fun w' h => ⟨HC0.out w' (HBq.out.trans (Below.mono h HBq.out.size)), h⟩)
        have HK0 := Lib.hid (Kp.drew wq)
        have HQ0 := Lib.hid (fun w1 (h : Kp wq w1) => HT0.out w1 (HBq.out.trans (Below.mono h HBq.out.size)))
        have HQ1 := Lib.hid (fun w1 (h : Kp wq w1) => HT1.out w1 (HBq.out.trans (Below.mono h HBq.out.size)))
        clear HT0 HT1
        obtain ⟨x0, o4, c0, c1, c2, c3, c4, e0, e1, e2, e3, e4⟩ := (HSt.out _ HK0.out).1
        first
          | go_region_with (first
                | (go_at_call 48; with_reducible refine (HQ0.out _ (by first | exact HK0.out | assumption)).mono ?_; rintro e w1 ⟨rfl, b1⟩; have hkL : Kp wq w1 := Kp.next (by first | exact HK0.out | assumption) b1; obtain ⟨x0, o4, c0, c1, c2, c3, c4, e0, e1, e2, e3, e4⟩ := (HSt.out _ hkL).1)
                | (go_at_call 48; with_reducible refine (HQ1.out _ (by first | exact HK0.out | assumption)).mono ?_; rintro e w1 ⟨rfl, b1⟩; have hkL : Kp wq w1 := Kp.next (by first | exact HK0.out | assumption) b1; obtain ⟨x0, o4, c0, c1, c2, c3, c4, e0, e1, e2, e3, e4⟩ := (HSt.out _ hkL).1))
          | fail
        all_goals
          obtain ⟨x0, o4, c0, c1, c2, c3, c4, e0, e1, e2, e3, e4⟩ := (HSt.out _ hkL).1
          have hb9 := HBq.out.trans (Below.mono hkL HBq.out.size)
          have HB9 := Lib.hid (HB1.out.trans (hb9.mono HB1.out.size))
          have hO9 := HO1.out.below hb9
          have hY9 := HY1.out.below hb9
          have o0 := hO9.1.2 0 _ rfl
          have o1 := hO9.1.2 1 _ rfl
          have o2 := hO9.1.2 2 _ rfl
          have o3 := hO9.1.2 3 _ rfl
          have y0 := hY9.1.2 0 _ rfl
          have y1 := hY9.1.2 1 _ rfl
          have y2 := hY9.1.2 2 _ rfl
          have y3 := hY9.1.2 3 _ rfl
          have y4 := hY9.1.2 4 _ rfl
          have q0 := hY9.2 0
          have q1 := hY9.2 1
          have q2 := hY9.2 2
          have q3 := hY9.2 3
          have q4 := hY9.2 4
          have hsy := hY9.1.1
          have HO9 := Lib.hid (HO5.out.below hb9)
          have HP9 := Lib.hid (HOf.out.below hb9)
          clear hkL hb9 hO9 hY9 HSt HQ0 HQ1 HC0 HO5 HOf
          have HO5 := HO9
          have HOf := HP9
          have hq := HE.out
          cases eq with
          | true =>
            have HFq : Hid (ff (.mk 4 wd tx af LL) = LL.getD 0 default) := Lib.hid (by rw [HZ.out] at *; exact HFp.out rfl)
            clear HE HFp HFs
            rw [hq]
            go_wp2_with fail
            refine bodyPost_ret (v := ndV zo zw zt za C zn cc) (by simp [results, Tryd.results28, go_sem, *]) rfl ?_
            rw [HEq.out, HFq.out, ← HZ.out]
            refine ⟨C, cc, f, by rw [HZn.out]; rfl, ?_, HNf.out, fun b hb => by have := HF5.out b (HMf.out b hb); omega, ?_⟩
            · have O2 := HOf.out
              have hF2 : ∀ b ∈ f, w.heap.size + 3 ≤ b := fun b hb => HF5.out b (HMf.out b hb)
              iterate 5 (refine own_off ?_ hF2 (by simp) _)
              exact O2.below ⟨rfl, rfl, rfl, Nat.le_refl _, fun _ _ => rfl⟩
            · have B2 := HB9.out
              iterate 5 (refine Below.setCell ?_ (by simp) _)
              exact B2.trans ⟨rfl, rfl, rfl, Nat.le_refl _, fun _ _ => rfl⟩
          | false =>
            have HFq : Hid (ff (.mk 4 wd tx af LL) = .mk 4 wd tx af LL) := Lib.hid (HFs.out rfl)
            clear HE HFp HFs
            rw [hq]
            go_wp2_with fail
            refine bodyPost_ret (v := ndV 4 wd tx af (some ⟨g, 0, none⟩) 2 vc) (by simp [results, Tryd.results28, go_sem, *]) rfl ?_
            rw [HEq.out, HFq.out]
            refine ⟨some ⟨g, 0, none⟩, vc, F5, by rw [← Hln.out]; rfl, ?_, HN5.out, fun b hb => by have := HF5.out b hb; omega, ?_⟩
            · have O2 := HO5.out
              have hF2 := HF5.out
              iterate 5 (refine own_off ?_ hF2 (by simp) _)
              exact O2.below ⟨rfl, rfl, rfl, Nat.le_refl _, fun _ _ => rfl⟩
            · have B2 := HB9.out
              iterate 5 (refine Below.setCell ?_ (by simp) _)
              exact B2.trans ⟨rfl, rfl, rfl, Nat.le_refl _, fun _ _ => rfl⟩
      · have hj2 : j = 2 := by simp [shB] at hsh; omega
        subst hj2
        clear hsh
        have hx? : LL[0]? = some (LL.getD 0 default) := by rw [List.getD_eq_getElem?_getD, List.getElem?_eq_getElem (by have := Hln.out; omega)]; rfl
        have hy? : LL[1]? = some (LL.getD 1 default) := by rw [List.getD_eq_getElem?_getD, List.getElem?_eq_getElem (by have := Hln.out; omega)]; rfl
        obtain ⟨g, C, cc, f, rfl, hg, c0, c1, c2, c3, c4, hof, hnf, hmf⟩ := OwL.part (d := d) HO5.out HN5.out hx?
        obtain ⟨g', C', cc', f', hgg, hg', e0, e1, e2, e3, e4, hof', -, -⟩ := OwL.part (d := d) HO5.out HN5.out hy?
        cases hgg
        simp only [Nat.zero_mul, Nat.zero_add, Nat.one_mul, Nat.reduceAdd] at c0 c1 c2 c3 c4 e0 e1 e2 e3 e4
        have hz1 := szS_mem hx?
        have hz2 := szS_mem hy?
        have hzL := HzL.out
        obtain ⟨kq, hkq⟩ := HokL.out
        have hka := List.all_eq_true.1 hkq _ (List.mem_of_getElem? hx?)
        have hkb := List.all_eq_true.1 hkq _ (List.mem_of_getElem? hy?)
        have HE := Lib.hid (t_beq hka hkb)
        have HA : Hid (adB (.mk 5 wd tx af LL) = eqB (LL.getD 0 default) (LL.getD 1 default)) := Lib.hid rfl
        have HFp : Hid (eqB (LL.getD 0 default) (LL.getD 1 default) = true → ff (.mk 5 wd tx af LL) = LL.getD 0 default) := Lib.hid (fun h => by rw [HS.out]; exact if_pos (HA.out.trans h))
        have HFs : Hid (eqB (LL.getD 0 default) (LL.getD 1 default) = false → ff (.mk 5 wd tx af LL) = .mk 5 wd tx af LL) := Lib.hid (fun h => by rw [HS.out]; exact if_neg (by rw [HA.out, h]; simp))
        obtain ⟨z, hz⟩ : ∃ z, z = LL.getD 0 default := ⟨_, rfl⟩
        obtain ⟨v, hv⟩ : ∃ v, v = LL.getD 1 default := ⟨_, rfl⟩
        rw [← hz, ← hv] at HE HFp HFs
        rw [← hz] at c0 c1 c2 c3 c4 hof hz1
        rw [← hv] at e0 e1 e2 e3 e4 hof' hz2
        have HT0 := Lib.hid (fun w1 (h : Below wr.heap.size wr w1) => tx_all (d + 1) z C cc w1 ((hof.below h).rd) (by omega))
        have HT1 := Lib.hid (fun w1 (h : Below wr.heap.size wr w1) => tx_all (d + 1) v C' cc' w1 ((hof'.below h).rd) (by omega))
        have HOf := Lib.hid hof
        have HNf := Lib.hid hnf
        have HMf := Lib.hid hmf
        have HZ := Lib.hid hz
        generalize Pl.ba (tT z) = s0 at HE HT0
        generalize Pl.ba (tT v) = s1 at HE HT1
        generalize eqB z v = eq at HE HFp HFs
        clear hof hnf hmf hx? hy? hz hv hof' hz1 hz2 hzL hkq hka hkb HA HzL HokL HS
        obtain ⟨zo, zw, zt, za, zp⟩ := z
        obtain ⟨vo, vw, vt, va, vp⟩ := v
        simp only [op_mk, wd_mk, tx_mk, af_mk, ps_mk] at c0 c1 c2 c3 c4 e0 e1 e2 e3 e4 HOf HT0 HT1
        obtain ⟨zn, hzn⟩ : ∃ n, n = zp.length := ⟨_, rfl⟩
        have HZn := Lib.hid hzn
        rw [← hzn] at c4 HT0
        generalize vp.length = vn at e4 HT1
        clear hzn
        have HC0 : Hid (∀ w', Below wr.heap.size wr w' → w'.cell? ⟨w.heap.size, 0, none⟩ = some (.int .i64 5) ∧ w'.cell? ⟨w.heap.size + 2, 4, none⟩ = some (.slice (some ⟨g, 0, none⟩) 2 vc) ∧ w'.cell? ⟨g, 0, none⟩ = some (.int .i64 zo) ∧ w'.cell? ⟨g, 1, none⟩ = some (.string zw) ∧ w'.cell? ⟨g, 2, none⟩ = some (.string zt) ∧ w'.cell? ⟨g, 3, none⟩ = some (.string za) ∧ w'.cell? ⟨g, 4, none⟩ = some (.slice C zn cc) ∧ w'.cell? ⟨g, 5, none⟩ = some (.int .i64 vo) ∧ w'.cell? ⟨g, 6, none⟩ = some (.string vw) ∧ w'.cell? ⟨g, 7, none⟩ = some (.string vt) ∧ w'.cell? ⟨g, 8, none⟩ = some (.string va) ∧ w'.cell? ⟨g, 9, none⟩ = some (.slice C' vn cc')) := Lib.hid (fun w' h => by
          have hc : ∀ i, w'.cell? ⟨g, i, none⟩ = wr.cell? ⟨g, i, none⟩ := fun i => h.cell (p := ⟨g, i, none⟩) hg
          exact ⟨(HX1.out.below h).1.2 0 _ rfl, (HO1.out.below h).1.2 4 _ rfl, (hc _).trans c0, (hc _).trans c1, (hc _).trans c2, (hc _).trans c3, (hc _).trans c4, (hc _).trans e0, (hc _).trans e1, (hc _).trans e2, (hc _).trans e3, (hc _).trans e4⟩)
        clear c0 c1 c2 c3 c4 e0 e1 e2 e3 e4
        go_wp2_with fail
        go_quiet (fail)
        go_wp2_with fail
        clear x0 x2 x3 x4 o0 o1 o2 o3 o4 y0 y1 y2 y3 y4 q0 q1 q2 q3 q4 hsy
        generalize hwq : wr.drewN _ = wq
        have hbq : Below wr.heap.size wr wq := by rw [← hwq]; exact ⟨rfl, rfl, rfl, Nat.le_refl _, fun _ _ => rfl⟩
        have HBq := Lib.hid hbq
        clear hwq hbq
        have HSt : Hid (∀ w', Kp wq w' → ((w'.cell? ⟨w.heap.size, 0, none⟩ = some (.int .i64 5) ∧ w'.cell? ⟨w.heap.size + 2, 4, none⟩ = some (.slice (some ⟨g, 0, none⟩) 2 vc) ∧ w'.cell? ⟨g, 0, none⟩ = some (.int .i64 zo) ∧ w'.cell? ⟨g, 1, none⟩ = some (.string zw) ∧ w'.cell? ⟨g, 2, none⟩ = some (.string zt) ∧ w'.cell? ⟨g, 3, none⟩ = some (.string za) ∧ w'.cell? ⟨g, 4, none⟩ = some (.slice C zn cc) ∧ w'.cell? ⟨g, 5, none⟩ = some (.int .i64 vo) ∧ w'.cell? ⟨g, 6, none⟩ = some (.string vw) ∧ w'.cell? ⟨g, 7, none⟩ = some (.string vt) ∧ w'.cell? ⟨g, 8, none⟩ = some (.string va) ∧ w'.cell? ⟨g, 9, none⟩ = some (.slice C' vn cc')) ∧ Kp wq w')) := Lib.hid (fun w' h => ⟨HC0.out w' (HBq.out.trans (Below.mono h HBq.out.size)), h⟩)
        have HK0 := Lib.hid (Kp.drew wq)
        have HQ0 := Lib.hid (fun w1 (h : Kp wq w1) => HT0.out w1 (HBq.out.trans (Below.mono h HBq.out.size)))
        have HQ1 := Lib.hid (fun w1 (h : Kp wq w1) => HT1.out w1 (HBq.out.trans (Below.mono h HBq.out.size)))
        clear HT0 HT1
        obtain ⟨x0, o4, c0, c1, c2, c3, c4, e0, e1, e2, e3, e4⟩ := (HSt.out _ HK0.out).1
        clear x0 o4 c0 c1 c2 c3 c4 e0 e1 e2 e3 e4
        first
          | go_region_held3 (fun w' => (w'.cell? ⟨w.heap.size, 0, none⟩ = some (.int .i64 5) ∧ w'.cell? ⟨w.heap.size + 2, 4, none⟩ = some (.slice (some ⟨g, 0, none⟩) 2 vc) ∧ w'.cell? ⟨g, 0, none⟩ = some (.int .i64 zo) ∧ w'.cell? ⟨g, 1, none⟩ = some (.string zw) ∧ w'.cell? ⟨g, 2, none⟩ = some (.string zt) ∧ w'.cell? ⟨g, 3, none⟩ = some (.string za) ∧ w'.cell? ⟨g, 4, none⟩ = some (.slice C zn cc) ∧ w'.cell? ⟨g, 5, none⟩ = some (.int .i64 vo) ∧ w'.cell? ⟨g, 6, none⟩ = some (.string vw) ∧ w'.cell? ⟨g, 7, none⟩ = some (.string vt) ∧ w'.cell? ⟨g, 8, none⟩ = some (.string va) ∧ w'.cell? ⟨g, 9, none⟩ = some (.slice C' vn cc')) ∧ Kp wq w')
              (first | exact HSt.out _ HK0.out | exact HSt.out _ (by assumption))
              (first
                | (go_at_call 48; with_reducible refine (HQ0.out _ (by first | exact HK0.out | assumption)).mono ?_; rintro e w1 ⟨rfl, b1⟩; have hkL : Kp wq w1 := Kp.next (by first | exact HK0.out | assumption) b1)
                | (go_at_call 48; with_reducible refine (HQ1.out _ (by first | exact HK0.out | assumption)).mono ?_; rintro e w1 ⟨rfl, b1⟩; have hkL : Kp wq w1 := Kp.next (by first | exact HK0.out | assumption) b1))
          | fail
        all_goals
          obtain ⟨x0, o4, c0, c1, c2, c3, c4, e0, e1, e2, e3, e4⟩ := (HSt.out _ hkL).1
          have hb9 := HBq.out.trans (Below.mono hkL HBq.out.size)
          have HB9 := Lib.hid (HB1.out.trans (hb9.mono HB1.out.size))
          have hO9 := HO1.out.below hb9
          have hY9 := HY1.out.below hb9
          have o0 := hO9.1.2 0 _ rfl
          have o1 := hO9.1.2 1 _ rfl
          have o2 := hO9.1.2 2 _ rfl
          have o3 := hO9.1.2 3 _ rfl
          have y0 := hY9.1.2 0 _ rfl
          have y1 := hY9.1.2 1 _ rfl
          have y2 := hY9.1.2 2 _ rfl
          have y3 := hY9.1.2 3 _ rfl
          have y4 := hY9.1.2 4 _ rfl
          have q0 := hY9.2 0
          have q1 := hY9.2 1
          have q2 := hY9.2 2
          have q3 := hY9.2 3
          have q4 := hY9.2 4
          have hsy := hY9.1.1
          have HO9 := Lib.hid (HO5.out.below hb9)
          have HP9 := Lib.hid (HOf.out.below hb9)
          clear hkL hb9 hO9 hY9 HSt HQ0 HQ1 HC0 HO5 HOf
          have HO5 := HO9
          have HOf := HP9
          have hq := HE.out
          cases eq with
          | true =>
            have HFq : Hid (ff (.mk 5 wd tx af LL) = LL.getD 0 default) := Lib.hid (by rw [HZ.out] at *; exact HFp.out rfl)
            clear HE HFp HFs
            rw [hq]
            go_wp2_with fail
            refine bodyPost_ret (v := ndV zo zw zt za C zn cc) (by simp [results, Tryd.results28, go_sem, *]) rfl ?_
            rw [HEq.out, HFq.out, ← HZ.out]
            refine ⟨C, cc, f, by rw [HZn.out]; rfl, ?_, HNf.out, fun b hb => by have := HF5.out b (HMf.out b hb); omega, ?_⟩
            · have O2 := HOf.out
              have hF2 : ∀ b ∈ f, w.heap.size + 3 ≤ b := fun b hb => HF5.out b (HMf.out b hb)
              iterate 5 (refine own_off ?_ hF2 (by simp) _)
              exact O2.below ⟨rfl, rfl, rfl, Nat.le_refl _, fun _ _ => rfl⟩
            · have B2 := HB9.out
              iterate 5 (refine Below.setCell ?_ (by simp) _)
              exact B2.trans ⟨rfl, rfl, rfl, Nat.le_refl _, fun _ _ => rfl⟩
          | false =>
            have HFq : Hid (ff (.mk 5 wd tx af LL) = .mk 5 wd tx af LL) := Lib.hid (HFs.out rfl)
            clear HE HFp HFs
            rw [hq]
            go_wp2_with fail
            refine bodyPost_ret (v := ndV 5 wd tx af (some ⟨g, 0, none⟩) 2 vc) (by simp [results, Tryd.results28, go_sem, *]) rfl ?_
            rw [HEq.out, HFq.out]
            refine ⟨some ⟨g, 0, none⟩, vc, F5, by rw [← Hln.out]; rfl, ?_, HN5.out, fun b hb => by have := HF5.out b hb; omega, ?_⟩
            · have O2 := HO5.out
              have hF2 := HF5.out
              iterate 5 (refine own_off ?_ hF2 (by simp) _)
              exact O2.below ⟨rfl, rfl, rfl, Nat.le_refl _, fun _ _ => rfl⟩
            · have B2 := HB9.out
              iterate 5 (refine Below.setCell ?_ (by simp) _)
              exact B2.trans ⟨rfl, rfl, rfl, Nat.le_refl _, fun _ _ => rfl⟩
      · have hq6 : adB (.mk 6 wd tx af LL) = ((j : Int) == 1) := by rw [← Hln.out]; rfl
        clear hsh
        by_cases hj1 : j = 1
        · subst hj1
          have HFq : Hid (ff (.mk 6 wd tx af LL) = LL.getD 0 default) := Lib.hid (by rw [HS.out]; exact if_pos (show adB (.mk 6 wd tx af LL) = true from by rw [hq6]; rfl))
          clear hq6
          have hx? : LL[0]? = some (LL.getD 0 default) := by rw [List.getD_eq_getElem?_getD, List.getElem?_eq_getElem (by have := Hln.out; omega)]; rfl
          obtain ⟨g, C, cc, f, rfl, hg, c0, c1, c2, c3, c4, hof, hnf, hmf⟩ := OwL.part (d := d) HO5.out HN5.out hx?
          simp only [Nat.zero_mul, Nat.zero_add] at c0 c1 c2 c3 c4
          obtain ⟨z, hz⟩ : ∃ z, z = LL.getD 0 default := ⟨_, rfl⟩
          rw [← hz] at c0 c1 c2 c3 c4 hof
          have HOf := Lib.hid hof
          have HNf := Lib.hid hnf
          have HMf := Lib.hid hmf
          have HZ := Lib.hid hz
          clear hof hnf hmf hx? hz
          obtain ⟨zo, zw, zt, za, zp⟩ := z
          simp only [op_mk, wd_mk, tx_mk, af_mk, ps_mk] at c0 c1 c2 c3 c4 HOf
          obtain ⟨zn, hzn⟩ : ∃ n, n = zp.length := ⟨_, rfl⟩
          have HZn := Lib.hid hzn
          rw [← hzn] at c4
          clear hzn
          clear HS HokL HzL
          go_wp2_with fail
          refine bodyPost_ret (v := ndV zo zw zt za C zn cc) (by simp [results, Tryd.results28, go_sem, *]) rfl ?_
          rw [HEq.out, HFq.out, ← HZ.out]
          refine ⟨C, cc, f, by rw [HZn.out]; rfl, ?_, HNf.out, fun b hb => by have := HF5.out b (HMf.out b hb); omega, ?_⟩
          · have O2 := HOf.out
            have hF2 : ∀ b ∈ f, w.heap.size + 3 ≤ b := fun b hb => HF5.out b (HMf.out b hb)
            iterate 5 (refine own_off ?_ hF2 (by simp) _)
            exact O2.below ⟨rfl, rfl, rfl, Nat.le_refl _, fun _ _ => rfl⟩
          · have B2 := HB1.out
            iterate 5 (refine Below.setCell ?_ (by simp) _)
            exact B2.trans ⟨rfl, rfl, rfl, Nat.le_refl _, fun _ _ => rfl⟩
        · have hq : ((j : Int) == 1) = false := by rw [beq_eq_false_iff_ne]; omega
          rw [hq] at hq6
          have HFq : Hid (ff (.mk 6 wd tx af LL) = .mk 6 wd tx af LL) := Lib.hid (by rw [HS.out]; exact if_neg (by rw [show adB (.mk 6 wd tx af LL) = false from hq6]; simp))
          clear hq6 hj1
          clear HS HokL HzL
          go_wp2_with fail
          go_quiet (fail)
          go_wp2_with fail
          go_quiet (fail)
          go_wp2_with fail
          refine bodyPost_ret (v := ndV 6 wd tx af vA j vc) (by simp [results, Tryd.results28, go_sem, *]) rfl ?_
          rw [HEq.out, HFq.out]
          refine ⟨vA, vc, F5, by rw [← Hln.out]; rfl, ?_, HN5.out, fun b hb => by have := HF5.out b hb; omega, ?_⟩
          · have O2 := HO5.out
            have hF2 := HF5.out
            iterate 5 (refine own_off ?_ hF2 (by simp) _)
            exact O2.below ⟨rfl, rfl, rfl, Nat.le_refl _, fun _ _ => rfl⟩
          · have B2 := HB1.out
            iterate 5 (refine Below.setCell ?_ (by simp) _)
            exact B2.trans ⟨rfl, rfl, rfl, Nat.le_refl _, fun _ _ => rfl⟩
      · have hj1 : j = 1 := by simp [shB] at hsh; omega
        subst hj1
        clear hsh
        have hq7 : adB (.mk 7 wd tx af LL) = (em tx && em af) := rfl
        obtain ⟨t1, t2⟩ := em_forms tx
        obtain ⟨a1, a2⟩ := em_forms af
        cases he : em tx with
        | false =>
          rw [he] at t1 t2 hq7
          have HFq : Hid (ff (.mk 7 wd tx af LL) = .mk 7 wd tx af LL) := Lib.hid (by rw [HS.out]; exact if_neg (by rw [show adB (.mk 7 wd tx af LL) = false from hq7]; simp))
          clear hq7 he
          clear HS HokL HzL
          go_wp2_with fail
          go_quiet (fail)
          go_wp2_with fail
          go_quiet (fail)
          go_wp2_with fail
          refine bodyPost_ret (v := ndV 7 wd tx af vA 1 vc) (by simp [results, Tryd.results28, go_sem, *]) rfl ?_
          rw [HEq.out, HFq.out]
          refine ⟨vA, vc, F5, by rw [← Hln.out]; rfl, ?_, HN5.out, fun b hb => by have := HF5.out b hb; omega, ?_⟩
          · have O2 := HO5.out
            have hF2 := HF5.out
            iterate 5 (refine own_off ?_ hF2 (by simp) _)
            exact O2.below ⟨rfl, rfl, rfl, Nat.le_refl _, fun _ _ => rfl⟩
          · have B2 := HB1.out
            iterate 5 (refine Below.setCell ?_ (by simp) _)
            exact B2.trans ⟨rfl, rfl, rfl, Nat.le_refl _, fun _ _ => rfl⟩
        | true =>
          rw [he] at t1 t2 hq7
          cases ha : em af with
          | false =>
            rw [ha] at a1 a2 hq7
            have HFq : Hid (ff (.mk 7 wd tx af LL) = .mk 7 wd tx af LL) := Lib.hid (by rw [HS.out]; exact if_neg (by rw [show adB (.mk 7 wd tx af LL) = false from hq7]; simp))
            clear hq7 he ha
            clear HS HokL HzL
            go_wp2_with fail
            go_quiet (fail)
            go_wp2_with fail
            go_quiet (fail)
            go_wp2_with fail
            refine bodyPost_ret (v := ndV 7 wd tx af vA 1 vc) (by simp [results, Tryd.results28, go_sem, *]) rfl ?_
            rw [HEq.out, HFq.out]
            refine ⟨vA, vc, F5, by rw [← Hln.out]; rfl, ?_, HN5.out, fun b hb => by have := HF5.out b hb; omega, ?_⟩
            · have O2 := HO5.out
              have hF2 := HF5.out
              iterate 5 (refine own_off ?_ hF2 (by simp) _)
              exact O2.below ⟨rfl, rfl, rfl, Nat.le_refl _, fun _ _ => rfl⟩
            · have B2 := HB1.out
              iterate 5 (refine Below.setCell ?_ (by simp) _)
              exact B2.trans ⟨rfl, rfl, rfl, Nat.le_refl _, fun _ _ => rfl⟩
          | true =>
            rw [ha] at a1 a2 hq7
            have HFq : Hid (ff (.mk 7 wd tx af LL) = LL.getD 0 default) := Lib.hid (by rw [HS.out]; exact if_pos (show adB (.mk 7 wd tx af LL) = true from hq7))
            clear hq7 he ha
            have hx? : LL[0]? = some (LL.getD 0 default) := by rw [List.getD_eq_getElem?_getD, List.getElem?_eq_getElem (by have := Hln.out; omega)]; rfl
            obtain ⟨g, C, cc, f, rfl, hg, c0, c1, c2, c3, c4, hof, hnf, hmf⟩ := OwL.part (d := d) HO5.out HN5.out hx?
            simp only [Nat.zero_mul, Nat.zero_add] at c0 c1 c2 c3 c4
            obtain ⟨z, hz⟩ : ∃ z, z = LL.getD 0 default := ⟨_, rfl⟩
            rw [← hz] at c0 c1 c2 c3 c4 hof
            have HOf := Lib.hid hof
            have HNf := Lib.hid hnf
            have HMf := Lib.hid hmf
            have HZ := Lib.hid hz
            clear hof hnf hmf hx? hz
            obtain ⟨zo, zw, zt, za, zp⟩ := z
            simp only [op_mk, wd_mk, tx_mk, af_mk, ps_mk] at c0 c1 c2 c3 c4 HOf
            obtain ⟨zn, hzn⟩ : ∃ n, n = zp.length := ⟨_, rfl⟩
            have HZn := Lib.hid hzn
            rw [← hzn] at c4
            clear hzn
            clear HS HokL HzL
            go_wp2_with fail
            refine bodyPost_ret (v := ndV zo zw zt za C zn cc) (by simp [results, Tryd.results28, go_sem, *]) rfl ?_
            rw [HEq.out, HFq.out, ← HZ.out]
            refine ⟨C, cc, f, by rw [HZn.out]; rfl, ?_, HNf.out, fun b hb => by have := HF5.out b (HMf.out b hb); omega, ?_⟩
            · have O2 := HOf.out
              have hF2 : ∀ b ∈ f, w.heap.size + 3 ≤ b := fun b hb => HF5.out b (HMf.out b hb)
              iterate 5 (refine own_off ?_ hF2 (by simp) _)
              exact O2.below ⟨rfl, rfl, rfl, Nat.le_refl _, fun _ _ => rfl⟩
            · have B2 := HB1.out
              iterate 5 (refine Below.setCell ?_ (by simp) _)
              exact B2.trans ⟨rfl, rfl, rfl, Nat.le_refl _, fun _ _ => rfl⟩
      · have hj1 : j = 1 := by simp [shB] at hsh; omega
        subst hj1
        clear hsh
        have hq8 : adB (.mk 8 wd tx af LL) = ((LL.getD 0 default).op == 8) := rfl
        have hx? : LL[0]? = some (LL.getD 0 default) := by rw [List.getD_eq_getElem?_getD, List.getElem?_eq_getElem (by have := Hln.out; omega)]; rfl
        obtain ⟨g, C, cc, f, rfl, hg, c0, c1, c2, c3, c4, hof, hnf, hmf⟩ := OwL.part (d := d) HO5.out HN5.out hx?
        simp only [Nat.zero_mul, Nat.zero_add] at c0 c1 c2 c3 c4
        obtain ⟨z, hz⟩ : ∃ z, z = LL.getD 0 default := ⟨_, rfl⟩
        rw [← hz] at c0 c1 c2 c3 c4 hof
        have HOf := Lib.hid hof
        have HNf := Lib.hid hnf
        have HMf := Lib.hid hmf
        have HZ := Lib.hid hz
        clear hof hnf hmf hx? hz
        obtain ⟨zo, zw, zt, za, zp⟩ := z
        simp only [op_mk, wd_mk, tx_mk, af_mk, ps_mk] at c0 c1 c2 c3 c4 HOf
        obtain ⟨zn, hzn⟩ : ∃ n, n = zp.length := ⟨_, rfl⟩
        have HZn := Lib.hid hzn
        rw [← hzn] at c4
        clear hzn
        rw [← HZ.out, op_mk] at hq8
        by_cases hzo : zo = 8
        · subst hzo
          have HFq : Hid (ff (.mk 8 wd tx af LL) = LL.getD 0 default) := Lib.hid (by rw [HS.out]; exact if_pos (show adB (.mk 8 wd tx af LL) = true from hq8))
          clear hq8
          clear HS HokL HzL
          go_wp2_with fail
          go_quiet (fail)
          go_wp2_with fail
          refine bodyPost_ret (v := ndV 8 zw zt za C zn cc) (by simp [results, Tryd.results28, go_sem, *]) rfl ?_
          rw [HEq.out, HFq.out, ← HZ.out]
          refine ⟨C, cc, f, by rw [HZn.out]; rfl, ?_, HNf.out, fun b hb => by have := HF5.out b (HMf.out b hb); omega, ?_⟩
          · have O2 := HOf.out
            have hF2 : ∀ b ∈ f, w.heap.size + 3 ≤ b := fun b hb => HF5.out b (HMf.out b hb)
            iterate 5 (refine own_off ?_ hF2 (by simp) _)
            exact O2.below ⟨rfl, rfl, rfl, Nat.le_refl _, fun _ _ => rfl⟩
          · have B2 := HB1.out
            iterate 5 (refine Below.setCell ?_ (by simp) _)
            exact B2.trans ⟨rfl, rfl, rfl, Nat.le_refl _, fun _ _ => rfl⟩
        · have hq : (zo == 8) = false := by rw [beq_eq_false_iff_ne]; exact hzo
          rw [hq] at hq8
          have HFq : Hid (ff (.mk 8 wd tx af LL) = .mk 8 wd tx af LL) := Lib.hid (by rw [HS.out]; exact if_neg (by rw [show adB (.mk 8 wd tx af LL) = false from hq8]; simp))
          clear hq8 hzo
          clear HS HokL HzL
          go_wp2_with fail
          go_quiet (fail)
          go_wp2_with fail
          go_quiet (fail)
          go_wp2_with fail
          refine bodyPost_ret (v := ndV 8 wd tx af (some ⟨g, 0, none⟩) 1 vc) (by simp [results, Tryd.results28, go_sem, *]) rfl ?_
          rw [HEq.out, HFq.out]
          refine ⟨some ⟨g, 0, none⟩, vc, F5, by rw [← Hln.out]; rfl, ?_, HN5.out, fun b hb => by have := HF5.out b hb; omega, ?_⟩
          · have O2 := HO5.out
            have hF2 := HF5.out
            iterate 5 (refine own_off ?_ hF2 (by simp) _)
            exact O2.below ⟨rfl, rfl, rfl, Nat.le_refl _, fun _ _ => rfl⟩
          · have B2 := HB1.out
            iterate 5 (refine Below.setCell ?_ (by simp) _)
            exact B2.trans ⟨rfl, rfl, rfl, Nat.le_refl _, fun _ _ => rfl⟩
      · have hj1 : j = 1 := by simp [shB] at hsh; omega
        subst hj1
        clear hsh
        have hq8 : adB (.mk 9 wd tx af LL) = ((LL.getD 0 default).op == 9) := rfl
        have hx? : LL[0]? = some (LL.getD 0 default) := by rw [List.getD_eq_getElem?_getD, List.getElem?_eq_getElem (by have := Hln.out; omega)]; rfl
        obtain ⟨g, C, cc, f, rfl, hg, c0, c1, c2, c3, c4, hof, hnf, hmf⟩ := OwL.part (d := d) HO5.out HN5.out hx?
        simp only [Nat.zero_mul, Nat.zero_add] at c0 c1 c2 c3 c4
        obtain ⟨z, hz⟩ : ∃ z, z = LL.getD 0 default := ⟨_, rfl⟩
        rw [← hz] at c0 c1 c2 c3 c4 hof
        have HOf := Lib.hid hof
        have HNf := Lib.hid hnf
        have HMf := Lib.hid hmf
        have HZ := Lib.hid hz
        clear hof hnf hmf hx? hz
        obtain ⟨zo, zw, zt, za, zp⟩ := z
        simp only [op_mk, wd_mk, tx_mk, af_mk, ps_mk] at c0 c1 c2 c3 c4 HOf
        obtain ⟨zn, hzn⟩ : ∃ n, n = zp.length := ⟨_, rfl⟩
        have HZn := Lib.hid hzn
        rw [← hzn] at c4
        clear hzn
        rw [← HZ.out, op_mk] at hq8
        by_cases hzo : zo = 9
        · subst hzo
          have HFq : Hid (ff (.mk 9 wd tx af LL) = LL.getD 0 default) := Lib.hid (by rw [HS.out]; exact if_pos (show adB (.mk 9 wd tx af LL) = true from hq8))
          clear hq8
          clear HS HokL HzL
          go_wp2_with fail
          go_quiet (fail)
          go_wp2_with fail
          refine bodyPost_ret (v := ndV 9 zw zt za C zn cc) (by simp [results, Tryd.results28, go_sem, *]) rfl ?_
          rw [HEq.out, HFq.out, ← HZ.out]
          refine ⟨C, cc, f, by rw [HZn.out]; rfl, ?_, HNf.out, fun b hb => by have := HF5.out b (HMf.out b hb); omega, ?_⟩
          · have O2 := HOf.out
            have hF2 : ∀ b ∈ f, w.heap.size + 3 ≤ b := fun b hb => HF5.out b (HMf.out b hb)
            iterate 5 (refine own_off ?_ hF2 (by simp) _)
            exact O2.below ⟨rfl, rfl, rfl, Nat.le_refl _, fun _ _ => rfl⟩
          · have B2 := HB1.out
            iterate 5 (refine Below.setCell ?_ (by simp) _)
            exact B2.trans ⟨rfl, rfl, rfl, Nat.le_refl _, fun _ _ => rfl⟩
        · have hq : (zo == 9) = false := by rw [beq_eq_false_iff_ne]; exact hzo
          rw [hq] at hq8
          have HFq : Hid (ff (.mk 9 wd tx af LL) = .mk 9 wd tx af LL) := Lib.hid (by rw [HS.out]; exact if_neg (by rw [show adB (.mk 9 wd tx af LL) = false from hq8]; simp))
          clear hq8 hzo
          clear HS HokL HzL
          go_wp2_with fail
          go_quiet (fail)
          go_wp2_with fail
          go_quiet (fail)
          go_wp2_with fail
          refine bodyPost_ret (v := ndV 9 wd tx af (some ⟨g, 0, none⟩) 1 vc) (by simp [results, Tryd.results28, go_sem, *]) rfl ?_
          rw [HEq.out, HFq.out]
          refine ⟨some ⟨g, 0, none⟩, vc, F5, by rw [← Hln.out]; rfl, ?_, HN5.out, fun b hb => by have := HF5.out b hb; omega, ?_⟩
          · have O2 := HO5.out
            have hF2 := HF5.out
            iterate 5 (refine own_off ?_ hF2 (by simp) _)
            exact O2.below ⟨rfl, rfl, rfl, Nat.le_refl _, fun _ _ => rfl⟩
          · have B2 := HB1.out
            iterate 5 (refine Below.setCell ?_ (by simp) _)
            exact B2.trans ⟨rfl, rfl, rfl, Nat.le_refl _, fun _ _ => rfl⟩
theorem sSm_all (d : Nat) : SSm d := by
  induction d with
  | zero => exact sSm_step 0 (fun d' h => by omega)
  | succ d ih => exact sSm_step (d + 1) (fun d' h => by have e : d' = d := (by omega); subst e; exact ih)
end Go.Proofs.YtldfdfdleaemaaaDoor.Nd
