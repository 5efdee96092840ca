/-
  Contract of l9Choose of the model.
-/
import Derived.Test.YtldfdfdleaemaaaDoorNdRs
namespace Go.Proofs.YtldfdfdleaemaaaDoor.Nd
open Go.RowKit NdPl Ns
set_option linter.unusedSimpArgs false
set_option linter.unusedVariables false

/-- the model's choice at a node -/
def ckM (z : Int) (y : Tr) : Tr := if y.op = 5 then (if (kd y.wd : Int) = z then y.ps.getD 0 default else y.ps.getD 1 default) else y
def SCk (d : Nat) : Prop := ∀ (kz : Int) (x : Tr) (B : Option Addr) (c k : Nat) (w : World), RdL d w B x.ps → szT x ≤ 1048576 → okT k x = true →
  Calls Tryd.prog 32 #[ndV x.op x.wd x.tx x.af B x.ps.length c, .int .i64 kz] w (NdPost (d + 1) w w.heap.size (chT (ckM kz) x))
set_option maxRecDepth 100000 in
set_option maxHeartbeats 8000000 in
theorem sCk_step (d : Nat) (ih : ∀ d', d = d' + 1 → SCk d') : SCk d := by
  intro kz x B c k w hr hz hok
  obtain ⟨i0, hi, hz0, hz1, hz2⟩ := info_parts infoNd
  have hzs := szT_eq x
  obtain ⟨ff, hff⟩ : ∃ ff, ff = ckM kz := ⟨_, rfl⟩
  have HI := Lib.hid (fun d' hd y C cc w1 h1 h2 k' h3 => ih d' hd kz y C cc k' w1 h1 h2 h3)
  have HEq := Lib.hid (chT_eq ff x)
  have HOk : Hid (shB x.op x.wd x.tx x.af x.ps.length = true ∧ ∃ k', x.ps.all (okT k') = true) := Lib.hid (by
    cases k with
    | zero => cases hok
    | succ k' =>
      have h : (shB x.op x.wd x.tx x.af x.ps.length && x.ps.all (okT k')) = true := hok
      rw [Bool.and_eq_true] at h
      exact ⟨h.1, k', h.2⟩)
  rw [← hff] at HI ⊢
  obtain ⟨op, wd, tx, af, ps⟩ := x
  simp only [op_mk, wd_mk, tx_mk, af_mk, ps_mk] at *
  have HR := Lib.hid hr
  have HZs : Hid (szS ps ≤ 1048576) := Lib.hid (by omega)
  have hm : ps.length ≤ 1048576 := by omega
  by_cases h5 : op = 5
  · subst h5
    have hl2 : ps.length = 2 := by
      have h1 := HOk.out.1
      simp only [shB] at h1
      simp at h1
      omega
    have HFq0 : Hid (ff (.mk 5 wd tx af (chS ff ps)) = if (kd wd : Int) = kz then (chS ff ps).getD 0 default else (chS ff ps).getD 1 default) := Lib.hid (by rw [hff]; rfl)
    have HK := Lib.hid (fun w => kind_s wd w)
    have HWo := Lib.hid (two_world w #[.int .i64 5, .string wd, .string tx, .string af, .slice B 2 c] #[.int .i64 0, .string ⟨#[]⟩, .string ⟨#[]⟩, .string ⟨#[]⟩, .slice none 0 0] 30 30)
    rw [hl2]
    clear hr hz hok hzs ih hff
    obtain ⟨kq, hkq⟩ : ∃ kq : Nat, kq = kd wd := ⟨_, rfl⟩
    rw [← hkq] at HFq0 HK
    clear hkq
    go_enter Tryd.func32, Tryd.ntmps32
    go_wp2_with fail
    generalize (w.alloc _).alloc _ = w0 at HWo ⊢
    refine (HK.out _).mono ?_
    rintro e w1 ⟨rfl, b1⟩
    have HX1 := Lib.hid (HWo.out.2.1.below b1)
    have HY1 := Lib.hid (HWo.out.2.2.1.below b1)
    have HB1 := Lib.hid (HWo.out.1.trans (b1.mono HWo.out.1.size))
    have HS1 := Lib.hid (Nat.le_trans HWo.out.2.2.2 b1.size)
    clear b1 HWo HK
    by_cases hkk : (kq : Int) = kz
    · have HFq : Hid (ff (.mk 5 wd tx af (chS ff ps)) = (chS ff ps).getD 0 default) := Lib.hid (by rw [HFq0.out, if_pos hkk])
      subst hkk
      clear HFq0
      have hx? : ps[0]? = some (ps.getD 0 default) := by rw [List.getD_eq_getElem?_getD, List.getElem?_eq_getElem (by omega)]; rfl
      have HCh : Hid ((chS ff ps).getD 0 default = chT ff (ps.getD 0 default)) := Lib.hid (by
        rw [chS_map, List.getD_eq_getElem?_getD, List.getElem?_map, hx?]; rfl)
      have hjx : 0 < ps.length := by omega
      obtain ⟨d', g, o, C, cc, hd, rfl, hg, e0, e1, e2, e3, e4, hr⟩ := (HR.out.below HB1.out).get hx?
      obtain ⟨k', hk'⟩ := HOk.out.2
      have hoky : okT k' (ps.getD 0 default) = true := List.all_eq_true.1 hk' _ (List.mem_of_getElem? hx?)
      have hzx := szS_mem hx?
      have hzm := HZs.out
      generalize ps.getD 0 default = y at *
      have HYc := Lib.hid (HI.out d' hd y C cc w1 hr (by omega) k' hoky)
      rw [← hd] at HYc
      clear hr hzx hzm hd hoky hk' hx? hjx
      obtain ⟨z, hz⟩ : ∃ z, z = chT ff y := ⟨_, rfl⟩
      rw [← hz] at HYc HCh
      obtain ⟨yo, yw, yt, ya, yp⟩ := y
      simp only [op_mk, wd_mk, tx_mk, af_mk, ps_mk, Nat.zero_mul, Nat.add_zero, Nat.one_mul] at HYc e0 e1 e2 e3 e4
      generalize yp.length = yn at *
      have x4 := HX1.out.1.2 4 _ rfl
      clear hz
      go_wp2_with fail
      refine HYc.out.mono ?_
      rintro e w2 ⟨A6, c6, F6, rfl, o6, n6, f6, b6⟩
      have hY6 := HY1.out.below b6
      have y0 := hY6.1.2 0 _ rfl
      have y1 := hY6.1.2 1 _ rfl
      have y2 := hY6.1.2 2 _ rfl
      have y3 := hY6.1.2 3 _ rfl
      have y4 := hY6.1.2 4 _ rfl
      have q0 := hY6.2 0
      have q1 := hY6.2 1
      have q2 := hY6.2 2
      have q3 := hY6.2 3
      have q4 := hY6.2 4
      have hsy := hY6.1.1
      have HO6 := Lib.hid (OwL.up o6)
      have HN6 := Lib.hid n6
      have HF6 := Lib.hid f6
      have HB6 := Lib.hid (HB1.out.trans (b6.mono HB1.out.size))
      obtain ⟨zo, zw, zt, za, zp⟩ := z
      simp only [op_mk, wd_mk, tx_mk, af_mk, ps_mk] at HO6 ⊢
      obtain ⟨zn, hzn⟩ : ∃ n, n = zp.length := ⟨_, rfl⟩
      have HZn := Lib.hid hzn
      rw [← hzn]
      clear o6 n6 f6 b6 hY6 HY1 HX1 HYc hzn x4 e0 e1 e2 e3 e4
      go_wp2_with fail
      refine bodyPost_ret (v := ndV zo zw zt za A6 zn c6) (by simp [results, Tryd.results32, go_sem, *]) rfl ?_
      rw [HEq.out, HFq.out, HCh.out]
      refine ⟨A6, c6, F6, by rw [HZn.out]; rfl, ?_, HN6.out, fun b hb => by have := HF6.out b hb; have := HS1.out; omega, ?_⟩
      · have O2 := HO6.out
        have hF2 : ∀ b ∈ F6, w.heap.size + 2 ≤ b := fun b hb => Nat.le_trans HS1.out (HF6.out b hb)
        iterate 5 (refine own_off ?_ hF2 (by simp) _)
        exact O2
      · have B2 := HB6.out
        iterate 5 (refine Below.setCell ?_ (by simp) _)
        exact B2
    · have HFq : Hid (ff (.mk 5 wd tx af (chS ff ps)) = (chS ff ps).getD 1 default) := Lib.hid (by rw [HFq0.out, if_neg hkk])
      have hkb : ((kq : Int) == kz) = false := by rw [beq_eq_false_iff_ne]; exact hkk
      clear HFq0 hkk
      have hx? : ps[1]? = some (ps.getD 1 default) := by rw [List.getD_eq_getElem?_getD, List.getElem?_eq_getElem (by omega)]; rfl
      have HCh : Hid ((chS ff ps).getD 1 default = chT ff (ps.getD 1 default)) := Lib.hid (by
        rw [chS_map, List.getD_eq_getElem?_getD, List.getElem?_map, hx?]; rfl)
      have hjx : 1 < ps.length := by omega
      obtain ⟨d', g, o, C, cc, hd, rfl, hg, e0, e1, e2, e3, e4, hr⟩ := (HR.out.below HB1.out).get hx?
      obtain ⟨k', hk'⟩ := HOk.out.2
      have hoky : okT k' (ps.getD 1 default) = true := List.all_eq_true.1 hk' _ (List.mem_of_getElem? hx?)
      have hzx := szS_mem hx?
      have hzm := HZs.out
      generalize ps.getD 1 default = y at *
      have HYc := Lib.hid (HI.out d' hd y C cc w1 hr (by omega) k' hoky)
      rw [← hd] at HYc
      clear hr hzx hzm hd hoky hk' hx? hjx
      obtain ⟨z, hz⟩ : ∃ z, z = chT ff y := ⟨_, rfl⟩
      rw [← hz] at HYc HCh
      obtain ⟨yo, yw, yt, ya, yp⟩ := y
      simp only [op_mk, wd_mk, tx_mk, af_mk, ps_mk, Nat.zero_mul, Nat.add_zero, Nat.one_mul] at HYc e0 e1 e2 e3 e4
      generalize yp.length = yn at *
      have x4 := HX1.out.1.2 4 _ rfl
      clear hz
      go_wp2_with fail
      refine HYc.out.mono ?_
      rintro e w2 ⟨A6, c6, F6, rfl, o6, n6, f6, b6⟩
      have hY6 := HY1.out.below b6
      have y0 := hY6.1.2 0 _ rfl
      have y1 := hY6.1.2 1 _ rfl
      have y2 := hY6.1.2 2 _ rfl
      have y3 := hY6.1.2 3 _ rfl
      have y4 := hY6.1.2 4 _ rfl
      have q0 := hY6.2 0
      have q1 := hY6.2 1
      have q2 := hY6.2 2
      have q3 := hY6.2 3
      have q4 := hY6.2 4
      have hsy := hY6.1.1
      have HO6 := Lib.hid (OwL.up o6)
      have HN6 := Lib.hid n6
      have HF6 := Lib.hid f6
      have HB6 := Lib.hid (HB1.out.trans (b6.mono HB1.out.size))
      obtain ⟨zo, zw, zt, za, zp⟩ := z
      simp only [op_mk, wd_mk, tx_mk, af_mk, ps_mk] at HO6 ⊢
      obtain ⟨zn, hzn⟩ : ∃ n, n = zp.length := ⟨_, rfl⟩
      have HZn := Lib.hid hzn
      rw [← hzn]
      clear o6 n6 f6 b6 hY6 HY1 HX1 HYc hzn x4 e0 e1 e2 e3 e4
      go_wp2_with fail
      refine bodyPost_ret (v := ndV zo zw zt za A6 zn c6) (by simp [results, Tryd.results32, go_sem, *]) rfl ?_
      rw [HEq.out, HFq.out, HCh.out]
      refine ⟨A6, c6, F6, by rw [HZn.out]; rfl, ?_, HN6.out, fun b hb => by have := HF6.out b hb; have := HS1.out; omega, ?_⟩
      · have O2 := HO6.out
        have hF2 : ∀ b ∈ F6, w.heap.size + 2 ≤ b := fun b hb => Nat.le_trans HS1.out (HF6.out b hb)
        iterate 5 (refine own_off ?_ hF2 (by simp) _)
        exact O2
      · have B2 := HB6.out
        iterate 5 (refine Below.setCell ?_ (by simp) _)
        exact B2
  · have h5b : (op == 5) = false := by rw [beq_eq_false_iff_ne]; exact h5
    have HFq : Hid (ff (.mk op wd tx af (chS ff ps)) = .mk op wd tx af (chS ff ps)) := Lib.hid (by rw [hff]; exact if_neg h5)
    obtain ⟨n, hn⟩ : ∃ n, n = ps.length := ⟨_, rfl⟩
    have HN := Lib.hid hn
    rw [← hn] at hm ⊢
    obtain ⟨W, hW⟩ : ∃ W, W = w.heap.size := ⟨_, rfl⟩
    have HW := Lib.hid hW
    have HWo := Lib.hid (three_world w #[.int .i64 op, .string wd, .string tx, .string af, .slice B n c] #[.int .i64 0, .string ⟨#[]⟩, .string ⟨#[]⟩, .string ⟨#[]⟩, .slice none 0 0] #[.int .i64 op, .string wd, .string tx, .string af, .slice none 0 0] 30 30 30)
    rw [← hW] at HWo
    obtain ⟨hB, hX, hY, hO, hS⟩ := HWo.out
    have HB := Lib.hid (show Below w.heap.size w _ from by rw [← hW]; exact hB)
    have HX := Lib.hid hX
    have HY := Lib.hid hY
    have HO := Lib.hid hO
    have HS3 := Lib.hid hS
    clear hr hz hzs hn ih hff hB hX hY hO hS HWo h5 hok
    go_enter Tryd.func32, Tryd.ntmps32
    go_wp2_with fail
    generalize ((w.alloc _).alloc _).alloc _ = w0 at HB HX HY HO HS3 ⊢
    go_loopw [6] (fun i wr => ∃ (j : Nat) (vA : Option Addr) (vc : Nat), j ≤ n ∧ i = .int .i64 j ∧ Hid (∃ E, GrL d wr (W + 3) (.slice vA j vc) j (chS ff (ps.take j)) E) ∧ Hid (Bw wr W [.int .i64 op, .string wd, .string tx, .string af, .slice B n c]) ∧ Hid (Bw wr (W + 1) [.int .i64 0, .string ⟨#[]⟩, .string ⟨#[]⟩, .string ⟨#[]⟩, .slice none 0 0]) ∧ Hid (Bw wr (W + 2) [.int .i64 op, .string wd, .string tx, .string af, .slice vA j vc]) ∧ Hid (Below w.heap.size w wr) ∧ Hid (W + 3 ≤ wr.heap.size)) (fun i _ => n - (intOf i).toNat)
    case atStart => exact ⟨0, none, 0, Nat.zero_le _, rfl, Lib.hid ⟨[], by simpa [chS] using GrL.nil d _ (W + 3)⟩, HX, HY, HO, HB, HS3⟩
    case round =>
      obtain ⟨j, vA, vc, hj, rfl, HG, HX1, HY1, HO1, HB1, HS1⟩ := hrel
      have hWs := HW.out
      subst hWs
      obtain ⟨E, hG⟩ := HG.out
      have x4 := HX1.out.1.2 4 _ rfl
      by_cases hlt : j < n
      · have hjx : j < ps.length := by rw [← HN.out]; exact hlt
        have hx? := List.getElem?_eq_getElem hjx
        obtain ⟨d', g, o, C, cc, hd, rfl, hg, e0, e1, e2, e3, e4, hr⟩ := (HR.out.below HB1.out).get hx?
        obtain ⟨k', hk'⟩ := HOk.out.2
        have hoky := List.all_eq_true.1 hk' _ (List.getElem_mem hjx)
        clear hk'
        have hzx := szS_mem hx?
        have hzm := HZs.out
        have HTk := Lib.hid (chS_take ff hx?)
        have hgm := HB1.out.size
        clear hx?
        generalize ps[j] = y at *
        have HYc := Lib.hid (HI.out d' hd y C cc wr.drew (hr.below (Below.refl _ _).drew) (by omega) k' hoky)
        rw [← hd] at HYc
        obtain ⟨z, hz⟩ : ∃ z, z = chT ff y := ⟨_, rfl⟩
        rw [← hz] at HYc HTk
        clear hr hzx hzm hd hz hoky
        obtain ⟨yo, yw, yt, ya, yp⟩ := y
        simp only [op_mk, wd_mk, tx_mk, af_mk, ps_mk] at HYc e0 e1 e2 e3 e4
        generalize yp.length = yn at *
        have o4 := HO1.out.1.2 4 _ rfl
        have hS1 := HS1.out
        have hown := hG.1
        have HGj := Lib.hid hG
        have hbig := Lib.hid (fun b (hv : (Value.slice vA j vc).ownBlock = some b) => hG.big hv)
        have hx4d : wr.drew.cell? ⟨w.heap.size, 4, none⟩ = _ := x4
        have ho4d : wr.drew.cell? ⟨w.heap.size + 2, 4, none⟩ = some (.slice vA j vc) := o4
        have e0d : wr.drew.cell? ⟨g, o + j * 5, none⟩ = _ := e0
        have e1d : wr.drew.cell? ⟨g, o + j * 5 + 1, none⟩ = _ := e1
        have e2d : wr.drew.cell? ⟨g, o + j * 5 + 2, none⟩ = _ := e2
        have e3d : wr.drew.cell? ⟨g, o + j * 5 + 3, none⟩ = _ := e3
        have e4d : wr.drew.cell? ⟨g, o + j * 5 + 4, none⟩ = _ := e4
        clear hG HG
        go_wp2_with fail
        go_region_law (first
          | (refine Rr.step_append_own rfl (.tmp 44) (.tmp 52) 28 rfl (w.heap.size + 3) 30 i0 (.agg #[.int .i64 0, .string ByteArray.empty, .string ByteArray.empty, .string ByteArray.empty, .slice none 0 0]) 5 80 Tryd.underlying28 hi hz0 hz1 hz2 rfl (by decide) (.slice vA j vc) j (ecells E) rfl (hown2.alloc _) ⟨w2.heap.size, 0, none⟩ 1 1 [.int .i64 zo, .string zw, .string zt, .string za, .slice A2 zn c2] rfl rfl (five_new _ _ _ _ _ _ _) (by simp [Value.oneCell']) (by unfold maxLen; omega) (by omega) (by simp; omega) ?_; intro v' w9 hown' hgrow hat; obtain ⟨vA', vc', rfl⟩ := own_form hown'; have HO9 := Lib.hid ((HO2.out.below (al _ (.cells #[.int .i64 zo, .string zw, .string zt, .string za, .slice A2 zn c2] 30))).grown hgrow (fun e => by have := (hbig.out _ e.symm).1; omega)); have p4 := HO9.out.1.2 4 _ rfl; have pf4 := HO9.out.2 4; have ps9 := HO9.out.1.1)
          | (go_simp; go_at_call 32; refine HYc.out.mono ?_; rintro e w2 ⟨A2, c2, F2, rfl, q2, n2, f2, b2⟩; have hb2 : Below wr.heap.size wr w2 := (Below.refl wr.heap.size wr).drew.trans b2; have HX2 := Lib.hid (HX1.out.below hb2); have HY2 := Lib.hid (HY1.out.below hb2); have HO2 := Lib.hid (HO1.out.below hb2); have x42 := HX2.out.1.2 4 _ rfl; have o42 := HO2.out.1.2 4 _ rfl; have o42a : ∀ ob, (w2.alloc ob).cell? ⟨w.heap.size + 2, 4, none⟩ = some (.slice vA j vc) := fun ob => (HO2.out.below (al _ ob)).1.2 4 _ rfl; have hown2 := own_kept hown hb2; have hS2 := Nat.le_trans hS1 hb2.size; have HSn := Lib.hid (fun (x : Tr) (hx : x = z) v' (w9 : World) ob hown' hgrow hat => HGj.out.snoc (x := x) (A := A2) (c := c2) (F := F2) (o := ob) (v' := v') (w9 := w9) hb2 hS1 (by rw [hx]; exact q2) n2 f2 hown' hgrow hat); obtain ⟨zo, zw, zt, za, zp⟩ := z; simp only [op_mk, wd_mk, tx_mk, af_mk, ps_mk] at *; obtain ⟨zn, hzn⟩ : ∃ n, n = zp.length := ⟨_, rfl⟩; have HZn := Lib.hid hzn; rw [← hzn]; have HB2 := Lib.hid (HB1.out.trans (hb2.mono HB1.out.size)); clear b2 q2 n2 f2 hzn))
        all_goals
          have hG9 := HSn.out _ rfl _ _ _ (by rw [HZn.out] at hown'; exact hown') hgrow hat
          rw [← HTk.out] at hG9
          have HG9 := Lib.hid (hG9.off (g := w.heap.size + 2) (o := 4) (by omega) (.slice vA' (j + 1) vc'))
          have hrow : ∀ b, b < w.heap.size + 3 → some b ≠ (Value.slice vA j vc).ownBlock := fun b hb e => by have := (hbig.out b e.symm).1; omega
          have HX9 := Lib.hid (((HX2.out.below (al _ (.cells #[.int .i64 zo, .string zw, .string zt, .string za, .slice A2 zn c2] 30))).grown hgrow (hrow _ (by omega))).off (g := w.heap.size + 2) (o := 4) (.slice vA' (j + 1) vc') (by omega))
          have HY9 := Lib.hid (((HY2.out.below (al _ (.cells #[.int .i64 zo, .string zw, .string zt, .string za, .slice A2 zn c2] 30))).grown hgrow (hrow _ (by omega))).off (g := w.heap.size + 2) (o := 4) (.slice vA' (j + 1) vc') (by omega))
          have HO10 := Lib.hid (HO9.out.set4 (.slice vA' (j + 1) vc'))
          have hB9 := ((HB2.out.alloc HB2.out.size (.cells #[.int .i64 zo, .string zw, .string zt, .string za, .slice A2 zn c2] 30)).grown hgrow (by have := HB2.out.size; simp; omega) (fun b hv => by have := (hbig.out b hv).1; omega)).setCell (p := ⟨w.heap.size + 2, 4, none⟩) (by simp) (.slice vA' (j + 1) vc')
          have HB9 := Lib.hid hB9
          have HS9 : Hid (w.heap.size + 3 ≤ (w9.setCell ⟨w.heap.size + 2, 4, none⟩ (.slice vA' (j + 1) vc')).heap.size) := Lib.hid (by
            have h1 := hgrow.size
            simp at h1 ⊢
            omega)
          clear hown' hgrow hat hG9 hB9 HX2 HY2 HO2 HO9 HSn HGj HB2 x42 o42 o42a hown2 p4 pf4 ps9 hx4d ho4d e0d e1d e2d e3d e4d e0 e1 e2 e3 e4 o4 hown hb2
          go_wp2_with fail
          go_roundw
          case rel => exact ⟨j + 1, vA', vc', by omega, by go_num, Lib.hid ⟨_, HG9.out⟩, HX9, HY9, HO10, HB9, HS9⟩
          case measure => simp [intOf]; omega
      · obtain rfl : j = n := by omega
        have htk : ps.take j = ps := List.take_of_length_le (by rw [← HN.out]; omega)
        rw [htk] at hG
        have hlen : (chS ff ps).length = ps.length := chS_len ff ps
        obtain ⟨F5, ho5, hn5, hB5⟩ := hG.own
        have HO5 := Lib.hid ho5
        have HN5 := Lib.hid hn5
        have HF5 := Lib.hid hB5
        have Hln : Hid ((chS ff ps).length = j) := Lib.hid (by rw [hlen, ← HN.out])
        have o0 := HO1.out.1.2 0 _ rfl
        have o1 := HO1.out.1.2 1 _ rfl
        have o2 := HO1.out.1.2 2 _ rfl
        have o3 := HO1.out.1.2 3 _ rfl
        have o4 := HO1.out.1.2 4 _ rfl
        have y0 := HY1.out.1.2 0 _ rfl
        have y1 := HY1.out.1.2 1 _ rfl
        have y2 := HY1.out.1.2 2 _ rfl
        have y3 := HY1.out.1.2 3 _ rfl
        have y4 := HY1.out.1.2 4 _ rfl
        have q0 := HY1.out.2 0
        have q1 := HY1.out.2 1
        have q2 := HY1.out.2 2
        have q3 := HY1.out.2 3
        have q4 := HY1.out.2 4
        have hsy := HY1.out.1.1
        clear hG ho5 hn5 hB5 htk hlen HG HX1 HY1 HO1
        go_wp2_with fail
        refine bodyPost_ret (v := ndV op wd tx af vA j vc) (by simp [results, Tryd.results32, go_sem, *]) rfl ?_
        rw [HEq.out, HFq.out]
        refine ⟨vA, vc, F5, by rw [← Hln.out]; rfl, ?_, HN5.out, fun b hb => by have := HF5.out b hb; omega, ?_⟩
        · have O2 := HO5.out
          have hF2 := HF5.out
          iterate 5 (refine own_off ?_ hF2 (by simp) _)
          exact O2
        · have B2 := HB1.out
          iterate 5 (refine Below.setCell ?_ (by simp) _)
          exact B2

theorem sCk_all (d : Nat) : SCk d := by
  induction d with
  | zero => exact sCk_step 0 (fun d' h => by omega)
  | succ d ih => exact sCk_step (d + 1) (fun d' h => by have e : d' = d := (by omega); subst e; exact ih)
end Go.Proofs.YtldfdfdleaemaaaDoor.Nd
