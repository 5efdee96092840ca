/-
  changeNode at the change that SimplifyStyle makes of a node.
-/
import Derived.Test.YtldfdfdleaemaaaDoorNdSm
import Derived.Test.YtldfdfdleaemaaaDoorNdAd
namespace Go.Proofs.YtldfdfdleaemaaaDoor.Nd
open Go.RowKit NdPl Ns
set_option linter.unusedSimpArgs false
set_option linter.unusedVariables false

theorem smF_size (y : Tr) : cntT (smF y) ≤ cntT y ∧ szT (smF y) ≤ szT y + 0 := by
  have p0 := part_size y 0
  unfold smF
  split <;> omega
theorem chsm_size (L : List Tr) : szS (chS smF L) ≤ szS L := by
  have := (chs_size smF 0 smF_size L).2
  omega

/-- what changeNode answers, at the change of SimplifyStyle$1 -/
def ChSm (d : Nat) : Prop := ∀ (x : Tr) (B : Option Addr) (c k : Nat) (w : World), RdL d w B x.ps → szT x ≤ 1048576 → okT k x = true → True →
  Calls Tryd.prog 44 #[ndV x.op x.wd x.tx x.af B x.ps.length c, .func (.func 29) #[] #[]] w (NdPost (d + 1) w w.heap.size (chT (smF) x))
set_option maxRecDepth 100000 in
set_option maxHeartbeats 4000000 in
theorem chSm_step (d : Nat) (ih : ∀ d', d = d' + 1 → ChSm d') : ChSm d := by
  intro  x B c k w hr hz hok hcn
  obtain ⟨i0, hi, hz0, hz1, hz2⟩ := info_parts infoNd
  have hzs := szT_eq x
  obtain ⟨ff, hff⟩ : ∃ ff, ff = smF := ⟨_, rfl⟩
  have HFf := Lib.hid hff
  have HI := Lib.hid ih
  have HEq : Hid (chT ff x = ff (.mk x.op x.wd x.tx x.af (chS ff x.ps))) := Lib.hid (chT_eq ff x)
  have HOk : Hid (shB x.op x.wd x.tx x.af x.ps.length = true ∧ ∃ k', x.ps.all (okT k') = true) := Lib.hid (by
    cases k with
    | zero => cases hok
    | succ k' =>
      have h : (shB x.op x.wd x.tx x.af x.ps.length && x.ps.all (okT k')) = true := hok
      rw [Bool.and_eq_true] at h
      exact ⟨h.1, k', h.2⟩)
  have HClo := Lib.hid (fun (ps : List Tr) (A : Option Addr) (c F w1) (h : ps.length = x.ps.length) (ho : OwL (d + 1) w1 A c ps F) (hF : F.Nodup) (hB : ∀ b ∈ F, w.heap.size + 2 ≤ b) (hc : True) (hl : szS ps ≤ szS x.ps) => clo_sm (.mk x.op x.wd x.tx x.af ps) A c (w.heap.size + 2) d F w1 ho hF hB (by have h1 := szT_eq (.mk x.op x.wd x.tx x.af ps); have h2 := szT_eq x; simp only [wd_mk, tx_mk, af_mk, ps_mk] at h1; omega) (show shB x.op x.wd x.tx x.af ps.length = true by rw [h]; exact HOk.out.1))
  rw [← hff] at HClo ⊢
  have HCn := Lib.hid (fun w1 (h : Below w.heap.size w w1) => (show True from trivial))
  obtain ⟨op, wd, tx, af, ps⟩ := x
  simp only [op_mk, wd_mk, tx_mk, af_mk, ps_mk] at *
  have HR := Lib.hid hr
  have HZs : Hid (szS ps ≤ 1048576) := Lib.hid (by omega)
  have hm : ps.length ≤ 1048576 := by omega
  obtain ⟨n, hn⟩ : ∃ n, n = ps.length := ⟨_, rfl⟩
  have HN := Lib.hid hn
  rw [← hn] at hm ⊢
  have HB := Lib.hid (((Below.refl _ w).alloc (Nat.le_refl _) (.cells #[.int .i64 op, .string wd, .string tx, .string af, .slice B n c] 30)).alloc (by simp) (.cells #[.int .i64 0, .string ⟨#[]⟩, .string ⟨#[]⟩, .string ⟨#[]⟩, .slice none 0 0] 30))
  have HX := Lib.hid ((Bw.new w #[.int .i64 op, .string wd, .string tx, .string af, .slice B n c] 30).below ((Below.refl _ _).alloc (Nat.le_refl _) (.cells #[.int .i64 0, .string ⟨#[]⟩, .string ⟨#[]⟩, .string ⟨#[]⟩, .slice none 0 0] 30)))
  have HY := Lib.hid (Bw.new (w.alloc (.cells #[.int .i64 op, .string wd, .string tx, .string af, .slice B n c] 30)) #[.int .i64 0, .string ⟨#[]⟩, .string ⟨#[]⟩, .string ⟨#[]⟩, .slice none 0 0] 30)
  have hs1 : (w.alloc (.cells #[.int .i64 op, .string wd, .string tx, .string af, .slice B n c] 30)).heap.size = w.heap.size + 1 := by simp
  rw [hs1] at HY
  have hs2 : ((w.alloc (.cells #[.int .i64 op, .string wd, .string tx, .string af, .slice B n c] 30)).alloc (.cells #[.int .i64 0, .string ⟨#[]⟩, .string ⟨#[]⟩, .string ⟨#[]⟩, .slice none 0 0] 30)).heap.size = w.heap.size + 2 := by simp
  have HS2 := Lib.hid (Nat.le_of_eq hs2.symm)
  clear hr hz hok hcn hzs hn ih hs1 hs2 hff
  go_enter Tryd.func44, Tryd.ntmps44
  go_wp2_with fail
  generalize (w.alloc _).alloc _ = w0 at HB HX HY HS2 ⊢
  obtain ⟨W, hW⟩ : ∃ W, W = w.heap.size := ⟨_, rfl⟩
  rw [← hW] at HX HY HS2 HClo
  have HW := Lib.hid hW
  have hx4 := HX.out.1.2 4 _ rfl
  go_loopw [5, 11] (fun v i wr => ∃ j : Nat, j ≤ n ∧ i = .int .i64 j ∧ Hid (∃ E, GrL d wr (W + 2) v j (chS ff (ps.take j)) E) ∧ Hid (Bw wr W [.int .i64 op, .string wd, .string tx, .string af, .slice B n c]) ∧ Hid (Bw wr (W + 1) [.int .i64 0, .string ⟨#[]⟩, .string ⟨#[]⟩, .string ⟨#[]⟩, .slice none 0 0]) ∧ Hid (Below w.heap.size w wr) ∧ Hid (W + 2 ≤ wr.heap.size)) (fun _ i _ => n - (intOf i).toNat)
  case atStart => exact ⟨0, Nat.zero_le _, rfl, Lib.hid ⟨[], by simpa [chS] using GrL.nil d w0 (W + 2)⟩, HX, HY, HB, HS2⟩
  case round =>
    clear hx4
    obtain ⟨j, hj, rfl, HG, HX1, HY1, HB1, HS1⟩ := hrel
    obtain ⟨E, hG⟩ := HG.out
    have hform := hG.form
    obtain ⟨vA, vc, rfl⟩ := hform
    by_cases hlt : j < n
    · have hjx : j < ps.length := by rw [← HN.out]; exact hlt
      have hx? := List.getElem?_eq_getElem hjx
      obtain ⟨d', g, o, C, cc, hd, rfl, hg, e0, e1, e2, e3, e4, hr⟩ := (HR.out.below HB1.out).get hx?
      obtain ⟨k', hk'⟩ := HOk.out.2
      have hoky := List.all_eq_true.1 hk' _ (List.getElem_mem hjx)
      have hzx := szS_mem hx?
      have hzm := HZs.out
      have HTk := Lib.hid (chS_take ff hx?)
      clear hx? hk'
      generalize ps[j] = y at *
      have HYc := Lib.hid (fun ob => HI.out d' hd  y C cc k' (wr.alloc ob) (hr.below ((Below.refl _ _).alloc (Nat.le_refl _) ob)) (by omega) hoky (HCn.out _ (HB1.out.alloc HB1.out.size ob)))
      rw [← hd] at HYc
      obtain ⟨z, hz⟩ : ∃ z, z = chT ff y := ⟨_, rfl⟩
      rw [← HFf.out, ← hz] at HYc
      rw [← hz] at HTk
      clear hr hzx hzm hd hoky hz
      obtain ⟨yo, yw, yt, ya, yp⟩ := y
      simp only [op_mk, wd_mk, tx_mk, af_mk, ps_mk] at HYc e0 e1 e2 e3 e4
      generalize yp.length = yn at *
      have HGj := Lib.hid hG
      clear hG HG
      go_wp2_with fail
      refine (HYc.out _).mono ?_
      rintro e w2 ⟨A2, c2, F2, rfl, o2, n2, f2, b2⟩
      have hb2 := (((Below.refl _ wr).alloc (Nat.le_refl _) _)).trans (b2.mono (by simp))
      have hG2 := HGj.out.below hb2
      have HX2 := Lib.hid (HX1.out.below hb2)
      have HY2 := Lib.hid (HY1.out.below hb2)
      have HB2 := Lib.hid (HB1.out.trans (hb2.mono HB1.out.size))
      have hS1 := HS1.out
      have hS2 := Nat.le_trans hS1 hb2.size
      have hf2 : ∀ b ∈ F2, wr.heap.size ≤ b := fun b hb => by have := f2 b hb; simp at this; omega
      have hown := hG2.1
      have HSn := Lib.hid (fun (x : Tr) (hx : x = z) v' (w9 : World) ob hown' hgrow hat => HGj.out.snoc (x := x) (A := A2) (c := c2) (F := F2) (o := ob) (v' := v') (w9 := w9) hb2 hS1 (by rw [hx]; exact o2) n2 hf2 hown' hgrow hat)
      have hbig := Lib.hid (fun b (hv : (Value.slice vA j vc).ownBlock = some b) => HGj.out.big hv)
      obtain ⟨zo, zw, zt, za, zp⟩ := z
      simp only [op_mk, wd_mk, tx_mk, af_mk, ps_mk] at *
      obtain ⟨zn, hzn⟩ : ∃ n, n = zp.length := ⟨_, rfl⟩
      have HZn := Lib.hid hzn
      rw [← hzn]
      clear b2 o2 n2 f2 hf2 hG2 HGj HYc HX1 HY1 HB1 hzn
      go_wp2_with (first | (at_builtin; refine wpList_append_own_at _ rfl _ _ 28 rfl (W + 2) 30 i0 (.agg #[.int .i64 0, .string ByteArray.empty, .string ByteArray.empty, .string ByteArray.empty, .slice none 0 0]) 5 80 Tryd.underlying28 hi hz0 hz1 hz2 rfl (by decide) _ _ _ rfl (hown.alloc _) ⟨w2.heap.size, 0, none⟩ 1 1 [.int .i64 zo, .string zw, .string zt, .string za, .slice A2 zn c2] rfl rfl (five_new _ _ _ _ _ _ _) (by simp [Value.oneCell']) (by unfold maxLen; omega) (by omega) (by simp; omega) ?_; intro v' w9 hown' hgrow _ hat) | go_in)
      go_roundw
      case rel =>
        have hrow : some W ≠ (Value.slice vA j vc).ownBlock := fun e => by have := (hbig.out W e.symm).1; omega
        have hrow1 : some (W + 1) ≠ (Value.slice vA j vc).ownBlock := fun e => by have := (hbig.out (W + 1) e.symm).1; omega
        have HGn : Hid (∃ E, GrL d w9 (W + 2) v' (j + 1) (chS ff (ps.take (j + 1))) E) := Lib.hid ⟨_, by
          rw [HTk.out]
          exact HSn.out _ rfl _ _ _ (by rw [HZn.out] at hown'; exact hown') hgrow hat⟩
        have hX9 := (HX2.out.below ((Below.refl _ _).alloc (Nat.le_refl _) (.cells #[.int .i64 zo, .string zw, .string zt, .string za, .slice A2 zn c2] 30))).grown hgrow hrow
        have hY9 := (HY2.out.below ((Below.refl _ _).alloc (Nat.le_refl _) (.cells #[.int .i64 zo, .string zw, .string zt, .string za, .slice A2 zn c2] 30))).grown hgrow hrow1
        have hB9 := (HB2.out.alloc HB2.out.size (.cells #[.int .i64 zo, .string zw, .string zt, .string za, .slice A2 zn c2] 30)).grown hgrow (by have := HB2.out.size; simp; omega) (fun b hv => by have := (hbig.out b hv).1; have := HW.out; omega)
        have hS9 : W + 2 ≤ w9.heap.size := by
          have h1 := hgrow.size
          simp at h1
          omega
        exact ⟨j + 1, by omega, by go_num, HGn, Lib.hid hX9, Lib.hid hY9, Lib.hid hB9, Lib.hid hS9⟩
      case measure => simp [intOf]; omega
    · obtain rfl : j = n := by omega
      have hWs := HW.out
      subst hWs
      have htk : ps.take j = ps := List.take_of_length_le (by rw [← HN.out]; omega)
      rw [htk] at hG
      have hlen : (chS ff ps).length = ps.length := chS_len ff ps
      have hG5 := hG.off (g := w.heap.size) (o := 4) (by omega) (.slice vA j vc)
      obtain ⟨F5, ho5, hn5, hB5⟩ := hG5.own
      have hz4 := HX1.out.1.2 4 _ rfl
      have hf4 := HX1.out.2 4
      have HC5 := Lib.hid (HClo.out (chS ff ps) vA vc F5 _ (by rw [hlen]) ho5 hn5 hB5 trivial (by rw [HFf.out]; exact chsm_size ps))
      obtain ⟨z, hz⟩ : ∃ z, z = ff (.mk op wd tx af (chS ff ps)) := ⟨_, rfl⟩
      rw [hlen, ← HN.out, ← hz] at HC5
      have HZ : Hid (chT ff (.mk op wd tx af ps) = z) := Lib.hid (by rw [HEq.out, hz])
      have hbw := HX1.out.1.1
      have h0 := HX1.out.1.2 0 _ rfl
      have h1 := HX1.out.1.2 1 _ rfl
      have h2 := HX1.out.1.2 2 _ rfl
      have h3 := HX1.out.1.2 3 _ rfl
      have HY5 := Lib.hid (HY1.out.off (g := w.heap.size) (o := 4) (.slice vA j vc) (by omega))
      have HB5 := Lib.hid (HB1.out.setCell (p := ⟨w.heap.size, 4, none⟩) (Nat.le_refl _) (.slice vA j vc))
      clear hG hG5 ho5 hn5 hB5 HG HX1 HY1 HB1 htk hlen hz HEq HClo
      go_wp2_with fail
      refine HC5.out.mono ?_
      rintro e w6 ⟨A6, c6, F6, rfl, o6, n6, f6, b6⟩
      have hY6 := HY5.out.below b6
      have y0 := hY6.1.2 0 _ rfl
      have y1 := hY6.1.2 1 _ rfl
      have y2 := hY6.1.2 2 _ rfl
      have y3 := hY6.1.2 3 _ rfl
      have y4 := hY6.1.2 4 _ rfl
      have q0 := hY6.2 0
      have q1 := hY6.2 1
      have q2 := hY6.2 2
      have q3 := hY6.2 3
      have q4 := hY6.2 4
      have HO6 := Lib.hid o6
      have HN6 := Lib.hid n6
      have HF6 := Lib.hid f6
      have HB6 := Lib.hid (HB5.out.trans (b6.mono HB5.out.size))
      have hsz6 : w.heap.size + 1 < w6.heap.size := hY6.1.1
      obtain ⟨zo, zw, zt, za, zp⟩ := z
      simp only [op_mk, wd_mk, tx_mk, af_mk, ps_mk] at HO6 ⊢
      obtain ⟨zn, hzn⟩ : ∃ n, n = zp.length := ⟨_, rfl⟩
      have HZn := Lib.hid hzn
      rw [← hzn]
      clear o6 n6 f6 b6 hY6 HY5 HB5 HC5 hzn hz4 hf4 hbw h0 h1 h2 h3
      go_wp2_with fail
      refine bodyPost_ret (v := ndV zo zw zt za A6 zn c6) (by simp [results, Tryd.results44, go_sem, *]) rfl ?_
      rw [HZ.out]
      refine ⟨A6, c6, F6, by rw [HZn.out]; rfl, ?_, HN6.out, fun b hb => by have := HF6.out b hb; omega, ?_⟩
      · have O2 := HO6.out
        have hF2 := HF6.out
        iterate 5 (refine own_off ?_ hF2 (by simp) _)
        exact O2
      · have B2 := HB6.out
        iterate 5 (refine Below.setCell ?_ (by simp) _)
        exact B2
theorem chSm_all (d : Nat) : ChSm d := by
  induction d with
  | zero => exact chSm_step 0 (fun d' h => by omega)
  | succ d ih => exact chSm_step (d + 1) (fun d' h => by have e : d' = d := (by omega); subst e; exact ih)
end Go.Proofs.YtldfdfdleaemaaaDoor.Nd
