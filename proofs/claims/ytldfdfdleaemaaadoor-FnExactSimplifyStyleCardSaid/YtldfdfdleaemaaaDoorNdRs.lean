/-
  Contracts of l9Replace and ReplaceField of the model.
-/
import Derived.Test.YtldfdfdleaemaaaDoorNdCk
import Derived.Test.YtldfdfdleaemaaaDoorRr
namespace Go.Proofs.YtldfdfdleaemaaaDoor.Nd
open Go.RowKit NdPl Ns
set_option linter.unusedSimpArgs false
set_option linter.unusedVariables false

theorem al (w : World) (o : Obj) : Below w.heap.size w (w.alloc o) := (Below.refl _ w).alloc (Nat.le_refl _) o
theorem Bw.set4 {w : World} {b : Nat} {v0 v1 v2 v3 v4 : Value} (h : Bw w b [v0, v1, v2, v3, v4]) (u : Value) : Bw (w.setCell ⟨b, 4, none⟩ u) b [v0, v1, v2, v3, u] := by
  refine ⟨⟨by simpa using h.1.1, fun i v hv => ?_⟩, fun i => (World.frozen?_setCell _ _ _ _).trans (h.2 i)⟩
  have ho : ∀ i, i ≠ 4 → (w.setCell ⟨b, 4, none⟩ u).cell? ⟨b, i, none⟩ = w.cell? ⟨b, i, none⟩ := fun i hi => World.cell?_setCell_other _ _ _ _ (fun e => hi (by cases e; rfl))
  match i, hv with
  | 0, hv => exact (ho 0 (by decide)).trans (h.1.2 0 v hv)
  | 1, hv => exact (ho 1 (by decide)).trans (h.1.2 1 v hv)
  | 2, hv => exact (ho 2 (by decide)).trans (h.1.2 2 v hv)
  | 3, hv => exact (ho 3 (by decide)).trans (h.1.2 3 v hv)
  | 4, hv =>
    simp at hv
    subst hv
    exact World.cell?_setCell_same' w ⟨b, 4, none⟩ u (by rw [h.1.2 4 _ rfl]; rfl)
  | i + 5, hv => simp at hv
theorem own_form {w : World} {base : Nat} {e : TypeId} {size n : Nat} {v : Value} {xs : List Value} (h : w.ownsRow base e size v n xs) : ∃ A c, v = .slice A n c := by
  rcases h.2 with ⟨rfl, rfl⟩ | ⟨g, cap, cur, rfl, _⟩
  · exact ⟨none, 0, rfl⟩
  · exact ⟨_, _, rfl⟩
theorem three_world (w : World) (cs1 cs2 cs3 : Array Value) (t1 t2 t3 : TypeId) : Below w.heap.size w (((w.alloc (.cells cs1 t1)).alloc (.cells cs2 t2)).alloc (.cells cs3 t3)) ∧
    Bw (((w.alloc (.cells cs1 t1)).alloc (.cells cs2 t2)).alloc (.cells cs3 t3)) w.heap.size cs1.toList ∧ Bw (((w.alloc (.cells cs1 t1)).alloc (.cells cs2 t2)).alloc (.cells cs3 t3)) (w.heap.size + 1) cs2.toList ∧
    Bw (((w.alloc (.cells cs1 t1)).alloc (.cells cs2 t2)).alloc (.cells cs3 t3)) (w.heap.size + 2) cs3.toList ∧ w.heap.size + 3 ≤ (((w.alloc (.cells cs1 t1)).alloc (.cells cs2 t2)).alloc (.cells cs3 t3)).heap.size := by
  have h1 := Bw.new w cs1 t1
  have h2 := Bw.new (w.alloc (.cells cs1 t1)) cs2 t2
  have h3 := Bw.new ((w.alloc (.cells cs1 t1)).alloc (.cells cs2 t2)) cs3 t3
  rw [show (w.alloc (.cells cs1 t1)).heap.size = w.heap.size + 1 by simp] at h2
  rw [show ((w.alloc (.cells cs1 t1)).alloc (.cells cs2 t2)).heap.size = w.heap.size + 2 by simp] at h3
  exact ⟨((al w _).alloc (by simp) _).alloc (by simp; omega) _, (h1.below (al _ _)).below (al _ _), h2.below (al _ _), h3, by simp⟩
/-- the model's change of a node: a field where one may stand -/
def mrF (old fld : ByteArray) (y : Tr) : Tr := if (y.op = 1 ∨ y.op = 4) ∧ y.wd = old then .mk y.op fld y.tx y.af y.ps else y
def mrW (old fld : ByteArray) (op : Int) (wd : ByteArray) : ByteArray := if (op = 1 ∨ op = 4) ∧ wd = old then fld else wd
theorem mrF_eq (old fld : ByteArray) (op : Int) (wd tx af : ByteArray) (l : List Tr) : mrF old fld (.mk op wd tx af l) = .mk op (mrW old fld op wd) tx af l := by
  show (if (op = 1 ∨ op = 4) ∧ wd = old then Tr.mk op fld tx af l else Tr.mk op wd tx af l) = Tr.mk op (if (op = 1 ∨ op = 4) ∧ wd = old then fld else wd) tx af l
  by_cases h : (op = 1 ∨ op = 4) ∧ wd = old
  · rw [if_pos h, if_pos h]
  · rw [if_neg h, if_neg h]
def SRp (d : Nat) : Prop := ∀ (old fld : ByteArray) (x : Tr) (B : Option Addr) (c : Nat) (w : World), RdL d w B x.ps → szT x ≤ 1048576 →
  Calls Tryd.prog 20 #[ndV x.op x.wd x.tx x.af B x.ps.length c, .string old, .string fld] w (NdPost (d + 1) w w.heap.size (chT (mrF old fld) x))
set_option maxRecDepth 100000 in
set_option maxHeartbeats 4000000 in
theorem sRp_step (d : Nat) (ih : ∀ d', d = d' + 1 → SRp d') : SRp d := by
  intro old fld x B c w hr hz
  obtain ⟨i0, hi, hz0, hz1, hz2⟩ := info_parts infoNd
  have hzs := szT_eq x
  obtain ⟨ff, hff⟩ : ∃ ff, ff = mrF old fld := ⟨_, rfl⟩
  have HI := Lib.hid (fun d' hd y C cc w1 h1 h2 => ih d' hd old fld y C cc w1 h1 h2)
  have HEq := Lib.hid (chT_eq ff x)
  rw [← hff] at HI ⊢
  obtain ⟨op, wd, tx, af, ps⟩ := x
  simp only [op_mk, wd_mk, tx_mk, af_mk, ps_mk] at *
  have HFq : Hid (ff (.mk op wd tx af (chS ff ps)) = .mk op (mrW old fld op wd) tx af (chS ff ps)) := Lib.hid (by rw [hff, mrF_eq])
  have HR := Lib.hid hr
  have HZs : Hid (szS ps ≤ 1048576) := Lib.hid (by omega)
  have hm : ps.length ≤ 1048576 := by omega
  obtain ⟨n, hn⟩ : ∃ n, n = ps.length := ⟨_, rfl⟩
  have HN := Lib.hid hn
  rw [← hn] at hm ⊢
  obtain ⟨W, hW⟩ : ∃ W, W = w.heap.size := ⟨_, rfl⟩
  have HW := Lib.hid hW
  obtain ⟨wq, hwq⟩ : ∃ wq, wq = mrW old fld op wd := ⟨_, rfl⟩
  rw [← hwq] at HFq
  have HWq : Hid (wq = if (op = 1 ∨ op = 4) ∧ wd = old then fld else wd) := Lib.hid hwq
  have HWo := Lib.hid (three_world w #[.int .i64 op, .string wd, .string tx, .string af, .slice B n c] #[.int .i64 0, .string ⟨#[]⟩, .string ⟨#[]⟩, .string ⟨#[]⟩, .slice none 0 0] #[.int .i64 op, .string wq, .string tx, .string af, .slice none 0 0] 30 30 30)
  rw [← hW] at HWo
  obtain ⟨hB, hX, hY, hO, hS⟩ := HWo.out
  have HB := Lib.hid (show Below w.heap.size w _ from by rw [← hW]; exact hB)
  have HX := Lib.hid hX
  have HY := Lib.hid hY
  have HO := Lib.hid hO
  have HS3 := Lib.hid hS
  clear hr hz hzs hn ih hff hwq hB hX hY hO hS HWo
  have HWq2 := HWq.out
  by_cases hwd : wd = old
  · have hwe := hwd
    subst hwd
    rcases (show op = 1 ∨ op = 4 ∨ (op ≠ 1 ∧ op ≠ 4) by omega) with ho | ho | ⟨ho1, ho4⟩
    · subst ho
      rw [if_pos ⟨Or.inl rfl, rfl⟩] at HWq2
      replace HWq2 := HWq2.symm
      subst HWq2
      clear HWq
      go_enter Tryd.func20, Tryd.ntmps20
      go_wp2_with fail
      generalize ((w.alloc _).alloc _).alloc _ = w0 at HB HX HY HO HS3 ⊢
      go_loopw [8] (fun i wr => ∃ (j : Nat) (vA : Option Addr) (vc : Nat), j ≤ n ∧ i = .int .i64 j ∧ Hid (∃ E, GrL d wr (W + 3) (.slice vA j vc) j (chS ff (ps.take j)) E) ∧ Hid (Bw wr W [.int .i64 1, .string wd, .string tx, .string af, .slice B n c]) ∧ Hid (Bw wr (W + 1) [.int .i64 0, .string ⟨#[]⟩, .string ⟨#[]⟩, .string ⟨#[]⟩, .slice none 0 0]) ∧ Hid (Bw wr (W + 2) [.int .i64 1, .string fld, .string tx, .string af, .slice vA j vc]) ∧ Hid (Below w.heap.size w wr) ∧ Hid (W + 3 ≤ wr.heap.size)) (fun i _ => n - (intOf i).toNat)
      case atStart => exact ⟨0, none, 0, Nat.zero_le _, rfl, Lib.hid ⟨[], by simpa [chS] using GrL.nil d _ (W + 3)⟩, HX, HY, HO, HB, HS3⟩
      case round =>
        obtain ⟨j, vA, vc, hj, rfl, HG, HX1, HY1, HO1, HB1, HS1⟩ := hrel
        have hWs := HW.out
        subst hWs
        obtain ⟨E, hG⟩ := HG.out
        have x4 := HX1.out.1.2 4 _ rfl
        by_cases hlt : j < n
        · have hjx : j < ps.length := by rw [← HN.out]; exact hlt
          have hx? := List.getElem?_eq_getElem hjx
          obtain ⟨d', g, o, C, cc, hd, rfl, hg, e0, e1, e2, e3, e4, hr⟩ := (HR.out.below HB1.out).get hx?
          have hzx := szS_mem hx?
          have hzm := HZs.out
          have HTk := Lib.hid (chS_take ff hx?)
          have hgm := HB1.out.size
          clear hx?
          generalize ps[j] = y at *
          have HYc := Lib.hid (HI.out d' hd y C cc wr.drew (hr.below (Below.refl _ _).drew) (by omega))
          rw [← hd] at HYc
          obtain ⟨z, hz⟩ : ∃ z, z = chT ff y := ⟨_, rfl⟩
          rw [← hz] at HYc HTk
          clear hr hzx hzm hd hz
          obtain ⟨yo, yw, yt, ya, yp⟩ := y
          simp only [op_mk, wd_mk, tx_mk, af_mk, ps_mk] at HYc e0 e1 e2 e3 e4
          generalize yp.length = yn at *
          have o4 := HO1.out.1.2 4 _ rfl
          have hS1 := HS1.out
          have hown := hG.1
          have HGj := Lib.hid hG
          have hbig := Lib.hid (fun b (hv : (Value.slice vA j vc).ownBlock = some b) => hG.big hv)
          have hx4d : wr.drew.cell? ⟨w.heap.size, 4, none⟩ = _ := x4
          have ho4d : wr.drew.cell? ⟨w.heap.size + 2, 4, none⟩ = some (.slice vA j vc) := o4
          have e0d : wr.drew.cell? ⟨g, o + j * 5, none⟩ = _ := e0
          have e1d : wr.drew.cell? ⟨g, o + j * 5 + 1, none⟩ = _ := e1
          have e2d : wr.drew.cell? ⟨g, o + j * 5 + 2, none⟩ = _ := e2
          have e3d : wr.drew.cell? ⟨g, o + j * 5 + 3, none⟩ = _ := e3
          have e4d : wr.drew.cell? ⟨g, o + j * 5 + 4, none⟩ = _ := e4
          clear hG HG
          go_wp2_with fail
          go_region_law (first
            | (refine Rr.step_append_own rfl (.tmp 42) (.tmp 51) 28 rfl (w.heap.size + 3) 30 i0 (.agg #[.int .i64 0, .string ByteArray.empty, .string ByteArray.empty, .string ByteArray.empty, .slice none 0 0]) 5 80 Tryd.underlying28 hi hz0 hz1 hz2 rfl (by decide) (.slice vA j vc) j (ecells E) rfl (hown2.alloc _) ⟨w2.heap.size, 0, none⟩ 1 1 [.int .i64 zo, .string zw, .string zt, .string za, .slice A2 zn c2] rfl rfl (five_new _ _ _ _ _ _ _) (by simp [Value.oneCell']) (by unfold maxLen; omega) (by omega) (by simp; omega) ?_; intro v' w9 hown' hgrow hat; obtain ⟨vA', vc', rfl⟩ := own_form hown'; have HO9 := Lib.hid ((HO2.out.below (al _ (.cells #[.int .i64 zo, .string zw, .string zt, .string za, .slice A2 zn c2] 30))).grown hgrow (fun e => by have := (hbig.out _ e.symm).1; omega)); have p4 := HO9.out.1.2 4 _ rfl; have pf4 := HO9.out.2 4; have ps9 := HO9.out.1.1)
            | (go_simp; go_at_call 20; refine HYc.out.mono ?_; rintro e w2 ⟨A2, c2, F2, rfl, q2, n2, f2, b2⟩; have hb2 : Below wr.heap.size wr w2 := (Below.refl wr.heap.size wr).drew.trans b2; have HX2 := Lib.hid (HX1.out.below hb2); have HY2 := Lib.hid (HY1.out.below hb2); have HO2 := Lib.hid (HO1.out.below hb2); have x42 := HX2.out.1.2 4 _ rfl; have o42 := HO2.out.1.2 4 _ rfl; have o42a : ∀ ob, (w2.alloc ob).cell? ⟨w.heap.size + 2, 4, none⟩ = some (.slice vA j vc) := fun ob => (HO2.out.below (al _ ob)).1.2 4 _ rfl; have hown2 := own_kept hown hb2; have hS2 := Nat.le_trans hS1 hb2.size; have HSn := Lib.hid (fun (x : Tr) (hx : x = z) v' (w9 : World) ob hown' hgrow hat => HGj.out.snoc (x := x) (A := A2) (c := c2) (F := F2) (o := ob) (v' := v') (w9 := w9) hb2 hS1 (by rw [hx]; exact q2) n2 f2 hown' hgrow hat); obtain ⟨zo, zw, zt, za, zp⟩ := z; simp only [op_mk, wd_mk, tx_mk, af_mk, ps_mk] at *; obtain ⟨zn, hzn⟩ : ∃ n, n = zp.length := ⟨_, rfl⟩; have HZn := Lib.hid hzn; rw [← hzn]; have HB2 := Lib.hid (HB1.out.trans (hb2.mono HB1.out.size)); clear b2 q2 n2 f2 hzn))
          all_goals
            have hG9 := HSn.out _ rfl _ _ _ (by rw [HZn.out] at hown'; exact hown') hgrow hat
            rw [← HTk.out] at hG9
            have HG9 := Lib.hid (hG9.off (g := w.heap.size + 2) (o := 4) (by omega) (.slice vA' (j + 1) vc'))
            have hrow : ∀ b, b < w.heap.size + 3 → some b ≠ (Value.slice vA j vc).ownBlock := fun b hb e => by have := (hbig.out b e.symm).1; omega
            have HX9 := Lib.hid (((HX2.out.below (al _ (.cells #[.int .i64 zo, .string zw, .string zt, .string za, .slice A2 zn c2] 30))).grown hgrow (hrow _ (by omega))).off (g := w.heap.size + 2) (o := 4) (.slice vA' (j + 1) vc') (by omega))
            have HY9 := Lib.hid (((HY2.out.below (al _ (.cells #[.int .i64 zo, .string zw, .string zt, .string za, .slice A2 zn c2] 30))).grown hgrow (hrow _ (by omega))).off (g := w.heap.size + 2) (o := 4) (.slice vA' (j + 1) vc') (by omega))
            have HO10 := Lib.hid (HO9.out.set4 (.slice vA' (j + 1) vc'))
            have hB9 := ((HB2.out.alloc HB2.out.size (.cells #[.int .i64 zo, .string zw, .string zt, .string za, .slice A2 zn c2] 30)).grown hgrow (by have := HB2.out.size; simp; omega) (fun b hv => by have := (hbig.out b hv).1; omega)).setCell (p := ⟨w.heap.size + 2, 4, none⟩) (by simp) (.slice vA' (j + 1) vc')
            have HB9 := Lib.hid hB9
            have HS9 : Hid (w.heap.size + 3 ≤ (w9.setCell ⟨w.heap.size + 2, 4, none⟩ (.slice vA' (j + 1) vc')).heap.size) := Lib.hid (by
              have h1 := hgrow.size
              simp at h1 ⊢
              omega)
            clear hown' hgrow hat hG9 hB9 HX2 HY2 HO2 HO9 HSn HGj HB2 x42 o42 o42a hown2 p4 pf4 ps9 hx4d ho4d e0d e1d e2d e3d e4d e0 e1 e2 e3 e4 o4 hown hb2
            go_wp2_with fail
            go_roundw
            case rel => exact ⟨j + 1, vA', vc', by omega, by go_num, Lib.hid ⟨_, HG9.out⟩, HX9, HY9, HO10, HB9, HS9⟩
            case measure => simp [intOf]; omega
        · obtain rfl : j = n := by omega
          have htk : ps.take j = ps := List.take_of_length_le (by rw [← HN.out]; omega)
          rw [htk] at hG
          have hlen : (chS ff ps).length = ps.length := chS_len ff ps
          obtain ⟨F5, ho5, hn5, hB5⟩ := hG.own
          have HO5 := Lib.hid ho5
          have HN5 := Lib.hid hn5
          have HF5 := Lib.hid hB5
          have Hln : Hid ((chS ff ps).length = j) := Lib.hid (by rw [hlen, ← HN.out])
          have o0 := HO1.out.1.2 0 _ rfl
          have o1 := HO1.out.1.2 1 _ rfl
          have o2 := HO1.out.1.2 2 _ rfl
          have o3 := HO1.out.1.2 3 _ rfl
          have o4 := HO1.out.1.2 4 _ rfl
          have y0 := HY1.out.1.2 0 _ rfl
          have y1 := HY1.out.1.2 1 _ rfl
          have y2 := HY1.out.1.2 2 _ rfl
          have y3 := HY1.out.1.2 3 _ rfl
          have y4 := HY1.out.1.2 4 _ rfl
          have q0 := HY1.out.2 0
          have q1 := HY1.out.2 1
          have q2 := HY1.out.2 2
          have q3 := HY1.out.2 3
          have q4 := HY1.out.2 4
          have hsy := HY1.out.1.1
          clear hG ho5 hn5 hB5 htk hlen HG HX1 HY1 HO1
          go_wp2_with fail
          refine bodyPost_ret (v := ndV 1 fld tx af vA j vc) (by simp [results, Tryd.results20, go_sem, *]) rfl ?_
          rw [HEq.out, HFq.out]
          refine ⟨vA, vc, F5, by rw [← Hln.out]; rfl, ?_, HN5.out, fun b hb => by have := HF5.out b hb; omega, ?_⟩
          · have O2 := HO5.out
            have hF2 := HF5.out
            iterate 5 (refine own_off ?_ hF2 (by simp) _)
            exact O2
          · have B2 := HB1.out
            iterate 5 (refine Below.setCell ?_ (by simp) _)
            exact B2
    · subst ho
      rw [if_pos ⟨Or.inr rfl, rfl⟩] at HWq2
      replace HWq2 := HWq2.symm
      subst HWq2
      clear HWq
      go_enter Tryd.func20, Tryd.ntmps20
      go_wp2_with fail
      generalize ((w.alloc _).alloc _).alloc _ = w0 at HB HX HY HO HS3 ⊢
      go_loopw [8] (fun i wr => ∃ (j : Nat) (vA : Option Addr) (vc : Nat), j ≤ n ∧ i = .int .i64 j ∧ Hid (∃ E, GrL d wr (W + 3) (.slice vA j vc) j (chS ff (ps.take j)) E) ∧ Hid (Bw wr W [.int .i64 4, .string wd, .string tx, .string af, .slice B n c]) ∧ Hid (Bw wr (W + 1) [.int .i64 0, .string ⟨#[]⟩, .string ⟨#[]⟩, .string ⟨#[]⟩, .slice none 0 0]) ∧ Hid (Bw wr (W + 2) [.int .i64 4, .string fld, .string tx, .string af, .slice vA j vc]) ∧ Hid (Below w.heap.size w wr) ∧ Hid (W + 3 ≤ wr.heap.size)) (fun i _ => n - (intOf i).toNat)
      case atStart => exact ⟨0, none, 0, Nat.zero_le _, rfl, Lib.hid ⟨[], by simpa [chS] using GrL.nil d _ (W + 3)⟩, HX, HY, HO, HB, HS3⟩
      case round =>
        obtain ⟨j, vA, vc, hj, rfl, HG, HX1, HY1, HO1, HB1, HS1⟩ := hrel
        have hWs := HW.out
        subst hWs
        obtain ⟨E, hG⟩ := HG.out
        have x4 := HX1.out.1.2 4 _ rfl
        by_cases hlt : j < n
        · have hjx : j < ps.length := by rw [← HN.out]; exact hlt
          have hx? := List.getElem?_eq_getElem hjx
          obtain ⟨d', g, o, C, cc, hd, rfl, hg, e0, e1, e2, e3, e4, hr⟩ := (HR.out.below HB1.out).get hx?
          have hzx := szS_mem hx?
          have hzm := HZs.out
          have HTk := Lib.hid (chS_take ff hx?)
          have hgm := HB1.out.size
          clear hx?
          generalize ps[j] = y at *
          have HYc := Lib.hid (HI.out d' hd y C cc wr.drew (hr.below (Below.refl _ _).drew) (by omega))
          rw [← hd] at HYc
          obtain ⟨z, hz⟩ : ∃ z, z = chT ff y := ⟨_, rfl⟩
          rw [← hz] at HYc HTk
          clear hr hzx hzm hd hz
          obtain ⟨yo, yw, yt, ya, yp⟩ := y
          simp only [op_mk, wd_mk, tx_mk, af_mk, ps_mk] at HYc e0 e1 e2 e3 e4
          generalize yp.length = yn at *
          have o4 := HO1.out.1.2 4 _ rfl
          have hS1 := HS1.out
          have hown := hG.1
          have HGj := Lib.hid hG
          have hbig := Lib.hid (fun b (hv : (Value.slice vA j vc).ownBlock = some b) => hG.big hv)
          have hx4d : wr.drew.cell? ⟨w.heap.size, 4, none⟩ = _ := x4
          have ho4d : wr.drew.cell? ⟨w.heap.size + 2, 4, none⟩ = some (.slice vA j vc) := o4
          have e0d : wr.drew.cell? ⟨g, o + j * 5, none⟩ = _ := e0
          have e1d : wr.drew.cell? ⟨g, o + j * 5 + 1, none⟩ = _ := e1
          have e2d : wr.drew.cell? ⟨g, o + j * 5 + 2, none⟩ = _ := e2
          have e3d : wr.drew.cell? ⟨g, o + j * 5 + 3, none⟩ = _ := e3
          have e4d : wr.drew.cell? ⟨g, o + j * 5 + 4, none⟩ = _ := e4
          clear hG HG
          go_wp2_with fail
          go_region_law (first
            | (refine Rr.step_append_own rfl (.tmp 42) (.tmp 51) 28 rfl (w.heap.size + 3) 30 i0 (.agg #[.int .i64 0, .string ByteArray.empty, .string ByteArray.empty, .string ByteArray.empty, .slice none 0 0]) 5 80 Tryd.underlying28 hi hz0 hz1 hz2 rfl (by decide) (.slice vA j vc) j (ecells E) rfl (hown2.alloc _) ⟨w2.heap.size, 0, none⟩ 1 1 [.int .i64 zo, .string zw, .string zt, .string za, .slice A2 zn c2] rfl rfl (five_new _ _ _ _ _ _ _) (by simp [Value.oneCell']) (by unfold maxLen; omega) (by omega) (by simp; omega) ?_; intro v' w9 hown' hgrow hat; obtain ⟨vA', vc', rfl⟩ := own_form hown'; have HO9 := Lib.hid ((HO2.out.below (al _ (.cells #[.int .i64 zo, .string zw, .string zt, .string za, .slice A2 zn c2] 30))).grown hgrow (fun e => by have := (hbig.out _ e.symm).1; omega)); have p4 := HO9.out.1.2 4 _ rfl; have pf4 := HO9.out.2 4; have ps9 := HO9.out.1.1)
            | (go_simp; go_at_call 20; refine HYc.out.mono ?_; rintro e w2 ⟨A2, c2, F2, rfl, q2, n2, f2, b2⟩; have hb2 : Below wr.heap.size wr w2 := (Below.refl wr.heap.size wr).drew.trans b2; have HX2 := Lib.hid (HX1.out.below hb2); have HY2 := Lib.hid (HY1.out.below hb2); have HO2 := Lib.hid (HO1.out.below hb2); have x42 := HX2.out.1.2 4 _ rfl; have o42 := HO2.out.1.2 4 _ rfl; have o42a : ∀ ob, (w2.alloc ob).cell? ⟨w.heap.size + 2, 4, none⟩ = some (.slice vA j vc) := fun ob => (HO2.out.below (al _ ob)).1.2 4 _ rfl; have hown2 := own_kept hown hb2; have hS2 := Nat.le_trans hS1 hb2.size; have HSn := Lib.hid (fun (x : Tr) (hx : x = z) v' (w9 : World) ob hown' hgrow hat => HGj.out.snoc (x := x) (A := A2) (c := c2) (F := F2) (o := ob) (v' := v') (w9 := w9) hb2 hS1 (by rw [hx]; exact q2) n2 f2 hown' hgrow hat); obtain ⟨zo, zw, zt, za, zp⟩ := z; simp only [op_mk, wd_mk, tx_mk, af_mk, ps_mk] at *; obtain ⟨zn, hzn⟩ : ∃ n, n = zp.length := ⟨_, rfl⟩; have HZn := Lib.hid hzn; rw [← hzn]; have HB2 := Lib.hid (HB1.out.trans (hb2.mono HB1.out.size)); clear b2 q2 n2 f2 hzn))
          all_goals
            have hG9 := HSn.out _ rfl _ _ _ (by rw [HZn.out] at hown'; exact hown') hgrow hat
            rw [← HTk.out] at hG9
            have HG9 := Lib.hid (hG9.off (g := w.heap.size + 2) (o := 4) (by omega) (.slice vA' (j + 1) vc'))
            have hrow : ∀ b, b < w.heap.size + 3 → some b ≠ (Value.slice vA j vc).ownBlock := fun b hb e => by have := (hbig.out b e.symm).1; omega
            have HX9 := Lib.hid (((HX2.out.below (al _ (.cells #[.int .i64 zo, .string zw, .string zt, .string za, .slice A2 zn c2] 30))).grown hgrow (hrow _ (by omega))).off (g := w.heap.size + 2) (o := 4) (.slice vA' (j + 1) vc') (by omega))
            have HY9 := Lib.hid (((HY2.out.below (al _ (.cells #[.int .i64 zo, .string zw, .string zt, .string za, .slice A2 zn c2] 30))).grown hgrow (hrow _ (by omega))).off (g := w.heap.size + 2) (o := 4) (.slice vA' (j + 1) vc') (by omega))
            have HO10 := Lib.hid (HO9.out.set4 (.slice vA' (j + 1) vc'))
            have hB9 := ((HB2.out.alloc HB2.out.size (.cells #[.int .i64 zo, .string zw, .string zt, .string za, .slice A2 zn c2] 30)).grown hgrow (by have := HB2.out.size; simp; omega) (fun b hv => by have := (hbig.out b hv).1; omega)).setCell (p := ⟨w.heap.size + 2, 4, none⟩) (by simp) (.slice vA' (j + 1) vc')
            have HB9 := Lib.hid hB9
            have HS9 : Hid (w.heap.size + 3 ≤ (w9.setCell ⟨w.heap.size + 2, 4, none⟩ (.slice vA' (j + 1) vc')).heap.size) := Lib.hid (by
              have h1 := hgrow.size
              simp at h1 ⊢
              omega)
            clear hown' hgrow hat hG9 hB9 HX2 HY2 HO2 HO9 HSn HGj HB2 x42 o42 o42a hown2 p4 pf4 ps9 hx4d ho4d e0d e1d e2d e3d e4d e0 e1 e2 e3 e4 o4 hown hb2
            go_wp2_with fail
            go_roundw
            case rel => exact ⟨j + 1, vA', vc', by omega, by go_num, Lib.hid ⟨_, HG9.out⟩, HX9, HY9, HO10, HB9, HS9⟩
            case measure => simp [intOf]; omega
        · obtain rfl : j = n := by omega
          have htk : ps.take j = ps := List.take_of_length_le (by rw [← HN.out]; omega)
          rw [htk] at hG
          have hlen : (chS ff ps).length = ps.length := chS_len ff ps
          obtain ⟨F5, ho5, hn5, hB5⟩ := hG.own
          have HO5 := Lib.hid ho5
          have HN5 := Lib.hid hn5
          have HF5 := Lib.hid hB5
          have Hln : Hid ((chS ff ps).length = j) := Lib.hid (by rw [hlen, ← HN.out])
          have o0 := HO1.out.1.2 0 _ rfl
          have o1 := HO1.out.1.2 1 _ rfl
          have o2 := HO1.out.1.2 2 _ rfl
          have o3 := HO1.out.1.2 3 _ rfl
          have o4 := HO1.out.1.2 4 _ rfl
          have y0 := HY1.out.1.2 0 _ rfl
          have y1 := HY1.out.1.2 1 _ rfl
          have y2 := HY1.out.1.2 2 _ rfl
          have y3 := HY1.out.1.2 3 _ rfl
          have y4 := HY1.out.1.2 4 _ rfl
          have q0 := HY1.out.2 0
          have q1 := HY1.out.2 1
          have q2 := HY1.out.2 2
          have q3 := HY1.out.2 3
          have q4 := HY1.out.2 4
          have hsy := HY1.out.1.1
          clear hG ho5 hn5 hB5 htk hlen HG HX1 HY1 HO1
          go_wp2_with fail
          refine bodyPost_ret (v := ndV 4 fld tx af vA j vc) (by simp [results, Tryd.results20, go_sem, *]) rfl ?_
          rw [HEq.out, HFq.out]
          refine ⟨vA, vc, F5, by rw [← Hln.out]; rfl, ?_, HN5.out, fun b hb => by have := HF5.out b hb; omega, ?_⟩
          · have O2 := HO5.out
            have hF2 := HF5.out
            iterate 5 (refine own_off ?_ hF2 (by simp) _)
            exact O2
          · have B2 := HB1.out
            iterate 5 (refine Below.setCell ?_ (by simp) _)
            exact B2
    · rw [if_neg (fun h => by rcases h.1 with h | h; exact ho1 h; exact ho4 h)] at HWq2
      replace HWq2 := HWq2.symm
      subst HWq2
      have hq1 : (op == 1) = false := by rw [beq_eq_false_iff_ne]; exact ho1
      have hq4 : (op == 4) = false := by rw [beq_eq_false_iff_ne]; exact ho4
      clear HWq
      go_enter Tryd.func20, Tryd.ntmps20
      go_wp2_with fail
      generalize ((w.alloc _).alloc _).alloc _ = w0 at HB HX HY HO HS3 ⊢
      go_loopw [8] (fun i wr => ∃ (j : Nat) (vA : Option Addr) (vc : Nat), j ≤ n ∧ i = .int .i64 j ∧ Hid (∃ E, GrL d wr (W + 3) (.slice vA j vc) j (chS ff (ps.take j)) E) ∧ Hid (Bw wr W [.int .i64 op, .string wd, .string tx, .string af, .slice B n c]) ∧ Hid (Bw wr (W + 1) [.int .i64 0, .string ⟨#[]⟩, .string ⟨#[]⟩, .string ⟨#[]⟩, .slice none 0 0]) ∧ Hid (Bw wr (W + 2) [.int .i64 op, .string wd, .string tx, .string af, .slice vA j vc]) ∧ Hid (Below w.heap.size w wr) ∧ Hid (W + 3 ≤ wr.heap.size)) (fun i _ => n - (intOf i).toNat)
      case atStart => exact ⟨0, none, 0, Nat.zero_le _, rfl, Lib.hid ⟨[], by simpa [chS] using GrL.nil d _ (W + 3)⟩, HX, HY, HO, HB, HS3⟩
      case round =>
        obtain ⟨j, vA, vc, hj, rfl, HG, HX1, HY1, HO1, HB1, HS1⟩ := hrel
        have hWs := HW.out
        subst hWs
        obtain ⟨E, hG⟩ := HG.out
        have x4 := HX1.out.1.2 4 _ rfl
        by_cases hlt : j < n
        · have hjx : j < ps.length := by rw [← HN.out]; exact hlt
          have hx? := List.getElem?_eq_getElem hjx
          obtain ⟨d', g, o, C, cc, hd, rfl, hg, e0, e1, e2, e3, e4, hr⟩ := (HR.out.below HB1.out).get hx?
          have hzx := szS_mem hx?
          have hzm := HZs.out
          have HTk := Lib.hid (chS_take ff hx?)
          have hgm := HB1.out.size
          clear hx?
          generalize ps[j] = y at *
          have HYc := Lib.hid (HI.out d' hd y C cc wr.drew (hr.below (Below.refl _ _).drew) (by omega))
          rw [← hd] at HYc
          obtain ⟨z, hz⟩ : ∃ z, z = chT ff y := ⟨_, rfl⟩
          rw [← hz] at HYc HTk
          clear hr hzx hzm hd hz
          obtain ⟨yo, yw, yt, ya, yp⟩ := y
          simp only [op_mk, wd_mk, tx_mk, af_mk, ps_mk] at HYc e0 e1 e2 e3 e4
          generalize yp.length = yn at *
          have o4 := HO1.out.1.2 4 _ rfl
          have hS1 := HS1.out
          have hown := hG.1
          have HGj := Lib.hid hG
          have hbig := Lib.hid (fun b (hv : (Value.slice vA j vc).ownBlock = some b) => hG.big hv)
          have hx4d : wr.drew.cell? ⟨w.heap.size, 4, none⟩ = _ := x4
          have ho4d : wr.drew.cell? ⟨w.heap.size + 2, 4, none⟩ = some (.slice vA j vc) := o4
          have e0d : wr.drew.cell? ⟨g, o + j * 5, none⟩ = _ := e0
          have e1d : wr.drew.cell? ⟨g, o + j * 5 + 1, none⟩ = _ := e1
          have e2d : wr.drew.cell? ⟨g, o + j * 5 + 2, none⟩ = _ := e2
          have e3d : wr.drew.cell? ⟨g, o + j * 5 + 3, none⟩ = _ := e3
          have e4d : wr.drew.cell? ⟨g, o + j * 5 + 4, none⟩ = _ := e4
          clear hG HG
          go_wp2_with fail
          go_region_law (first
            | (refine Rr.step_append_own rfl (.tmp 42) (.tmp 51) 28 rfl (w.heap.size + 3) 30 i0 (.agg #[.int .i64 0, .string ByteArray.empty, .string ByteArray.empty, .string ByteArray.empty, .slice none 0 0]) 5 80 Tryd.underlying28 hi hz0 hz1 hz2 rfl (by decide) (.slice vA j vc) j (ecells E) rfl (hown2.alloc _) ⟨w2.heap.size, 0, none⟩ 1 1 [.int .i64 zo, .string zw, .string zt, .string za, .slice A2 zn c2] rfl rfl (five_new _ _ _ _ _ _ _) (by simp [Value.oneCell']) (by unfold maxLen; omega) (by omega) (by simp; omega) ?_; intro v' w9 hown' hgrow hat; obtain ⟨vA', vc', rfl⟩ := own_form hown'; have HO9 := Lib.hid ((HO2.out.below (al _ (.cells #[.int .i64 zo, .string zw, .string zt, .string za, .slice A2 zn c2] 30))).grown hgrow (fun e => by have := (hbig.out _ e.symm).1; omega)); have p4 := HO9.out.1.2 4 _ rfl; have pf4 := HO9.out.2 4; have ps9 := HO9.out.1.1)
            | (go_simp; go_at_call 20; refine HYc.out.mono ?_; rintro e w2 ⟨A2, c2, F2, rfl, q2, n2, f2, b2⟩; have hb2 : Below wr.heap.size wr w2 := (Below.refl wr.heap.size wr).drew.trans b2; have HX2 := Lib.hid (HX1.out.below hb2); have HY2 := Lib.hid (HY1.out.below hb2); have HO2 := Lib.hid (HO1.out.below hb2); have x42 := HX2.out.1.2 4 _ rfl; have o42 := HO2.out.1.2 4 _ rfl; have o42a : ∀ ob, (w2.alloc ob).cell? ⟨w.heap.size + 2, 4, none⟩ = some (.slice vA j vc) := fun ob => (HO2.out.below (al _ ob)).1.2 4 _ rfl; have hown2 := own_kept hown hb2; have hS2 := Nat.le_trans hS1 hb2.size; have HSn := Lib.hid (fun (x : Tr) (hx : x = z) v' (w9 : World) ob hown' hgrow hat => HGj.out.snoc (x := x) (A := A2) (c := c2) (F := F2) (o := ob) (v' := v') (w9 := w9) hb2 hS1 (by rw [hx]; exact q2) n2 f2 hown' hgrow hat); obtain ⟨zo, zw, zt, za, zp⟩ := z; simp only [op_mk, wd_mk, tx_mk, af_mk, ps_mk] at *; obtain ⟨zn, hzn⟩ : ∃ n, n = zp.length := ⟨_, rfl⟩; have HZn := Lib.hid hzn; rw [← hzn]; have HB2 := Lib.hid (HB1.out.trans (hb2.mono HB1.out.size)); clear b2 q2 n2 f2 hzn))
          all_goals
            have hG9 := HSn.out _ rfl _ _ _ (by rw [HZn.out] at hown'; exact hown') hgrow hat
            rw [← HTk.out] at hG9
            have HG9 := Lib.hid (hG9.off (g := w.heap.size + 2) (o := 4) (by omega) (.slice vA' (j + 1) vc'))
            have hrow : ∀ b, b < w.heap.size + 3 → some b ≠ (Value.slice vA j vc).ownBlock := fun b hb e => by have := (hbig.out b e.symm).1; omega
            have HX9 := Lib.hid (((HX2.out.below (al _ (.cells #[.int .i64 zo, .string zw, .string zt, .string za, .slice A2 zn c2] 30))).grown hgrow (hrow _ (by omega))).off (g := w.heap.size + 2) (o := 4) (.slice vA' (j + 1) vc') (by omega))
            have HY9 := Lib.hid (((HY2.out.below (al _ (.cells #[.int .i64 zo, .string zw, .string zt, .string za, .slice A2 zn c2] 30))).grown hgrow (hrow _ (by omega))).off (g := w.heap.size + 2) (o := 4) (.slice vA' (j + 1) vc') (by omega))
            have HO10 := Lib.hid (HO9.out.set4 (.slice vA' (j + 1) vc'))
            have hB9 := ((HB2.out.alloc HB2.out.size (.cells #[.int .i64 zo, .string zw, .string zt, .string za, .slice A2 zn c2] 30)).grown hgrow (by have := HB2.out.size; simp; omega) (fun b hv => by have := (hbig.out b hv).1; omega)).setCell (p := ⟨w.heap.size + 2, 4, none⟩) (by simp) (.slice vA' (j + 1) vc')
            have HB9 := Lib.hid hB9
            have HS9 : Hid (w.heap.size + 3 ≤ (w9.setCell ⟨w.heap.size + 2, 4, none⟩ (.slice vA' (j + 1) vc')).heap.size) := Lib.hid (by
              have h1 := hgrow.size
              simp at h1 ⊢
              omega)
            clear hown' hgrow hat hG9 hB9 HX2 HY2 HO2 HO9 HSn HGj HB2 x42 o42 o42a hown2 p4 pf4 ps9 hx4d ho4d e0d e1d e2d e3d e4d e0 e1 e2 e3 e4 o4 hown hb2
            go_wp2_with fail
            go_roundw
            case rel => exact ⟨j + 1, vA', vc', by omega, by go_num, Lib.hid ⟨_, HG9.out⟩, HX9, HY9, HO10, HB9, HS9⟩
            case measure => simp [intOf]; omega
        · obtain rfl : j = n := by omega
          have htk : ps.take j = ps := List.take_of_length_le (by rw [← HN.out]; omega)
          rw [htk] at hG
          have hlen : (chS ff ps).length = ps.length := chS_len ff ps
          obtain ⟨F5, ho5, hn5, hB5⟩ := hG.own
          have HO5 := Lib.hid ho5
          have HN5 := Lib.hid hn5
          have HF5 := Lib.hid hB5
          have Hln : Hid ((chS ff ps).length = j) := Lib.hid (by rw [hlen, ← HN.out])
          have o0 := HO1.out.1.2 0 _ rfl
          have o1 := HO1.out.1.2 1 _ rfl
          have o2 := HO1.out.1.2 2 _ rfl
          have o3 := HO1.out.1.2 3 _ rfl
          have o4 := HO1.out.1.2 4 _ rfl
          have y0 := HY1.out.1.2 0 _ rfl
          have y1 := HY1.out.1.2 1 _ rfl
          have y2 := HY1.out.1.2 2 _ rfl
          have y3 := HY1.out.1.2 3 _ rfl
          have y4 := HY1.out.1.2 4 _ rfl
          have q0 := HY1.out.2 0
          have q1 := HY1.out.2 1
          have q2 := HY1.out.2 2
          have q3 := HY1.out.2 3
          have q4 := HY1.out.2 4
          have hsy := HY1.out.1.1
          clear hG ho5 hn5 hB5 htk hlen HG HX1 HY1 HO1
          go_wp2_with fail
          refine bodyPost_ret (v := ndV op wd tx af vA j vc) (by simp [results, Tryd.results20, go_sem, *]) rfl ?_
          rw [HEq.out, HFq.out]
          refine ⟨vA, vc, F5, by rw [← Hln.out]; rfl, ?_, HN5.out, fun b hb => by have := HF5.out b hb; omega, ?_⟩
          · have O2 := HO5.out
            have hF2 := HF5.out
            iterate 5 (refine own_off ?_ hF2 (by simp) _)
            exact O2
          · have B2 := HB1.out
            iterate 5 (refine Below.setCell ?_ (by simp) _)
            exact B2
  · rw [if_neg (fun h => hwd h.2)] at HWq2
    have hqw : (wd.toList == old.toList) = false := by rw [ba_eq]; exact decide_eq_false hwd
    replace HWq2 := HWq2.symm
    subst HWq2
    clear hwd
    rcases (show op = 1 ∨ op = 4 ∨ (op ≠ 1 ∧ op ≠ 4) by omega) with ho | ho | ⟨ho1, ho4⟩
    · subst ho
      clear HWq
      go_enter Tryd.func20, Tryd.ntmps20
      go_wp2_with fail
      generalize ((w.alloc _).alloc _).alloc _ = w0 at HB HX HY HO HS3 ⊢
      go_loopw [8] (fun i wr => ∃ (j : Nat) (vA : Option Addr) (vc : Nat), j ≤ n ∧ i = .int .i64 j ∧ Hid (∃ E, GrL d wr (W + 3) (.slice vA j vc) j (chS ff (ps.take j)) E) ∧ Hid (Bw wr W [.int .i64 1, .string wd, .string tx, .string af, .slice B n c]) ∧ Hid (Bw wr (W + 1) [.int .i64 0, .string ⟨#[]⟩, .string ⟨#[]⟩, .string ⟨#[]⟩, .slice none 0 0]) ∧ Hid (Bw wr (W + 2) [.int .i64 1, .string wd, .string tx, .string af, .slice vA j vc]) ∧ Hid (Below w.heap.size w wr) ∧ Hid (W + 3 ≤ wr.heap.size)) (fun i _ => n - (intOf i).toNat)
      case atStart => exact ⟨0, none, 0, Nat.zero_le _, rfl, Lib.hid ⟨[], by simpa [chS] using GrL.nil d _ (W + 3)⟩, HX, HY, HO, HB, HS3⟩
      case round =>
        obtain ⟨j, vA, vc, hj, rfl, HG, HX1, HY1, HO1, HB1, HS1⟩ := hrel
        have hWs := HW.out
        subst hWs
        obtain ⟨E, hG⟩ := HG.out
        have x4 := HX1.out.1.2 4 _ rfl
        by_cases hlt : j < n
        · have hjx : j < ps.length := by rw [← HN.out]; exact hlt
          have hx? := List.getElem?_eq_getElem hjx
          obtain ⟨d', g, o, C, cc, hd, rfl, hg, e0, e1, e2, e3, e4, hr⟩ := (HR.out.below HB1.out).get hx?
          have hzx := szS_mem hx?
          have hzm := HZs.out
          have HTk := Lib.hid (chS_take ff hx?)
          have hgm := HB1.out.size
          clear hx?
          generalize ps[j] = y at *
          have HYc := Lib.hid (HI.out d' hd y C cc wr.drew (hr.below (Below.refl _ _).drew) (by omega))
          rw [← hd] at HYc
          obtain ⟨z, hz⟩ : ∃ z, z = chT ff y := ⟨_, rfl⟩
          rw [← hz] at HYc HTk
          clear hr hzx hzm hd hz
          obtain ⟨yo, yw, yt, ya, yp⟩ := y
          simp only [op_mk, wd_mk, tx_mk, af_mk, ps_mk] at HYc e0 e1 e2 e3 e4
          generalize yp.length = yn at *
          have o4 := HO1.out.1.2 4 _ rfl
          have hS1 := HS1.out
          have hown := hG.1
          have HGj := Lib.hid hG
          have hbig := Lib.hid (fun b (hv : (Value.slice vA j vc).ownBlock = some b) => hG.big hv)
          have hx4d : wr.drew.cell? ⟨w.heap.size, 4, none⟩ = _ := x4
          have ho4d : wr.drew.cell? ⟨w.heap.size + 2, 4, none⟩ = some (.slice vA j vc) := o4
          have e0d : wr.drew.cell? ⟨g, o + j * 5, none⟩ = _ := e0
          have e1d : wr.drew.cell? ⟨g, o + j * 5 + 1, none⟩ = _ := e1
          have e2d : wr.drew.cell? ⟨g, o + j * 5 + 2, none⟩ = _ := e2
          have e3d : wr.drew.cell? ⟨g, o + j * 5 + 3, none⟩ = _ := e3
          have e4d : wr.drew.cell? ⟨g, o + j * 5 + 4, none⟩ = _ := e4
          clear hG HG
          go_wp2_with fail
          go_region_law (first
            | (refine Rr.step_append_own rfl (.tmp 42) (.tmp 51) 28 rfl (w.heap.size + 3) 30 i0 (.agg #[.int .i64 0, .string ByteArray.empty, .string ByteArray.empty, .string ByteArray.empty, .slice none 0 0]) 5 80 Tryd.underlying28 hi hz0 hz1 hz2 rfl (by decide) (.slice vA j vc) j (ecells E) rfl (hown2.alloc _) ⟨w2.heap.size, 0, none⟩ 1 1 [.int .i64 zo, .string zw, .string zt, .string za, .slice A2 zn c2] rfl rfl (five_new _ _ _ _ _ _ _) (by simp [Value.oneCell']) (by unfold maxLen; omega) (by omega) (by simp; omega) ?_; intro v' w9 hown' hgrow hat; obtain ⟨vA', vc', rfl⟩ := own_form hown'; have HO9 := Lib.hid ((HO2.out.below (al _ (.cells #[.int .i64 zo, .string zw, .string zt, .string za, .slice A2 zn c2] 30))).grown hgrow (fun e => by have := (hbig.out _ e.symm).1; omega)); have p4 := HO9.out.1.2 4 _ rfl; have pf4 := HO9.out.2 4; have ps9 := HO9.out.1.1)
            | (go_simp; go_at_call 20; refine HYc.out.mono ?_; rintro e w2 ⟨A2, c2, F2, rfl, q2, n2, f2, b2⟩; have hb2 : Below wr.heap.size wr w2 := (Below.refl wr.heap.size wr).drew.trans b2; have HX2 := Lib.hid (HX1.out.below hb2); have HY2 := Lib.hid (HY1.out.below hb2); have HO2 := Lib.hid (HO1.out.below hb2); have x42 := HX2.out.1.2 4 _ rfl; have o42 := HO2.out.1.2 4 _ rfl; have o42a : ∀ ob, (w2.alloc ob).cell? ⟨w.heap.size + 2, 4, none⟩ = some (.slice vA j vc) := fun ob => (HO2.out.below (al _ ob)).1.2 4 _ rfl; have hown2 := own_kept hown hb2; have hS2 := Nat.le_trans hS1 hb2.size; have HSn := Lib.hid (fun (x : Tr) (hx : x = z) v' (w9 : World) ob hown' hgrow hat => HGj.out.snoc (x := x) (A := A2) (c := c2) (F := F2) (o := ob) (v' := v') (w9 := w9) hb2 hS1 (by rw [hx]; exact q2) n2 f2 hown' hgrow hat); obtain ⟨zo, zw, zt, za, zp⟩ := z; simp only [op_mk, wd_mk, tx_mk, af_mk, ps_mk] at *; obtain ⟨zn, hzn⟩ : ∃ n, n = zp.length := ⟨_, rfl⟩; have HZn := Lib.hid hzn; rw [← hzn]; have HB2 := Lib.hid (HB1.out.trans (hb2.mono HB1.out.size)); clear b2 q2 n2 f2 hzn))
          all_goals
            have hG9 := HSn.out _ rfl _ _ _ (by rw [HZn.out] at hown'; exact hown') hgrow hat
            rw [← HTk.out] at hG9
            have HG9 := Lib.hid (hG9.off (g := w.heap.size + 2) (o := 4) (by omega) (.slice vA' (j + 1) vc'))
            have hrow : ∀ b, b < w.heap.size + 3 → some b ≠ (Value.slice vA j vc).ownBlock := fun b hb e => by have := (hbig.out b e.symm).1; omega
            have HX9 := Lib.hid (((HX2.out.below (al _ (.cells #[.int .i64 zo, .string zw, .string zt, .string za, .slice A2 zn c2] 30))).grown hgrow (hrow _ (by omega))).off (g := w.heap.size + 2) (o := 4) (.slice vA' (j + 1) vc') (by omega))
            have HY9 := Lib.hid (((HY2.out.below (al _ (.cells #[.int .i64 zo, .string zw, .string zt, .string za, .slice A2 zn c2] 30))).grown hgrow (hrow _ (by omega))).off (g := w.heap.size + 2) (o := 4) (.slice vA' (j + 1) vc') (by omega))
            have HO10 := Lib.hid (HO9.out.set4 (.slice vA' (j + 1) vc'))
            have hB9 := ((HB2.out.alloc HB2.out.size (.cells #[.int .i64 zo, .string zw, .string zt, .string za, .slice A2 zn c2] 30)).grown hgrow (by have := HB2.out.size; simp; omega) (fun b hv => by have := (hbig.out b hv).1; omega)).setCell (p := ⟨w.heap.size + 2, 4, none⟩) (by simp) (.slice vA' (j + 1) vc')
            have HB9 := Lib.hid hB9
            have HS9 : Hid (w.heap.size + 3 ≤ (w9.setCell ⟨w.heap.size + 2, 4, none⟩ (.slice vA' (j + 1) vc')).heap.size) := Lib.hid (by
              have h1 := hgrow.size
              simp at h1 ⊢
              omega)
            clear hown' hgrow hat hG9 hB9 HX2 HY2 HO2 HO9 HSn HGj HB2 x42 o42 o42a hown2 p4 pf4 ps9 hx4d ho4d e0d e1d e2d e3d e4d e0 e1 e2 e3 e4 o4 hown hb2
            go_wp2_with fail
            go_roundw
            case rel => exact ⟨j + 1, vA', vc', by omega, by go_num, Lib.hid ⟨_, HG9.out⟩, HX9, HY9, HO10, HB9, HS9⟩
            case measure => simp [intOf]; omega
        · obtain rfl : j = n := by omega
          have htk : ps.take j = ps := List.take_of_length_le (by rw [← HN.out]; omega)
          rw [htk] at hG
          have hlen : (chS ff ps).length = ps.length := chS_len ff ps
          obtain ⟨F5, ho5, hn5, hB5⟩ := hG.own
          have HO5 := Lib.hid ho5
          have HN5 := Lib.hid hn5
          have HF5 := Lib.hid hB5
          have Hln : Hid ((chS ff ps).length = j) := Lib.hid (by rw [hlen, ← HN.out])
          have o0 := HO1.out.1.2 0 _ rfl
          have o1 := HO1.out.1.2 1 _ rfl
          have o2 := HO1.out.1.2 2 _ rfl
          have o3 := HO1.out.1.2 3 _ rfl
          have o4 := HO1.out.1.2 4 _ rfl
          have y0 := HY1.out.1.2 0 _ rfl
          have y1 := HY1.out.1.2 1 _ rfl
          have y2 := HY1.out.1.2 2 _ rfl
          have y3 := HY1.out.1.2 3 _ rfl
          have y4 := HY1.out.1.2 4 _ rfl
          have q0 := HY1.out.2 0
          have q1 := HY1.out.2 1
          have q2 := HY1.out.2 2
          have q3 := HY1.out.2 3
          have q4 := HY1.out.2 4
          have hsy := HY1.out.1.1
          clear hG ho5 hn5 hB5 htk hlen HG HX1 HY1 HO1
          go_wp2_with fail
          refine bodyPost_ret (v := ndV 1 wd tx af vA j vc) (by simp [results, Tryd.results20, go_sem, *]) rfl ?_
          rw [HEq.out, HFq.out]
          refine ⟨vA, vc, F5, by rw [← Hln.out]; rfl, ?_, HN5.out, fun b hb => by have := HF5.out b hb; omega, ?_⟩
          · have O2 := HO5.out
            have hF2 := HF5.out
            iterate 5 (refine own_off ?_ hF2 (by simp) _)
            exact O2
          · have B2 := HB1.out
            iterate 5 (refine Below.setCell ?_ (by simp) _)
            exact B2
    · subst ho
      clear HWq
      go_enter Tryd.func20, Tryd.ntmps20
      go_wp2_with fail
      generalize ((w.alloc _).alloc _).alloc _ = w0 at HB HX HY HO HS3 ⊢
      go_loopw [8] (fun i wr => ∃ (j : Nat) (vA : Option Addr) (vc : Nat), j ≤ n ∧ i = .int .i64 j ∧ Hid (∃ E, GrL d wr (W + 3) (.slice vA j vc) j (chS ff (ps.take j)) E) ∧ Hid (Bw wr W [.int .i64 4, .string wd, .string tx, .string af, .slice B n c]) ∧ Hid (Bw wr (W + 1) [.int .i64 0, .string ⟨#[]⟩, .string ⟨#[]⟩, .string ⟨#[]⟩, .slice none 0 0]) ∧ Hid (Bw wr (W + 2) [.int .i64 4, .string wd, .string tx, .string af, .slice vA j vc]) ∧ Hid (Below w.heap.size w wr) ∧ Hid (W + 3 ≤ wr.heap.size)) (fun i _ => n - (intOf i).toNat)
      case atStart => exact ⟨0, none, 0, Nat.zero_le _, rfl, Lib.hid ⟨[], by simpa [chS] using GrL.nil d _ (W + 3)⟩, HX, HY, HO, HB, HS3⟩
      case round =>
        obtain ⟨j, vA, vc, hj, rfl, HG, HX1, HY1, HO1, HB1, HS1⟩ := hrel
        have hWs := HW.out
        subst hWs
        obtain ⟨E, hG⟩ := HG.out
        have x4 := HX1.out.1.2 4 _ rfl
        by_cases hlt : j < n
        · have hjx : j < ps.length := by rw [← HN.out]; exact hlt
          have hx? := List.getElem?_eq_getElem hjx
          obtain ⟨d', g, o, C, cc, hd, rfl, hg, e0, e1, e2, e3, e4, hr⟩ := (HR.out.below HB1.out).get hx?
          have hzx := szS_mem hx?
          have hzm := HZs.out
          have HTk := Lib.hid (chS_take ff hx?)
          have hgm := HB1.out.size
          clear hx?
          generalize ps[j] = y at *
          have HYc := Lib.hid (HI.out d' hd y C cc wr.drew (hr.below (Below.refl _ _).drew) (by omega))
          rw [← hd] at HYc
          obtain ⟨z, hz⟩ : ∃ z, z = chT ff y := ⟨_, rfl⟩
          rw [← hz] at HYc HTk
          clear hr hzx hzm hd hz
          obtain ⟨yo, yw, yt, ya, yp⟩ := y
          simp only [op_mk, wd_mk, tx_mk, af_mk, ps_mk] at HYc e0 e1 e2 e3 e4
          generalize yp.length = yn at *
          have o4 := HO1.out.1.2 4 _ rfl
          have hS1 := HS1.out
          have hown := hG.1
          have HGj := Lib.hid hG
          have hbig := Lib.hid (fun b (hv : (Value.slice vA j vc).ownBlock = some b) => hG.big hv)
          have hx4d : wr.drew.cell? ⟨w.heap.size, 4, none⟩ = _ := x4
          have ho4d : wr.drew.cell? ⟨w.heap.size + 2, 4, none⟩ = some (.slice vA j vc) := o4
          have e0d : wr.drew.cell? ⟨g, o + j * 5, none⟩ = _ := e0
          have e1d : wr.drew.cell? ⟨g, o + j * 5 + 1, none⟩ = _ := e1
          have e2d : wr.drew.cell? ⟨g, o + j * 5 + 2, none⟩ = _ := e2
          have e3d : wr.drew.cell? ⟨g, o + j * 5 + 3, none⟩ = _ := e3
          have e4d : wr.drew.cell? ⟨g, o + j * 5 + 4, none⟩ = _ := e4
          clear hG HG
          go_wp2_with fail
          go_region_law (first
            | (refine Rr.step_append_own rfl (.tmp 42) (.tmp 51) 28 rfl (w.heap.size + 3) 30 i0 (.agg #[.int .i64 0, .string ByteArray.empty, .string ByteArray.empty, .string ByteArray.empty, .slice none 0 0]) 5 80 Tryd.underlying28 hi hz0 hz1 hz2 rfl (by decide) (.slice vA j vc) j (ecells E) rfl (hown2.alloc _) ⟨w2.heap.size, 0, none⟩ 1 1 [.int .i64 zo, .string zw, .string zt, .string za, .slice A2 zn c2] rfl rfl (five_new _ _ _ _ _ _ _) (by simp [Value.oneCell']) (by unfold maxLen; omega) (by omega) (by simp; omega) ?_; intro v' w9 hown' hgrow hat; obtain ⟨vA', vc', rfl⟩ := own_form hown'; have HO9 := Lib.hid ((HO2.out.below (al _ (.cells #[.int .i64 zo, .string zw, .string zt, .string za, .slice A2 zn c2] 30))).grown hgrow (fun e => by have := (hbig.out _ e.symm).1; omega)); have p4 := HO9.out.1.2 4 _ rfl; have pf4 := HO9.out.2 4; have ps9 := HO9.out.1.1)
            | (go_simp; go_at_call 20; refine HYc.out.mono ?_; rintro e w2 ⟨A2, c2, F2, rfl, q2, n2, f2, b2⟩; have hb2 : Below wr.heap.size wr w2 := (Below.refl wr.heap.size wr).drew.trans b2; have HX2 := Lib.hid (HX1.out.below hb2); have HY2 := Lib.hid (HY1.out.below hb2); have HO2 := Lib.hid (HO1.out.below hb2); have x42 := HX2.out.1.2 4 _ rfl; have o42 := HO2.out.1.2 4 _ rfl; have o42a : ∀ ob, (w2.alloc ob).cell? ⟨w.heap.size + 2, 4, none⟩ = some (.slice vA j vc) := fun ob => (HO2.out.below (al _ ob)).1.2 4 _ rfl; have hown2 := own_kept hown hb2; have hS2 := Nat.le_trans hS1 hb2.size; have HSn := Lib.hid (fun (x : Tr) (hx : x = z) v' (w9 : World) ob hown' hgrow hat => HGj.out.snoc (x := x) (A := A2) (c := c2) (F := F2) (o := ob) (v' := v') (w9 := w9) hb2 hS1 (by rw [hx]; exact q2) n2 f2 hown' hgrow hat); obtain ⟨zo, zw, zt, za, zp⟩ := z; simp only [op_mk, wd_mk, tx_mk, af_mk, ps_mk] at *; obtain ⟨zn, hzn⟩ : ∃ n, n = zp.length := ⟨_, rfl⟩; have HZn := Lib.hid hzn; rw [← hzn]; have HB2 := Lib.hid (HB1.out.trans (hb2.mono HB1.out.size)); clear b2 q2 n2 f2 hzn))
          all_goals
            have hG9 := HSn.out _ rfl _ _ _ (by rw [HZn.out] at hown'; exact hown') hgrow hat
            rw [← HTk.out] at hG9
            have HG9 := Lib.hid (hG9.off (g := w.heap.size + 2) (o := 4) (by omega) (.slice vA' (j + 1) vc'))
            have hrow : ∀ b, b < w.heap.size + 3 → some b ≠ (Value.slice vA j vc).ownBlock := fun b hb e => by have := (hbig.out b e.symm).1; omega
            have HX9 := Lib.hid (((HX2.out.below (al _ (.cells #[.int .i64 zo, .string zw, .string zt, .string za, .slice A2 zn c2] 30))).grown hgrow (hrow _ (by omega))).off (g := w.heap.size + 2) (o := 4) (.slice vA' (j + 1) vc') (by omega))
            have HY9 := Lib.hid (((HY2.out.below (al _ (.cells #[.int .i64 zo, .string zw, .string zt, .string za, .slice A2 zn c2] 30))).grown hgrow (hrow _ (by omega))).off (g := w.heap.size + 2) (o := 4) (.slice vA' (j + 1) vc') (by omega))
            have HO10 := Lib.hid (HO9.out.set4 (.slice vA' (j + 1) vc'))
            have hB9 := ((HB2.out.alloc HB2.out.size (.cells #[.int .i64 zo, .string zw, .string zt, .string za, .slice A2 zn c2] 30)).grown hgrow (by have := HB2.out.size; simp; omega) (fun b hv => by have := (hbig.out b hv).1; omega)).setCell (p := ⟨w.heap.size + 2, 4, none⟩) (by simp) (.slice vA' (j + 1) vc')
            have HB9 := Lib.hid hB9
            have HS9 : Hid (w.heap.size + 3 ≤ (w9.setCell ⟨w.heap.size + 2, 4, none⟩ (.slice vA' (j + 1) vc')).heap.size) := Lib.hid (by
              have h1 := hgrow.size
              simp at h1 ⊢
              omega)
            clear hown' hgrow hat hG9 hB9 HX2 HY2 HO2 HO9 HSn HGj HB2 x42 o42 o42a hown2 p4 pf4 ps9 hx4d ho4d e0d e1d e2d e3d e4d e0 e1 e2 e3 e4 o4 hown hb2
            go_wp2_with fail
            go_roundw
            case rel => exact ⟨j + 1, vA', vc', by omega, by go_num, Lib.hid ⟨_, HG9.out⟩, HX9, HY9, HO10, HB9, HS9⟩
            case measure => simp [intOf]; omega
        · obtain rfl : j = n := by omega
          have htk : ps.take j = ps := List.take_of_length_le (by rw [← HN.out]; omega)
          rw [htk] at hG
          have hlen : (chS ff ps).length = ps.length := chS_len ff ps
          obtain ⟨F5, ho5, hn5, hB5⟩ := hG.own
          have HO5 := Lib.hid ho5
          have HN5 := Lib.hid hn5
          have HF5 := Lib.hid hB5
          have Hln : Hid ((chS ff ps).length = j) := Lib.hid (by rw [hlen, ← HN.out])
          have o0 := HO1.out.1.2 0 _ rfl
          have o1 := HO1.out.1.2 1 _ rfl
          have o2 := HO1.out.1.2 2 _ rfl
          have o3 := HO1.out.1.2 3 _ rfl
          have o4 := HO1.out.1.2 4 _ rfl
          have y0 := HY1.out.1.2 0 _ rfl
          have y1 := HY1.out.1.2 1 _ rfl
          have y2 := HY1.out.1.2 2 _ rfl
          have y3 := HY1.out.1.2 3 _ rfl
          have y4 := HY1.out.1.2 4 _ rfl
          have q0 := HY1.out.2 0
          have q1 := HY1.out.2 1
          have q2 := HY1.out.2 2
          have q3 := HY1.out.2 3
          have q4 := HY1.out.2 4
          have hsy := HY1.out.1.1
          clear hG ho5 hn5 hB5 htk hlen HG HX1 HY1 HO1
          go_wp2_with fail
          refine bodyPost_ret (v := ndV 4 wd tx af vA j vc) (by simp [results, Tryd.results20, go_sem, *]) rfl ?_
          rw [HEq.out, HFq.out]
          refine ⟨vA, vc, F5, by rw [← Hln.out]; rfl, ?_, HN5.out, fun b hb => by have := HF5.out b hb; omega, ?_⟩
          · have O2 := HO5.out
            have hF2 := HF5.out
            iterate 5 (refine own_off ?_ hF2 (by simp) _)
            exact O2
          · have B2 := HB1.out
            iterate 5 (refine Below.setCell ?_ (by simp) _)
            exact B2
    · have hq1 : (op == 1) = false := by rw [beq_eq_false_iff_ne]; exact ho1
      have hq4 : (op == 4) = false := by rw [beq_eq_false_iff_ne]; exact ho4
      clear HWq
      go_enter Tryd.func20, Tryd.ntmps20
      go_wp2_with fail
      generalize ((w.alloc _).alloc _).alloc _ = w0 at HB HX HY HO HS3 ⊢
      go_loopw [8] (fun i wr => ∃ (j : Nat) (vA : Option Addr) (vc : Nat), j ≤ n ∧ i = .int .i64 j ∧ Hid (∃ E, GrL d wr (W + 3) (.slice vA j vc) j (chS ff (ps.take j)) E) ∧ Hid (Bw wr W [.int .i64 op, .string wd, .string tx, .string af, .slice B n c]) ∧ Hid (Bw wr (W + 1) [.int .i64 0, .string ⟨#[]⟩, .string ⟨#[]⟩, .string ⟨#[]⟩, .slice none 0 0]) ∧ Hid (Bw wr (W + 2) [.int .i64 op, .string wd, .string tx, .string af, .slice vA j vc]) ∧ Hid (Below w.heap.size w wr) ∧ Hid (W + 3 ≤ wr.heap.size)) (fun i _ => n - (intOf i).toNat)
      case atStart => exact ⟨0, none, 0, Nat.zero_le _, rfl, Lib.hid ⟨[], by simpa [chS] using GrL.nil d _ (W + 3)⟩, HX, HY, HO, HB, HS3⟩
      case round =>
        obtain ⟨j, vA, vc, hj, rfl, HG, HX1, HY1, HO1, HB1, HS1⟩ := hrel
        have hWs := HW.out
        subst hWs
        obtain ⟨E, hG⟩ := HG.out
        have x4 := HX1.out.1.2 4 _ rfl
        by_cases hlt : j < n
        · have hjx : j < ps.length := by rw [← HN.out]; exact hlt
          have hx? := List.getElem?_eq_getElem hjx
          obtain ⟨d', g, o, C, cc, hd, rfl, hg, e0, e1, e2, e3, e4, hr⟩ := (HR.out.below HB1.out).get hx?
          have hzx := szS_mem hx?
          have hzm := HZs.out
          have HTk := Lib.hid (chS_take ff hx?)
          have hgm := HB1.out.size
          clear hx?
          generalize ps[j] = y at *
          have HYc := Lib.hid (HI.out d' hd y C cc wr.drew (hr.below (Below.refl _ _).drew) (by omega))
          rw [← hd] at HYc
          obtain ⟨z, hz⟩ : ∃ z, z = chT ff y := ⟨_, rfl⟩
          rw [← hz] at HYc HTk
          clear hr hzx hzm hd hz
          obtain ⟨yo, yw, yt, ya, yp⟩ := y
          simp only [op_mk, wd_mk, tx_mk, af_mk, ps_mk] at HYc e0 e1 e2 e3 e4
          generalize yp.length = yn at *
          have o4 := HO1.out.1.2 4 _ rfl
          have hS1 := HS1.out
          have hown := hG.1
          have HGj := Lib.hid hG
          have hbig := Lib.hid (fun b (hv : (Value.slice vA j vc).ownBlock = some b) => hG.big hv)
          have hx4d : wr.drew.cell? ⟨w.heap.size, 4, none⟩ = _ := x4
          have ho4d : wr.drew.cell? ⟨w.heap.size + 2, 4, none⟩ = some (.slice vA j vc) := o4
          have e0d : wr.drew.cell? ⟨g, o + j * 5, none⟩ = _ := e0
          have e1d : wr.drew.cell? ⟨g, o + j * 5 + 1, none⟩ = _ := e1
          have e2d : wr.drew.cell? ⟨g, o + j * 5 + 2, none⟩ = _ := e2
          have e3d : wr.drew.cell? ⟨g, o + j * 5 + 3, none⟩ = _ := e3
          have e4d : wr.drew.cell? ⟨g, o + j * 5 + 4, none⟩ = _ := e4
          clear hG HG
          go_wp2_with fail
          go_region_law (first
            | (refine Rr.step_append_own rfl (.tmp 42) (.tmp 51) 28 rfl (w.heap.size + 3) 30 i0 (.agg #[.int .i64 0, .string ByteArray.empty, .string ByteArray.empty, .string ByteArray.empty, .slice none 0 0]) 5 80 Tryd.underlying28 hi hz0 hz1 hz2 rfl (by decide) (.slice vA j vc) j (ecells E) rfl (hown2.alloc _) ⟨w2.heap.size, 0, none⟩ 1 1 [.int .i64 zo, .string zw, .string zt, .string za, .slice A2 zn c2] rfl rfl (five_new _ _ _ _ _ _ _) (by simp [Value.oneCell']) (by unfold maxLen; omega) (by omega) (by simp; omega) ?_; intro v' w9 hown' hgrow hat; obtain ⟨vA', vc', rfl⟩ := own_form hown'; have HO9 := Lib.hid ((HO2.out.below (al _ (.cells #[.int .i64 zo, .string zw, .string zt, .string za, .slice A2 zn c2] 30))).grown hgrow (fun e => by have := (hbig.out _ e.symm).1; omega)); have p4 := HO9.out.1.2 4 _ rfl; have pf4 := HO9.out.2 4; have ps9 := HO9.out.1.1)
            | (go_simp; go_at_call 20; refine HYc.out.mono ?_; rintro e w2 ⟨A2, c2, F2, rfl, q2, n2, f2, b2⟩; have hb2 : Below wr.heap.size wr w2 := (Below.refl wr.heap.size wr).drew.trans b2; have HX2 := Lib.hid (HX1.out.below hb2); have HY2 := Lib.hid (HY1.out.below hb2); have HO2 := Lib.hid (HO1.out.below hb2); have x42 := HX2.out.1.2 4 _ rfl; have o42 := HO2.out.1.2 4 _ rfl; have o42a : ∀ ob, (w2.alloc ob).cell? ⟨w.heap.size + 2, 4, none⟩ = some (.slice vA j vc) := fun ob => (HO2.out.below (al _ ob)).1.2 4 _ rfl; have hown2 := own_kept hown hb2; have hS2 := Nat.le_trans hS1 hb2.size; have HSn := Lib.hid (fun (x : Tr) (hx : x = z) v' (w9 : World) ob hown' hgrow hat => HGj.out.snoc (x := x) (A := A2) (c := c2) (F := F2) (o := ob) (v' := v') (w9 := w9) hb2 hS1 (by rw [hx]; exact q2) n2 f2 hown' hgrow hat); obtain ⟨zo, zw, zt, za, zp⟩ := z; simp only [op_mk, wd_mk, tx_mk, af_mk, ps_mk] at *; obtain ⟨zn, hzn⟩ : ∃ n, n = zp.length := ⟨_, rfl⟩; have HZn := Lib.hid hzn; rw [← hzn]; have HB2 := Lib.hid (HB1.out.trans (hb2.mono HB1.out.size)); clear b2 q2 n2 f2 hzn))
          all_goals
            have hG9 := HSn.out _ rfl _ _ _ (by rw [HZn.out] at hown'; exact hown') hgrow hat
            rw [← HTk.out] at hG9
            have HG9 := Lib.hid (hG9.off (g := w.heap.size + 2) (o := 4) (by omega) (.slice vA' (j + 1) vc'))
            have hrow : ∀ b, b < w.heap.size + 3 → some b ≠ (Value.slice vA j vc).ownBlock := fun b hb e => by have := (hbig.out b e.symm).1; omega
            have HX9 := Lib.hid (((HX2.out.below (al _ (.cells #[.int .i64 zo, .string zw, .string zt, .string za, .slice A2 zn c2] 30))).grown hgrow (hrow _ (by omega))).off (g := w.heap.size + 2) (o := 4) (.slice vA' (j + 1) vc') (by omega))
            have HY9 := Lib.hid (((HY2.out.below (al _ (.cells #[.int .i64 zo, .string zw, .string zt, .string za, .slice A2 zn c2] 30))).grown hgrow (hrow _ (by omega))).off (g := w.heap.size + 2) (o := 4) (.slice vA' (j + 1) vc') (by omega))
            have HO10 := Lib.hid (HO9.out.set4 (.slice vA' (j + 1) vc'))
            have hB9 := ((HB2.out.alloc HB2.out.size (.cells #[.int .i64 zo, .string zw, .string zt, .string za, .slice A2 zn c2] 30)).grown hgrow (by have := HB2.out.size; simp; omega) (fun b hv => by have := (hbig.out b hv).1; omega)).setCell (p := ⟨w.heap.size + 2, 4, none⟩) (by simp) (.slice vA' (j + 1) vc')
            have HB9 := Lib.hid hB9
            have HS9 : Hid (w.heap.size + 3 ≤ (w9.setCell ⟨w.heap.size + 2, 4, none⟩ (.slice vA' (j + 1) vc')).heap.size) := Lib.hid (by
              have h1 := hgrow.size
              simp at h1 ⊢
              omega)
            clear hown' hgrow hat hG9 hB9 HX2 HY2 HO2 HO9 HSn HGj HB2 x42 o42 o42a hown2 p4 pf4 ps9 hx4d ho4d e0d e1d e2d e3d e4d e0 e1 e2 e3 e4 o4 hown hb2
            go_wp2_with fail
            go_roundw
            case rel => exact ⟨j + 1, vA', vc', by omega, by go_num, Lib.hid ⟨_, HG9.out⟩, HX9, HY9, HO10, HB9, HS9⟩
            case measure => simp [intOf]; omega
        · obtain rfl : j = n := by omega
          have htk : ps.take j = ps := List.take_of_length_le (by rw [← HN.out]; omega)
          rw [htk] at hG
          have hlen : (chS ff ps).length = ps.length := chS_len ff ps
          obtain ⟨F5, ho5, hn5, hB5⟩ := hG.own
          have HO5 := Lib.hid ho5
          have HN5 := Lib.hid hn5
          have HF5 := Lib.hid hB5
          have Hln : Hid ((chS ff ps).length = j) := Lib.hid (by rw [hlen, ← HN.out])
          have o0 := HO1.out.1.2 0 _ rfl
          have o1 := HO1.out.1.2 1 _ rfl
          have o2 := HO1.out.1.2 2 _ rfl
          have o3 := HO1.out.1.2 3 _ rfl
          have o4 := HO1.out.1.2 4 _ rfl
          have y0 := HY1.out.1.2 0 _ rfl
          have y1 := HY1.out.1.2 1 _ rfl
          have y2 := HY1.out.1.2 2 _ rfl
          have y3 := HY1.out.1.2 3 _ rfl
          have y4 := HY1.out.1.2 4 _ rfl
          have q0 := HY1.out.2 0
          have q1 := HY1.out.2 1
          have q2 := HY1.out.2 2
          have q3 := HY1.out.2 3
          have q4 := HY1.out.2 4
          have hsy := HY1.out.1.1
          clear hG ho5 hn5 hB5 htk hlen HG HX1 HY1 HO1
          go_wp2_with fail
          refine bodyPost_ret (v := ndV op wd tx af vA j vc) (by simp [results, Tryd.results20, go_sem, *]) rfl ?_
          rw [HEq.out, HFq.out]
          refine ⟨vA, vc, F5, by rw [← Hln.out]; rfl, ?_, HN5.out, fun b hb => by have := HF5.out b hb; omega, ?_⟩
          · have O2 := HO5.out
            have hF2 := HF5.out
            iterate 5 (refine own_off ?_ hF2 (by simp) _)
            exact O2
          · have B2 := HB1.out
            iterate 5 (refine Below.setCell ?_ (by simp) _)
            exact B2
theorem sRp_all (d : Nat) : SRp d := by
  induction d with
  | zero => exact sRp_step 0 (fun d' h => by omega)
  | succ d ih => exact sRp_step (d + 1) (fun d' h => by have e : d' = d := (by omega); subst e; exact ih)
end Go.Proofs.YtldfdfdleaemaaaDoor.Nd
