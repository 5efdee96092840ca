/-
  Contract of nodeText at operation 1.
-/
import Derived.Test.YtdjlcjmaikdeiaaDoorNdXb
namespace Go.Proofs.YtdjlcjmaikdeiaaDoor.Nd
open Go.RowKit NdPl Ns
set_option linter.unusedSimpArgs false
set_option linter.unusedVariables false

set_option maxRecDepth 100000 in
set_option maxHeartbeats 8000000 in
theorem nt_1 (d : Nat) (ih : ∀ d', d = d' + 1 → NtT d') (wd tx af : ByteArray) (ps : List Tr) (B : Option Addr) (c k : Nat) (w : World) (hr : RdL d w B ps) (hz : szT (.mk 1 wd tx af ps) ≤ 1048576) (hok : okT k (.mk 1 wd tx af ps) = true) (hT : Tabs w) :
    Calls Tryd.prog 23 #[ndV 1 wd tx af B ps.length c] w fun e w' => e = .returned (.string (Pl.ba (tT (.mk 1 wd tx af ps)))) ∧ Below w.heap.size w w' := by
  obtain ⟨i0, hi, hz0, hz1, hz2⟩ := info_parts infoS
  have hOk : shB 1 wd tx af ps.length = true ∧ ∃ k', ps.all (okT k') = true := by
    cases k with
    | zero => cases hok
    | succ k' =>
      have h : (shB 1 wd tx af ps.length && ps.all (okT k')) = true := hok
      rw [Bool.and_eq_true] at h
      exact ⟨h.1, k', h.2⟩
  have hsh := hOk.1
  simp only [shB] at hsh
  simp at hsh
  have htl := (t_len (.mk 1 wd tx af ps))
  have hts := ts_len ps
  have hcs := (cnt_szS ps).1
  have hzs := szT_eq (.mk 1 wd tx af ps)
  simp only [op_mk, wd_mk, tx_mk, af_mk, ps_mk] at hzs
  have hwe : em wd = false := by
    cases he : em wd with
    | false => rfl
    | true =>
      obtain rfl := Kt.nil_str (s := wd) (by have := of_decide_eq_true (show decide (wd.size = 0) = true from he); omega)
      exact absurd hsh.1.1.1 (by decide)
  obtain ⟨w1e, w2e⟩ := em_forms wd
  rw [hwe] at w1e w2e
  obtain ⟨o, HO⟩ : ∃ o, Hid (o = Pl.ba (tT (.mk 1 wd tx af ps))) := ⟨_, Lib.hid rfl⟩
  rw [← HO.out]
  have HJ : Hid (Lib.join ((([wd] : List ByteArray) ++ txs ps).map (·.data.toList)) [32] = (wd).data.toList ++ Lib.joinTail [32] (([] : List ByteArray).map (·.data.toList)) ++ tS ps) := Lib.hid (join_pre [] wd ps)
  have hjl : (Lib.join ((([wd] : List ByteArray) ++ txs ps).map (·.data.toList)) [32]).length ≤ 100000000 := by
    rw [HJ.out]
    have h1 := sz_list wd; have h2 := sz_list tx; have h3 := sz_list af
    simp [Lib.joinTail, cat_list] at *
    omega
  obtain ⟨J, hJ⟩ : ∃ J, J = Pl.ba (Lib.join ((([wd] : List ByteArray) ++ txs ps).map (·.data.toList)) [32]) := ⟨_, rfl⟩
  have hJs : J.size ≤ 100000000 := by rw [hJ, Pl.ba_size]; exact hjl
  have HJt : Hid (J.data.toList = Lib.join ((([wd] : List ByteArray) ++ txs ps).map (·.data.toList)) [32]) := Lib.hid (by rw [hJ, Pl.toList_ba])
  have HJb := Lib.hid hJ
  have hp0 : ps = [] := (by first | exact hsh.2 | (have h9 := hsh.2; exact List.eq_nil_of_length_eq_zero (by omega)))
  have HF : Hid (o = J) := Lib.hid (by rw [HO.out, hJ, HJ.out, hp0]; simp [tT, tS, Lib.joinTail])
  clear hp0
  have g0 : w.cell? ⟨0, 7, none⟩ = some (.string ⟨#[]⟩) := hT.1.2 7 _ rfl
  have g1 : w.cell? ⟨0, 8, none⟩ = some (.bool true) := hT.1.2 8 _ rfl
  have g2 : w.cell? ⟨0, 9, none⟩ = some (.bool false) := hT.1.2 9 _ rfl
  have g3 : w.cell? ⟨0, 10, none⟩ = some (.bool false) := hT.1.2 10 _ rfl
  have g4 : w.cell? ⟨0, 11, none⟩ = some (.bool false) := hT.1.2 11 _ rfl
  have g5 : w.cell? ⟨0, 12, none⟩ = some (.int .i64 0) := hT.1.2 12 _ rfl
  have g6 : w.cell? ⟨0, 13, none⟩ = some (.int .i64 0) := hT.1.2 13 _ rfl
  have hg := hT.1.1
  have HTb := Lib.hid (fun w1 (h : Below w.heap.size w w1) => hT.below h)
  have HR := Lib.hid hr
  have HI := Lib.hid ih
  have HOk := Lib.hid hOk.2
  have HZs : Hid (szS ps ≤ 1048576) := Lib.hid (by omega)
  have hm : ps.length ≤ 1048576 := by omega
  have hwz : wd.size ≤ 1048576 := by omega
  have htz : tx.size ≤ 1048576 := by omega
  have haz : af.size ≤ 1048576 := by omega
  obtain ⟨n, hn⟩ : ∃ n, n = ps.length := ⟨_, rfl⟩
  rw [← hn] at hm ⊢
  have HN := Lib.hid hn
  have HB := Lib.hid (((al w (.cells #[.int .i64 1, .string wd, .string tx, .string af, .slice B n c] 32)).alloc (by simp) (.cells #[.string ⟨#[]⟩, .bool true, .bool false, .bool false, .bool false, .int .i64 0, .int .i64 0] 65)).alloc (by simp <;> omega) (.cells #[] 9))
  have HX := Lib.hid (((Bx.new w #[.int .i64 1, .string wd, .string tx, .string af, .slice B n c] 32).below (al _ (.cells #[.string ⟨#[]⟩, .bool true, .bool false, .bool false, .bool false, .int .i64 0, .int .i64 0] 65))).below (al _ (.cells #[] 9)))
  have HY := Lib.hid ((Bx.new (w.alloc (.cells #[.int .i64 1, .string wd, .string tx, .string af, .slice B n c] 32)) #[.string ⟨#[]⟩, .bool true, .bool false, .bool false, .bool false, .int .i64 0, .int .i64 0] 65).below (al _ (.cells #[] 9)))
  rw [show (w.alloc (.cells #[.int .i64 1, .string wd, .string tx, .string af, .slice B n c] 32)).heap.size = w.heap.size + 1 by simp] at HY
  have hrow := World.ownsRow_lit (base := w.heap.size + 2) (e := 9) (size := 1) ((w.alloc (.cells #[.int .i64 1, .string wd, .string tx, .string af, .slice B n c] 32)).alloc (.cells #[.string ⟨#[]⟩, .bool true, .bool false, .bool false, .bool false, .int .i64 0, .int .i64 0] 65)) #[] 0 (by simp) (Nat.zero_le _) rfl
  rw [show ((w.alloc (.cells #[.int .i64 1, .string wd, .string tx, .string af, .slice B n c] 32)).alloc (.cells #[.string ⟨#[]⟩, .bool true, .bool false, .bool false, .bool false, .int .i64 0, .int .i64 0] 65)).heap.size = w.heap.size + 2 by simp] at hrow
  have HW : Hid (Rw (((w.alloc (.cells #[.int .i64 1, .string wd, .string tx, .string af, .slice B n c] 32)).alloc (.cells #[.string ⟨#[]⟩, .bool true, .bool false, .bool false, .bool false, .int .i64 0, .int .i64 0] 65)).alloc (.cells #[] 9)) (w.heap.size + 2) (.slice (some ⟨w.heap.size + 2, 0, none⟩) 0 0) 0 []) := Lib.hid ⟨hrow, rfl⟩
  have HS : Hid (w.heap.size + 2 ≤ (((w.alloc (.cells #[.int .i64 1, .string wd, .string tx, .string af, .slice B n c] 32)).alloc (.cells #[.string ⟨#[]⟩, .bool true, .bool false, .bool false, .bool false, .int .i64 0, .int .i64 0] 65)).alloc (.cells #[] 9)).heap.size) := Lib.hid (by simp <;> omega)
  clear hr hz hok hT ih hOk hsh htl hts hcs hzs hwe hjl hJ hn HO HJ HJt hrow
  go_enter Tryd.func23, Tryd.ntmps23
  have HQt := Lib.hid (fun w => quote_i tx w htz)
  have HQa := Lib.hid (fun w => quote_i af w haz)
  go_upto_region 3 with fail
  generalize ((w.alloc _).alloc _).alloc _ = w3 at HB HX HY HW HS ⊢
  have HB3 := HB
  have HX3 := HX
  have HY3 := HY
  have HW3 := HW
  have HS3 := HS
  clear HB HX HY HW HS
  have z03 := HX3.out.2 1 _ rfl
  have z23 := HX3.out.2 2 _ rfl
  have z33 := HX3.out.2 3 _ rfl
  have z43 := HX3.out.2 4 _ rfl
  have y33 := HY3.out.2 3 _ rfl
  have y43 := HY3.out.2 4 _ rfl
  go_wp2_with (first | (at_builtin; refine wpList_append_own _ rfl _ _ 38 rfl (w.heap.size + 2) 9 i0 (.string ByteArray.empty) 1 16 Tryd.underlying38 hi hz0 hz1 hz2 rfl (by decide) _ _ _ rfl (HW3.out.1.alloc _) ⟨w3.heap.size, 0, none⟩ 1 1 [.string wd] rfl rfl (cell_one _ _ _) (by simp [Value.oneCell']) (by unfold maxLen; omega) (by omega) (by have := HS3.out; simp; omega) ?_; intro v4 w4 o4 k4 _; have HW4 : Hid (Rw w4 (w.heap.size + 2) v4 (0 + 1) (([] : List ByteArray) ++ [wd])) := Lib.hid ⟨by rw [List.map_append]; exact o4, by rw [List.length_append, HW3.out.2]; rfl⟩; have hne4 : ∀ b, b < w.heap.size + 2 → some b ≠ (Value.slice (some ⟨w.heap.size + 2, 0, none⟩) 0 0).ownBlock := fun b hb e => (by have := HW3.out.big e.symm; omega); have HX4 := Lib.hid (bx_grown (HX3.out.below (al _ (.cells #[.string wd] 9))) k4 (hne4 _ (by omega))); have HY4 := Lib.hid (bx_grown (HY3.out.below (al _ (.cells #[.string wd] 9))) k4 (hne4 _ (by omega))); have HB4 := Lib.hid ((HB3.out.alloc HB3.out.size (.cells #[.string wd] 9)).grown k4 (by have := HB3.out.size; simp <;> omega) (fun b hv => (by have := HW3.out.big hv; omega))); have HS4 : Hid (w.heap.size + 2 ≤ w4.heap.size) := Lib.hid (by have h1 := k4.size; have h2 := HS3.out; simp at h1; omega); obtain ⟨vA4, vc4, rfl⟩ := HW4.out.form; have z04 := HX4.out.2 1 _ rfl; have z24 := HX4.out.2 2 _ rfl; have z34 := HX4.out.2 3 _ rfl; have z44 := HX4.out.2 4 _ rfl; have y34 := HY4.out.2 3 _ rfl; have y44 := HY4.out.2 4 _ rfl; clear hne4 o4 k4))
  clear HW3 HX3 HY3 HB3 HS3 z03 z23 z33 z43 y33 y43
  clear z04 z24 z34 z44 y34 y44
  have hst : Rw w4 (w.heap.size + 2) (Value.slice vA4 (0 + 1) vc4) (1 + 0) (([wd] : List ByteArray) ++ txs (ps.take 0)) := by
    have h := HW4.out
    simpa [txs] using h
  have HWs := Lib.hid hst
  clear hst HW4 HX4
  go_loopw [4, 40] (fun v i wr => ∃ (j : Nat) (vA : Option Addr) (vc : Nat), j ≤ n ∧ i = .int .i64 j ∧ v = .slice vA (1 + j) vc ∧ Hid (Rw wr (w.heap.size + 2) (.slice vA (1 + j) vc) (1 + j) (([wd] : List ByteArray) ++ txs (ps.take j))) ∧ Hid (Bx wr (w.heap.size + 1) [.string ⟨#[]⟩, .bool true, .bool false, .bool false, .bool false, .int .i64 0, .int .i64 0]) ∧ Hid (Below w.heap.size w wr) ∧ Hid (w.heap.size + 2 ≤ wr.heap.size)) (fun _ i _ => n - (intOf i).toNat)
  case atStart => exact ⟨0, _, _, Nat.zero_le _, rfl, rfl, HWs, HY4, HB4, HS4⟩
  case round =>
    obtain ⟨j, vA, vc, hj, rfl, rfl, HW1, HY1, HB1, HS1⟩ := hrel
    by_cases hlt : j < n
    · have hjx : j < ps.length := by rw [← HN.out]; exact hlt
      have hx? := List.getElem?_eq_getElem hjx
      obtain ⟨d', g, o', C, cc, hd, rfl, hg', e0, e1, e2, e3, e4, hr⟩ := (HR.out.below HB1.out).get hx?
      obtain ⟨k', hk'⟩ := HOk.out
      have hoky := List.all_eq_true.1 hk' _ (List.getElem_mem hjx)
      have hzx := szS_mem hx?
      have hzm := HZs.out
      have HTk := Lib.hid (txs_take hx?)
      clear hx? hk'
      generalize ps[j] = y at *
      have HYc := Lib.hid (fun ob => HI.out d' hd y C cc k' (wr.alloc ob) (hr.below (al _ ob)) (by omega) hoky (HTb.out _ (HB1.out.alloc HB1.out.size ob)))
      obtain ⟨T, hTq⟩ : ∃ T, T = Pl.ba (tT y) := ⟨_, rfl⟩
      rw [← hTq] at HYc HTk
      clear hr hzx hzm hd hoky hTq
      obtain ⟨yo, yw, yt, ya, yp⟩ := y
      simp only [op_mk, wd_mk, tx_mk, af_mk, ps_mk] at HYc e0 e1 e2 e3 e4
      generalize yp.length = yn at *
      go_wp2_with fail
      refine (HYc.out _).mono ?_
      rintro e w5 ⟨rfl, b5⟩
      have hb5 := (al wr _).trans (b5.mono (by simp))
      have HW5 := Lib.hid (HW1.out.below hb5)
      have HY5 := Lib.hid (HY1.out.below hb5)
      have HB5 := Lib.hid (HB1.out.trans (hb5.mono HB1.out.size))
      have HS5 := Lib.hid (Nat.le_trans HS1.out hb5.size)
      clear b5 hb5 HW1 HY1 HB1 HS1 HYc
      go_wp2_with (first | (at_builtin; refine wpList_append_own _ rfl _ _ 38 rfl (w.heap.size + 2) 9 i0 (.string ByteArray.empty) 1 16 Tryd.underlying38 hi hz0 hz1 hz2 rfl (by decide) _ _ _ rfl (HW5.out.1.alloc _) ⟨w5.heap.size, 0, none⟩ 1 1 [.string T] rfl rfl (cell_one _ _ _) (by simp [Value.oneCell']) (by unfold maxLen; omega) (by omega) (by have := HS5.out; simp; omega) ?_; intro v6 w6 o6 k6 _) | go_in)
      have hR6 : Rw w6 (w.heap.size + 2) v6 (1 + (j + 1)) (([wd] : List ByteArray) ++ txs (ps.take (j + 1))) := ⟨by rw [HTk.out, ← List.append_assoc, List.map_append]; exact o6, by rw [HTk.out, ← List.append_assoc, List.length_append, HW5.out.2]; rfl⟩
      obtain ⟨vA6, vc6, rfl⟩ := hR6.form
      have hne : ∀ b, b < w.heap.size + 2 → some b ≠ (Value.slice vA (1 + j) vc).ownBlock := fun b hb e => (by have := HW5.out.big e.symm; omega)
      have HR6 := Lib.hid hR6
      have HY6 := Lib.hid (bx_grown (HY5.out.below (al _ (.cells #[.string T] 9))) k6 (hne _ (by omega)))
      have HB6 := Lib.hid ((HB5.out.alloc HB5.out.size (.cells #[.string T] 9)).grown k6 (by have := HB5.out.size; simp <;> omega) (fun b hv => (by have := HW5.out.big hv; omega)))
      have HS6 : Hid (w.heap.size + 2 ≤ w6.heap.size) := Lib.hid (by have h1 := k6.size; have h2 := HS5.out; simp at h1; omega)
      clear o6 k6 hne hR6 HW5 HY5 HB5 HS5
      go_roundw
      case rel => exact ⟨j + 1, vA6, vc6, by omega, by go_num, rfl, HR6, HY6, HB6, HS6⟩
      case measure => simp [intOf]; omega
    · obtain rfl : j = n := by omega
      have htk : ps.take j = ps := List.take_of_length_le (by rw [← HN.out]; omega)
      have hW1 := HW1.out
      rw [htk] at hW1
      have HJn := Lib.hid (join_row hW1 (by have h1 := sz_list J; rw [HJb.out, Pl.toList_ba] at h1; rw [h1, ← HJb.out]; omega) (by omega))
      rw [← HJb.out] at HJn
      clear hW1 htk HW1
      go_wp2_with fail
      refine HJn.out.mono ?_
      rintro e w7 ⟨rfl, b7⟩
      have y0 := (HY1.out.below b7).2 0 _ rfl
      have HB7 := Lib.hid (HB1.out.trans (b7.mono HB1.out.size))
      clear b7 HJn HY1 HB1
      go_wp2_with fail
      go_ret
      exact ⟨by rw [HF.out]; rfl, HB7.out⟩
end Go.Proofs.YtdjlcjmaikdeiaaDoor.Nd
