/-
  The fields of a node: contract of fieldsOf of the program.
-/
import Derived.Test.YtbibjcmfgpmddaaDoorFuPl
import Derived.Test.YtbibjcmfgpmddaaDoorNdG3
import Derived.Maps.AppendAt
import Derived.Deep.DeepCutAuto
namespace Go.Proofs.YtbibjcmfgpmddaaDoor.Nd
open Go.RowKit NdPl Ns LaidS FuPl
set_option linter.unusedSimpArgs false
set_option linter.unusedVariables false

def fw (o : Int) (a : ByteArray) : List Wd := if o = 1 ∨ o = 4 then [a.data.toList] else []
mutual
/-- the fields of a node, each as often as it occurs -/
def uwT : Tr → List Wd
  | .mk o a _ _ l => fw o a ++ uwS l
def uwS : List Tr → List Wd
  | [] => []
  | x :: r => uwT x ++ uwS r
end
theorem uwT_eq (x : Tr) : uwT x = fw x.op x.wd ++ uwS x.ps := by cases x; rfl
theorem uwS_app (A B : List Tr) : uwS (A ++ B) = uwS A ++ uwS B := by
  induction A with
  | nil => simp [uwS]
  | cons x r ih => simp [uwS, ih]
theorem uwS_take {L : List Tr} {j : Nat} {x : Tr} (h : L[j]? = some x) : uwS (L.take (j + 1)) = uwS (L.take j) ++ uwT x := by
  rw [List.take_add_one, h, uwS_app]; simp [uwS]
theorem fw_len (o : Int) (a : ByteArray) : (fw o a).length ≤ 1 := by unfold fw; split <;> simp
mutual
theorem uwT_len : ∀ x : Tr, (uwT x).length ≤ 1 + szT x
  | .mk o a b c l => by
    have h1 := uwS_len l
    have h2 := fw_len o a
    have e1 : uwT (.mk o a b c l) = fw o a ++ uwS l := rfl
    have e2 : szT (.mk o a b c l) = a.size + b.size + c.size + (l.length + szS l) := rfl
    rw [e1, e2, List.length_append]
    omega
theorem uwS_len : ∀ L : List Tr, (uwS L).length ≤ L.length + szS L
  | [] => by simp [uwS]
  | x :: r => by
    have h1 := uwT_len x
    have h2 := uwS_len r
    have e1 : uwS (x :: r) = uwT x ++ uwS r := rfl
    have e2 : szS (x :: r) = szT x + szS r := rfl
    rw [e1, e2, List.length_append, List.length_cons]
    omega
end
theorem enc_wd (a : ByteArray) : encStr a.data.toList = .string a := rfl
theorem field_at {w : World} {o : Nat} (h1 : 1 ≤ o) (h9 : o ≤ 9) (h : FormTab w) : w.cell? ⟨0, o * 7 + 1, none⟩ = some (.bool (decide (o = 1 ∨ o = 4))) := by
  rcases (show o = 1 ∨ o = 2 ∨ o = 3 ∨ o = 4 ∨ o = 5 ∨ o = 6 ∨ o = 7 ∨ o = 8 ∨ o = 9 by omega) with rfl | rfl | rfl | rfl | rfl | rfl | rfl | rfl | rfl
  all_goals exact h.2 _ _ rfl
theorem ok_op {k : Nat} {x : Tr} (h : okT k x = true) : 1 ≤ x.op ∧ x.op ≤ 9 ∧ ∃ k', ∀ y ∈ x.ps, okT k' y = true := by
  cases k with
  | zero => cases h
  | succ k =>
    have h' : (shB x.op x.wd x.tx x.af x.ps.length && x.ps.all (okT k)) = true := h
    rw [Bool.and_eq_true] at h'
    have h1 := h'.1
    unfold shB at h1
    refine ⟨?_, ?_, k, List.all_eq_true.1 h'.2⟩ <;> (repeat' split at h1) <;> first | omega | cases h1
theorem one_new (w : World) (x : Value) (t : TypeId) : ∀ (j : Nat) (u : Value), [x][j]? = some u → (w.alloc (.cells #[x] t)).cell? ((⟨w.heap.size, 0, none⟩ : Addr).add j) = some u := by
  intro j u hu
  match j, hu with
  | 0, hu => cases hu; rw [Go.WideShapes.add_plain]; simp
  | j + 1, hu => simp at hu
theorem own_cells1 {w : World} {base : Nat} {e : TypeId} {g n c : Nat} {xs : List Value} (h : w.ownsRow base e 1 (.slice (some ⟨g, 0, none⟩) n c) n xs) : ∀ (j : Nat) (u : Value), xs[j]? = some u → w.cell? ((⟨g, 0, none⟩ : Addr).add j) = some u := by
  intro j u hu
  have hj : j < n := by
    have h1 := (List.getElem?_eq_some_iff.1 hu).1
    have h2 := h.1
    omega
  rw [Go.WideShapes.add_plain, Nat.zero_add, World.ownsRow.cellAt h j (by omega)]
  exact hu
theorem enc_one (W : List Wd) : ∀ u ∈ W.map encStr, u.oneCell' = true := by
  intro u hu
  obtain ⟨x, _, rfl⟩ := List.mem_map.1 hu
  rfl
theorem form1 {w : World} {base : Nat} {e : TypeId} {size n : Nat} {v : Value} {xs : List Value} (h : w.ownsRow base e size v n xs) (hv : v ≠ .slice none 0 0) : ∃ g c, v = .slice (some ⟨g, 0, none⟩) n c := by
  rcases h.2 with ⟨h0, _⟩ | ⟨g, cap, cur, rfl, _⟩
  · exact absurd h0 hv
  · exact ⟨g, cap, rfl⟩
/-- what fieldsOf leaves -/
def FuPost (w : World) (W : List Wd) (e : Ending) (w' : World) : Prop := ∃ g c, e = .returned (.slice (some ⟨g, 0, none⟩) W.length c) ∧ w'.ownsRow w.heap.size 9 1 (.slice (some ⟨g, 0, none⟩) W.length c) W.length (W.map encStr) ∧ Below w.heap.size w w'
def FuT (d : Nat) : Prop := ∀ (x : Tr) (B : Option Addr) (c : Nat) (w : World), Tabs w → RdL d w B x.ps → (∃ k, okT k x = true) → szT x ≤ 1048576 →
  Calls Tryd.prog 18 #[ndV x.op x.wd x.tx x.af B x.ps.length c] w (FuPost w (uwT x))
set_option maxRecDepth 100000 in
set_option maxHeartbeats 4000000 in
theorem fu_step (d : Nat) (ih : ∀ d', d = d' + 1 → FuT d') : FuT d := by
  obtain ⟨i0, hi, hz0, hz1, hz2⟩ := info_parts infoS
  intro x B c w ht hr ⟨k, hk⟩ hz
  obtain ⟨h1, h9, k', hk'⟩ := ok_op hk
  have hzs := szT_eq x
  have hul := uwS_len x.ps
  have HI := Lib.hid ih
  have HQ := Lib.hid (uwT_eq x)
  obtain ⟨W, HW⟩ : ∃ W, Hid (W = uwT x) := ⟨_, Lib.hid rfl⟩
  rw [← HW.out] at HQ ⊢
  obtain ⟨op, wd, tx, af, ps⟩ := x
  simp only [Tr.op, Tr.wd, Tr.tx, Tr.af, Tr.ps] at *
  obtain ⟨o, rfl⟩ := Int.eq_ofNat_of_zero_le (show 0 ≤ op by omega)
  have HX := Lib.hid (Bx.new w #[.int .i64 (o : Int), .string wd, .string tx, .string af, .slice B ps.length c] 33)
  have HB := Lib.hid (box_below w (.cells #[.int .i64 (o : Int), .string wd, .string tx, .string af, .slice B ps.length c] 33))
  have HR := Lib.hid hr
  have HT := Lib.hid ht
  have HK := Lib.hid hk'
  have HZs : Hid (szS ps ≤ 1048576 ∧ ps.length + szS ps ≤ 1048576) := Lib.hid (by omega)
  have hm : ps.length ≤ 1048576 := by omega
  obtain ⟨n, hn⟩ : ∃ n, n = ps.length := ⟨_, rfl⟩
  rw [← hn] at HB HX hm ⊢
  have HN := Lib.hid hn
  have ho1 : 1 ≤ o := by omega
  have ho9 : o ≤ 9 := by omega
  clear hr hz hzs hn ih ht hk' hk h1 h9
  go_enter Tryd.func18, Tryd.ntmps18
  go_upto_region 2 with fail
  generalize hw0 : w.alloc (.cells #[.int .i64 (o : Int), .string wd, .string tx, .string af, .slice B n c] 33) = w0 at HB HX ⊢
  have hb0 : w0.heap.size = w.heap.size + 1 := by rw [← hw0]; simp
  have HO1 := Lib.hid (World.ownsRow_lit (base := w.heap.size) (e := 9) (size := 1) w0 #[] 0 (by omega) (by decide) (by simp))
  rw [hb0] at HO1
  have HX1 := Lib.hid (HX.out.below (box_below w0 (.cells #[] 9)))
  have HB1 := Lib.hid (HB.out.trans ((box_below w0 (.cells #[] 9)).mono HB.out.size))
  generalize hw1 : w0.alloc (.cells #[] 9) = w1 at HO1 HX1 HB1 ⊢
  have hg1 : w.heap.size + 1 < w1.heap.size := by rw [← hw1, ← hb0]; simp
  clear hw0 hw1 HX HB hb0
  have x0 := HX1.out.2 0 _ rfl
  have hfc := field_at ho1 ho9 (HT.out.below HB1.out).1
  have hoi0 : (0 : Int) ≤ (o : Int) := Int.natCast_nonneg _
  have hoi1 : (o : Int) < 10 := by omega
  have hoi2 : o < 10 := by omega
  by_cases hf : o = 1 ∨ o = 4
  · rw [decide_eq_true hf] at hfc
    have HF : Hid (fw (o : Int) wd = [wd.data.toList]) := Lib.hid (if_pos (by omega))
    have x1 := HX1.out.2 1 _ rfl
    clear hf
    go_upto_region 3 with fail
    have hB2 := box_below w1 (.cells #[.string wd] 9)
    have hX2 := HX1.out.below hB2
    have hzB := HB1.out.size
    go_wp2_with (first
      | (at_builtin; refine wpList_append_own _ rfl _ _ 28 rfl w.heap.size 9 i0 (.string ByteArray.empty) 1 16 Tryd.underlying28 hi hz0 hz1 hz2 rfl (by decide) _ _ _ rfl (HO1.out.alloc _) ⟨w1.heap.size, 0, none⟩ 1 1 [.string wd] rfl rfl (one_new _ _ _) (by simp [Value.oneCell']) (by unfold maxLen; omega) (by omega) (by simp; omega) ?_; intro v' w9 hown' hgrow hne; obtain ⟨g7, c7, rfl⟩ := form1 hown' (fun e => by have h9 := (hne.1 e).1; cases h9); have x4 := (World.cell?_of_block (a := ⟨w.heap.size, 4, none⟩) (hgrow.block w.heap.size (by simp; omega) (fun e => by have e2 : some w.heap.size = some (w.heap.size + 1) := e; simp at e2))).trans (hX2.2 4 _ rfl); have HB9 := Lib.hid (Below.grown (HB1.out.trans (hB2.mono HB1.out.size)) hgrow (by simp; omega) (fun q hq => (HO1.out.lt q hq).1)); have HO9 := Lib.hid (show w9.ownsRow w.heap.size 9 1 (.slice (some ⟨g7, 0, none⟩) 1 c7) 1 ([wd.data.toList].map encStr) from hown')) | fail)
    go_loopw [3, 20] (fun v i wr => ∃ (j g3 c3 : Nat), j ≤ n ∧ i = .int .i64 j ∧ v = .slice (some ⟨g3, 0, none⟩) ([wd.data.toList] ++ uwS (ps.take j)).length c3 ∧ Hid (wr.ownsRow w.heap.size 9 1 (.slice (some ⟨g3, 0, none⟩) ([wd.data.toList] ++ uwS (ps.take j)).length c3) ([wd.data.toList] ++ uwS (ps.take j)).length (([wd.data.toList] ++ uwS (ps.take j)).map encStr)) ∧ Below w.heap.size w wr) (fun _ i _ => n - (intOf i).toNat)
    case atStart => exact ⟨0, g7, c7, Nat.zero_le _, rfl, rfl, Lib.hid (by first | exact HO9.out | simpa [uwS] using HO9.out), HB9.out⟩
    case round =>
      obtain ⟨j, g3, c3, hj, rfl, rfl, HO, hb⟩ := hrel
      by_cases hlt : j < n
      · have hjx : j < ps.length := by rw [← HN.out]; exact hlt
        have hx? := List.getElem?_eq_getElem hjx
        obtain ⟨d', g, o', C, cc, hd, rfl, hg, e0, e1, e2, e3, e4, hr⟩ := (HR.out.below hb).get hx?
        have HTk := Lib.hid (uwS_take hx?)
        have hzx := szS_mem hx?
        have hzm := HZs.out
        have hul2 := uwS_len (ps.take (j + 1))
        have hsl := szS_le ps (j + 1)
        have htl : (ps.take (j + 1)).length ≤ ps.length := by rw [List.length_take]; omega
        have HKy := Lib.hid (HK.out _ (List.getElem_mem hjx))
        clear hx?
        generalize ps[j] = y at *
        obtain ⟨op', wd', tx', af', ps'⟩ := y
        simp only [Tr.op, Tr.wd, Tr.tx, Tr.af, Tr.ps] at e0 e1 e2 e3 e4 hr
        have B5 := box_below wr (.cells #[.int .i64 op', .string wd', .string tx', .string af', .slice C ps'.length cc] 33)
        have HY := Lib.hid (HI.out d' hd (.mk op' wd' tx' af' ps') C cc _ (HT.out.below (hb.trans (B5.mono hb.size))) (hr.below B5) ⟨k', HKy.out⟩ (by omega))
        have HO5 := Lib.hid (own_kept HO.out B5)
        have hb5 := hb.trans (B5.mono hb.size)
        have hUl : (uwS (ps.take j)).length + (uwT (.mk op' wd' tx' af' ps')).length ≤ 1048576 := by
          have h9 := HTk.out
          have h8 := congrArg List.length h9
          rw [List.length_append] at h8
          omega
        generalize uwT (.mk op' wd' tx' af' ps') = U at *
        generalize uwS (ps.take j) = S at *
        clear hr hzx hzm hd hul2 hsl htl B5 HO hb HKy
        simp only [Tr.op, Tr.wd, Tr.tx, Tr.af, Tr.ps] at HY
        go_wp2_with fail
        generalize hw5 : wr.alloc _ = w5 at HY HO5 hb5 ⊢
        refine HY.out.mono ?_
        rintro e w6 ⟨g6, c6, rfl, ho6, b6⟩
        have HO6 := Lib.hid (own_kept HO5.out b6)
        have hb6 := hb5.trans (b6.mono hb5.size)
        have hN6 := Lib.hid (own_cells1 ho6)
        have hz6 := hb6.size
        have hpl : ([wd.data.toList]).length ≤ 1 := by simp
        have hall : ([wd.data.toList] ++ S).length + U.length ≤ 1048577 := by rw [List.length_append]; omega
        clear hw5 HY HO5 hb5 b6 ho6 e0 e1 e2 e3 e4
        generalize hP : [wd.data.toList] ++ S = P at *
        go_wp2_with (first
          | (at_builtin; refine wpList_append_own _ rfl _ _ 28 rfl w.heap.size 9 i0 (.string ByteArray.empty) 1 16 Tryd.underlying28 hi hz0 hz1 hz2 rfl (by decide) _ _ _ rfl HO6.out ⟨g6, 0, none⟩ U.length c6 (U.map encStr) rfl (by simp) hN6.out (enc_one U) (by unfold maxLen; omega) (by omega) (by omega) ?_; intro v' w9 hown' hgrow hne; obtain ⟨g7, c7, rfl⟩ := form1 hown' (fun e => by have h9 := (hne.1 e).1; cases h9)))
        go_roundw
        case rel =>
          have hP2 : [wd.data.toList] ++ uwS (ps.take (j + 1)) = P ++ U := by rw [HTk.out, ← List.append_assoc, hP]
          refine ⟨j + 1, g7, c7, by omega, by go_num, ?_, Lib.hid ?_, ?_⟩
          · rw [hP2, List.length_append]
          · rw [hP2, List.length_append, List.map_append]
            exact hown'
          · exact hb6.grown hgrow (by omega) (fun q hq => (HO6.out.lt q hq).1)
        case measure => simp [intOf]; omega
      · have hE : uwS (ps.take j) = uwS ps := by rw [List.take_of_length_le (by have := HN.out; omega)]
        have hW : [wd.data.toList] ++ uwS (ps.take j) = W := by rw [hE, HQ.out]; rw [HF.out]
        go_wp2_with fail
        go_ret
        rw [hW] at HO
        rw [hW]
        exact ⟨g3, c3, rfl, HO.out, hb⟩
  · rw [decide_eq_false hf] at hfc
    have HF : Hid (fw (o : Int) wd = []) := Lib.hid (if_neg (by omega))
    have x4 := HX1.out.2 4 _ rfl
    clear hf
    go_wp2_with fail
    go_loopw [3, 20] (fun v i wr => ∃ (j g3 c3 : Nat), j ≤ n ∧ i = .int .i64 j ∧ v = .slice (some ⟨g3, 0, none⟩) (([] : List Wd) ++ uwS (ps.take j)).length c3 ∧ Hid (wr.ownsRow w.heap.size 9 1 (.slice (some ⟨g3, 0, none⟩) (([] : List Wd) ++ uwS (ps.take j)).length c3) (([] : List Wd) ++ uwS (ps.take j)).length ((([] : List Wd) ++ uwS (ps.take j)).map encStr)) ∧ Below w.heap.size w wr) (fun _ i _ => n - (intOf i).toNat)
    case atStart => exact ⟨0, w.heap.size + 1, 0, Nat.zero_le _, rfl, rfl, Lib.hid (by first | exact HO1.out | simpa [uwS] using HO1.out), HB1.out⟩
    case round =>
      obtain ⟨j, g3, c3, hj, rfl, rfl, HO, hb⟩ := hrel
      by_cases hlt : j < n
      · have hjx : j < ps.length := by rw [← HN.out]; exact hlt
        have hx? := List.getElem?_eq_getElem hjx
        obtain ⟨d', g, o', C, cc, hd, rfl, hg, e0, e1, e2, e3, e4, hr⟩ := (HR.out.below hb).get hx?
        have HTk := Lib.hid (uwS_take hx?)
        have hzx := szS_mem hx?
        have hzm := HZs.out
        have hul2 := uwS_len (ps.take (j + 1))
        have hsl := szS_le ps (j + 1)
        have htl : (ps.take (j + 1)).length ≤ ps.length := by rw [List.length_take]; omega
        have HKy := Lib.hid (HK.out _ (List.getElem_mem hjx))
        clear hx?
        generalize ps[j] = y at *
        obtain ⟨op', wd', tx', af', ps'⟩ := y
        simp only [Tr.op, Tr.wd, Tr.tx, Tr.af, Tr.ps] at e0 e1 e2 e3 e4 hr
        have B5 := box_below wr (.cells #[.int .i64 op', .string wd', .string tx', .string af', .slice C ps'.length cc] 33)
        have HY := Lib.hid (HI.out d' hd (.mk op' wd' tx' af' ps') C cc _ (HT.out.below (hb.trans (B5.mono hb.size))) (hr.below B5) ⟨k', HKy.out⟩ (by omega))
        have HO5 := Lib.hid (own_kept HO.out B5)
        have hb5 := hb.trans (B5.mono hb.size)
        have hUl : (uwS (ps.take j)).length + (uwT (.mk op' wd' tx' af' ps')).length ≤ 1048576 := by
          have h9 := HTk.out
          have h8 := congrArg List.length h9
          rw [List.length_append] at h8
          omega
        generalize uwT (.mk op' wd' tx' af' ps') = U at *
        generalize uwS (ps.take j) = S at *
        clear hr hzx hzm hd hul2 hsl htl B5 HO hb HKy
        simp only [Tr.op, Tr.wd, Tr.tx, Tr.af, Tr.ps] at HY
        go_wp2_with fail
        generalize hw5 : wr.alloc _ = w5 at HY HO5 hb5 ⊢
        refine HY.out.mono ?_
        rintro e w6 ⟨g6, c6, rfl, ho6, b6⟩
        have HO6 := Lib.hid (own_kept HO5.out b6)
        have hb6 := hb5.trans (b6.mono hb5.size)
        have hN6 := Lib.hid (own_cells1 ho6)
        have hz6 := hb6.size
        have hpl : (([] : List Wd)).length ≤ 1 := by simp
        have hall : (([] : List Wd) ++ S).length + U.length ≤ 1048577 := by rw [List.length_append]; omega
        clear hw5 HY HO5 hb5 b6 ho6 e0 e1 e2 e3 e4
        generalize hP : ([] : List Wd) ++ S = P at *
        go_wp2_with (first
          | (at_builtin; refine wpList_append_own _ rfl _ _ 28 rfl w.heap.size 9 i0 (.string ByteArray.empty) 1 16 Tryd.underlying28 hi hz0 hz1 hz2 rfl (by decide) _ _ _ rfl HO6.out ⟨g6, 0, none⟩ U.length c6 (U.map encStr) rfl (by simp) hN6.out (enc_one U) (by unfold maxLen; omega) (by omega) (by omega) ?_; intro v' w9 hown' hgrow hne; obtain ⟨g7, c7, rfl⟩ := form1 hown' (fun e => by have h9 := (hne.1 e).1; cases h9)))
        go_roundw
        case rel =>
          have hP2 : ([] : List Wd) ++ uwS (ps.take (j + 1)) = P ++ U := by rw [HTk.out, ← List.append_assoc, hP]
          refine ⟨j + 1, g7, c7, by omega, by go_num, ?_, Lib.hid ?_, ?_⟩
          · rw [hP2, List.length_append]
          · rw [hP2, List.length_append, List.map_append]
            exact hown'
          · exact hb6.grown hgrow (by omega) (fun q hq => (HO6.out.lt q hq).1)
        case measure => simp [intOf]; omega
      · have hE : uwS (ps.take j) = uwS ps := by rw [List.take_of_length_le (by have := HN.out; omega)]
        have hW : ([] : List Wd) ++ uwS (ps.take j) = W := by rw [hE, HQ.out]; rw [HF.out]
        go_wp2_with fail
        go_ret
        rw [hW] at HO
        rw [hW]
        exact ⟨g3, c3, rfl, HO.out, hb⟩
theorem fu_all (d : Nat) : FuT d := by
  induction d with
  | zero => exact fu_step 0 (fun d' h => by omega)
  | succ d ih => exact fu_step (d + 1) (fun d' h => by have e : d' = d := (by omega); subst e; exact ih)
end Go.Proofs.YtbibjcmfgpmddaaDoor.Nd
