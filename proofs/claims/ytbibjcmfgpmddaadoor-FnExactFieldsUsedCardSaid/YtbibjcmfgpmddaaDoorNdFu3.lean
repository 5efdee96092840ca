/-
  The fields of a style in the model: contract of l9Used.
-/
import Derived.Test.YtbibjcmfgpmddaaDoorNdFu2
namespace Go.Proofs.YtbibjcmfgpmddaaDoor.Nd
open Go.RowKit NdPl Ns LaidS FuPl
set_option linter.unusedSimpArgs false
set_option linter.unusedVariables false

theorem ins_len (L : List Wd) (s : Wd) : (ins L s).length ≤ L.length + 1 := by
  induction L with
  | nil => simp [ins]
  | cons y r ih =>
    unfold ins
    split
    · simp only [List.length_cons]; omega
    · split <;> simp only [List.length_cons] <;> omega
theorem fold_len (W : List Wd) : ∀ L, (W.foldl ins L).length ≤ L.length + W.length := by
  induction W with
  | nil => intro L; simp
  | cons a r ih =>
    intro L
    have h1 := ih (ins L a)
    have h2 := ins_len L a
    rw [List.foldl_cons, List.length_cons]
    omega
theorem uwS_take_len (L : List Tr) (j : Nat) : (uwS (L.take j)).length ≤ (uwS L).length := by
  have h := uwS_app (L.take j) (L.drop j)
  rw [List.take_append_drop] at h
  rw [h, List.length_append]
  omega
def UsT (d : Nat) : Prop := ∀ (x : Tr) (B : Option Addr) (c : Nat) (w : World) (g cl n0 : Nat) (L : List Wd), RdL d w B x.ps → szT x ≤ 1048576 → Rd1 w g L → L.length = n0 → n0 ≤ cl → n0 + (uwT x).length ≤ 1048577 →
  Calls Tryd.prog 15 #[ndV x.op x.wd x.tx x.af B x.ps.length c, .slice (some ⟨g, 0, none⟩) n0 cl] w (AdPost w ((uwT x).foldl ins L))
set_option maxRecDepth 100000 in
set_option maxHeartbeats 4000000 in
theorem us_step (d : Nat) (ih : ∀ d', d = d' + 1 → UsT d') : UsT d := by
  intro x B c w g cl n0 L hr hz hrd hn0 hcl hlen
  have hzs := szT_eq x
  have HI := Lib.hid ih
  have hq := uwT_eq x
  rw [hq, List.length_append] at hlen
  obtain ⟨Z, HZ⟩ : ∃ Z, Hid (Z = (uwT x).foldl ins L) := ⟨_, Lib.hid rfl⟩
  have HQ : Hid (Z = (uwS x.ps).foldl ins ((fw x.op x.wd).foldl ins L)) := Lib.hid (by rw [HZ.out, hq, List.foldl_append])
  rw [← HZ.out]
  clear HZ hq
  obtain ⟨op, wd, tx, af, ps⟩ := x
  simp only [Tr.op, Tr.wd, Tr.tx, Tr.af, Tr.ps] at *
  have HX := Lib.hid (Bx.new w #[.int .i64 op, .string wd, .string tx, .string af, .slice B ps.length c] 33)
  have HB := Lib.hid (box_below w (.cells #[.int .i64 op, .string wd, .string tx, .string af, .slice B ps.length c] 33))
  have HR := Lib.hid hr
  have HD := Lib.hid hrd
  have HZs : Hid (szS ps ≤ 1048576) := Lib.hid (by omega)
  have HL : Hid (L.length = n0 ∧ n0 + ((fw op wd).length + (uwS ps).length) ≤ 1048577) := Lib.hid ⟨hn0, hlen⟩
  have hm : ps.length ≤ 1048576 := by omega
  have hm0 : n0 ≤ 1048577 := by omega
  obtain ⟨n, hn⟩ : ∃ n, n = ps.length := ⟨_, rfl⟩
  rw [← hn] at HB HX hm ⊢
  have HN := Lib.hid hn
  clear hr hz hzs hn ih hrd hn0 hlen
  go_enter Tryd.func15, Tryd.ntmps15
  go_upto_region 1 with fail
  generalize w.alloc _ = w0 at HB HX ⊢
  have x0 := HX.out.2 0 _ rfl
  rcases (show op = 1 ∨ op = 4 ∨ (op ≠ 1 ∧ op ≠ 4) by omega) with h1 | h4 | ⟨hn1, hn4⟩
  · subst h1
    have HFw : Hid (fw 1 wd = [wd.data.toList]) := Lib.hid (if_pos (by omega))
    have x1 := HX.out.2 1 _ rfl
    have hm1 : n0 ≤ 1048576 := by have := HL.out.2; rw [HFw.out] at this; simp only [List.length_cons, List.length_nil] at this; omega
    have HA := Lib.hid (fun w1 (h : Below w.heap.size w w1) => add_s g cl n0 L wd w1 (HD.out.below h) HL.out.1 hm1 hcl)
    go_wp2_with fail
    refine (HA.out _ HB.out).mono ?_
    rintro e w1 ⟨g1, c1, rfl, r1, hc1, b1⟩
    have HX1 := Lib.hid (HX.out.below b1)
    have HB1 := Lib.hid (HB.out.trans (b1.mono HB.out.size))
    have HR1 := Lib.hid r1
    clear x0 x1 b1 HX HB HA r1
    go_wp2_with fail
    go_loopw [1, 5] (fun v i wr => ∃ (j g3 c3 : Nat) (M : List Wd), j ≤ n ∧ i = .int .i64 j ∧ v = .slice (some ⟨g3, 0, none⟩) M.length c3 ∧ Hid (M = (uwS (ps.take j)).foldl ins (ins L wd.data.toList)) ∧ Hid (Rd1 wr g3 M) ∧ M.length ≤ c3 ∧ Hid (Bx wr w.heap.size [.int .i64 1, .string wd, .string tx, .string af, .slice B n c]) ∧ Below w.heap.size w wr) (fun _ i _ => n - (intOf i).toNat)
    case atStart => exact ⟨0, g1, c1, ins L wd.data.toList, Nat.zero_le _, rfl, rfl, Lib.hid rfl, HR1, hc1, HX1, HB1.out⟩
    case round =>
      obtain ⟨j, g3, c3, M, hj, rfl, rfl, HM, HD3, hc3, HX2, hb⟩ := hrel
      have c4 := HX2.out.2 4 _ rfl
      have hb0 := hb.size
      by_cases hlt : j < n
      · have hjx : j < ps.length := by rw [← HN.out]; exact hlt
        have hx? := List.getElem?_eq_getElem hjx
        obtain ⟨d', g', o', C, cc, hd, rfl, hg, e0, e1, e2, e3, e4, hr⟩ := (HR.out.below hb).get hx?
        have HTk := Lib.hid (uwS_take hx?)
        have hzx := szS_mem hx?
        have hzm := HZs.out
        have hul := uwS_take_len ps (j + 1)
        have hml : M.length ≤ (ins L wd.data.toList).length + (uwS (ps.take j)).length := by rw [HM.out]; exact fold_len _ _
        have hll := HL.out
        have hlf := fold_len [wd.data.toList] L
        have hfw := HFw.out
        clear hx?
        generalize ps[j] = y at *
        have HY := Lib.hid (HI.out d' hd y C cc wr g3 c3 M.length M hr (by omega) HD3.out rfl hc3 (by
          rw [HTk.out, List.length_append] at hul
          rw [hfw] at hll
          simp only [List.foldl_cons, List.foldl_nil, List.length_cons, List.length_nil] at *
          omega))
        have hM2 : (uwT y).foldl ins M = (uwS (ps.take (j + 1))).foldl ins (ins L wd.data.toList) := by rw [HTk.out, List.foldl_append, HM.out]
        generalize (uwT y).foldl ins M = M2 at *
        have hml2 : M.length ≤ 2000000 := by
          rw [hfw] at hll
          have := uwS_take_len ps j
          simp only [List.foldl_cons, List.foldl_nil, List.length_cons, List.length_nil] at *
          omega
        clear hr hzx hzm hd hul hml hll hlf hfw HTk HM HD3
        generalize M.length = ml at *
        go_wp2_with fail
        refine HY.out.mono ?_
        rintro e w2 ⟨g4, c4', rfl, hd4, hc4, b2⟩
        have HX3 := Lib.hid (HX2.out.below b2)
        have hb2 := hb.trans (b2.mono hb.size)
        have HM2 := Lib.hid hM2
        have HD4 := Lib.hid hd4
        clear b2 HX2 HY hM2 hd4
        go_wp2_with fail
        go_roundw
        case rel => exact ⟨j + 1, g4, c4', M2, by omega, by go_num, rfl, HM2, HD4, hc4, HX3, hb2⟩
        case measure => simp [intOf]; omega
      · have hdn : ps.length ≤ j := by have := HN.out; omega
        have hF : Z = M := by rw [HQ.out, HM.out, HFw.out, List.take_of_length_le hdn]; rfl
        clear hdn
        go_wp2_with fail
        go_ret
        rw [hF]
        exact ⟨g3, c3, rfl, HD3.out, hc3, hb⟩
  · subst h4
    have HFw : Hid (fw 4 wd = [wd.data.toList]) := Lib.hid (if_pos (by omega))
    have x1 := HX.out.2 1 _ rfl
    have hm1 : n0 ≤ 1048576 := by have := HL.out.2; rw [HFw.out] at this; simp only [List.length_cons, List.length_nil] at this; omega
    have HA := Lib.hid (fun w1 (h : Below w.heap.size w w1) => add_s g cl n0 L wd w1 (HD.out.below h) HL.out.1 hm1 hcl)
    go_wp2_with fail
    refine (HA.out _ HB.out).mono ?_
    rintro e w1 ⟨g1, c1, rfl, r1, hc1, b1⟩
    have HX1 := Lib.hid (HX.out.below b1)
    have HB1 := Lib.hid (HB.out.trans (b1.mono HB.out.size))
    have HR1 := Lib.hid r1
    clear x0 x1 b1 HX HB HA r1
    go_wp2_with fail
    go_loopw [1, 5] (fun v i wr => ∃ (j g3 c3 : Nat) (M : List Wd), j ≤ n ∧ i = .int .i64 j ∧ v = .slice (some ⟨g3, 0, none⟩) M.length c3 ∧ Hid (M = (uwS (ps.take j)).foldl ins (ins L wd.data.toList)) ∧ Hid (Rd1 wr g3 M) ∧ M.length ≤ c3 ∧ Hid (Bx wr w.heap.size [.int .i64 4, .string wd, .string tx, .string af, .slice B n c]) ∧ Below w.heap.size w wr) (fun _ i _ => n - (intOf i).toNat)
    case atStart => exact ⟨0, g1, c1, ins L wd.data.toList, Nat.zero_le _, rfl, rfl, Lib.hid rfl, HR1, hc1, HX1, HB1.out⟩
    case round =>
      obtain ⟨j, g3, c3, M, hj, rfl, rfl, HM, HD3, hc3, HX2, hb⟩ := hrel
      have c4 := HX2.out.2 4 _ rfl
      have hb0 := hb.size
      by_cases hlt : j < n
      · have hjx : j < ps.length := by rw [← HN.out]; exact hlt
        have hx? := List.getElem?_eq_getElem hjx
        obtain ⟨d', g', o', C, cc, hd, rfl, hg, e0, e1, e2, e3, e4, hr⟩ := (HR.out.below hb).get hx?
        have HTk := Lib.hid (uwS_take hx?)
        have hzx := szS_mem hx?
        have hzm := HZs.out
        have hul := uwS_take_len ps (j + 1)
        have hml : M.length ≤ (ins L wd.data.toList).length + (uwS (ps.take j)).length := by rw [HM.out]; exact fold_len _ _
        have hll := HL.out
        have hlf := fold_len [wd.data.toList] L
        have hfw := HFw.out
        clear hx?
        generalize ps[j] = y at *
        have HY := Lib.hid (HI.out d' hd y C cc wr g3 c3 M.length M hr (by omega) HD3.out rfl hc3 (by
          rw [HTk.out, List.length_append] at hul
          rw [hfw] at hll
          simp only [List.foldl_cons, List.foldl_nil, List.length_cons, List.length_nil] at *
          omega))
        have hM2 : (uwT y).foldl ins M = (uwS (ps.take (j + 1))).foldl ins (ins L wd.data.toList) := by rw [HTk.out, List.foldl_append, HM.out]
        generalize (uwT y).foldl ins M = M2 at *
        have hml2 : M.length ≤ 2000000 := by
          rw [hfw] at hll
          have := uwS_take_len ps j
          simp only [List.foldl_cons, List.foldl_nil, List.length_cons, List.length_nil] at *
          omega
        clear hr hzx hzm hd hul hml hll hlf hfw HTk HM HD3
        generalize M.length = ml at *
        go_wp2_with fail
        refine HY.out.mono ?_
        rintro e w2 ⟨g4, c4', rfl, hd4, hc4, b2⟩
        have HX3 := Lib.hid (HX2.out.below b2)
        have hb2 := hb.trans (b2.mono hb.size)
        have HM2 := Lib.hid hM2
        have HD4 := Lib.hid hd4
        clear b2 HX2 HY hM2 hd4
        go_wp2_with fail
        go_roundw
        case rel => exact ⟨j + 1, g4, c4', M2, by omega, by go_num, rfl, HM2, HD4, hc4, HX3, hb2⟩
        case measure => simp [intOf]; omega
      · have hdn : ps.length ≤ j := by have := HN.out; omega
        have hF : Z = M := by rw [HQ.out, HM.out, HFw.out, List.take_of_length_le hdn]; rfl
        clear hdn
        go_wp2_with fail
        go_ret
        rw [hF]
        exact ⟨g3, c3, rfl, HD3.out, hc3, hb⟩
  · have HFw : Hid (fw op wd = []) := Lib.hid (if_neg (by omega))
    have HD0 := Lib.hid (HD.out.below HB.out)
    have hb1 : (op == 1) = false := by rw [beq_eq_false_iff_ne]; exact hn1
    have hb4 : (op == 4) = false := by rw [beq_eq_false_iff_ne]; exact hn4
    go_wp2_with fail
    go_loopw [1, 5] (fun v i wr => ∃ (j g3 c3 : Nat) (M : List Wd), j ≤ n ∧ i = .int .i64 j ∧ v = .slice (some ⟨g3, 0, none⟩) M.length c3 ∧ Hid (M = (uwS (ps.take j)).foldl ins (L)) ∧ Hid (Rd1 wr g3 M) ∧ M.length ≤ c3 ∧ Hid (Bx wr w.heap.size [.int .i64 op, .string wd, .string tx, .string af, .slice B n c]) ∧ Below w.heap.size w wr) (fun _ i _ => n - (intOf i).toNat)
    case atStart => exact ⟨0, g, cl, L, Nat.zero_le _, rfl, by rw [HL.out.1], Lib.hid rfl, HD0, by rw [HL.out.1]; exact hcl, HX, HB.out⟩
    case round =>
      obtain ⟨j, g3, c3, M, hj, rfl, rfl, HM, HD3, hc3, HX2, hb⟩ := hrel
      have c4 := HX2.out.2 4 _ rfl
      have hb0 := hb.size
      by_cases hlt : j < n
      · have hjx : j < ps.length := by rw [← HN.out]; exact hlt
        have hx? := List.getElem?_eq_getElem hjx
        obtain ⟨d', g', o', C, cc, hd, rfl, hg, e0, e1, e2, e3, e4, hr⟩ := (HR.out.below hb).get hx?
        have HTk := Lib.hid (uwS_take hx?)
        have hzx := szS_mem hx?
        have hzm := HZs.out
        have hul := uwS_take_len ps (j + 1)
        have hml : M.length ≤ (L).length + (uwS (ps.take j)).length := by rw [HM.out]; exact fold_len _ _
        have hll := HL.out
        have hlf := fold_len ([] : List Wd) L
        have hfw := HFw.out
        clear hx?
        generalize ps[j] = y at *
        have HY := Lib.hid (HI.out d' hd y C cc wr g3 c3 M.length M hr (by omega) HD3.out rfl hc3 (by
          rw [HTk.out, List.length_append] at hul
          rw [hfw] at hll
          simp only [List.foldl_cons, List.foldl_nil, List.length_cons, List.length_nil] at *
          omega))
        have hM2 : (uwT y).foldl ins M = (uwS (ps.take (j + 1))).foldl ins (L) := by rw [HTk.out, List.foldl_append, HM.out]
        generalize (uwT y).foldl ins M = M2 at *
        have hml2 : M.length ≤ 2000000 := by
          rw [hfw] at hll
          have := uwS_take_len ps j
          simp only [List.foldl_cons, List.foldl_nil, List.length_cons, List.length_nil] at *
          omega
        clear hr hzx hzm hd hul hml hll hlf hfw HTk HM HD3
        generalize M.length = ml at *
        go_wp2_with fail
        refine HY.out.mono ?_
        rintro e w2 ⟨g4, c4', rfl, hd4, hc4, b2⟩
        have HX3 := Lib.hid (HX2.out.below b2)
        have hb2 := hb.trans (b2.mono hb.size)
        have HM2 := Lib.hid hM2
        have HD4 := Lib.hid hd4
        clear b2 HX2 HY hM2 hd4
        go_wp2_with fail
        go_roundw
        case rel => exact ⟨j + 1, g4, c4', M2, by omega, by go_num, rfl, HM2, HD4, hc4, HX3, hb2⟩
        case measure => simp [intOf]; omega
      · have hdn : ps.length ≤ j := by have := HN.out; omega
        have hF : Z = M := by rw [HQ.out, HM.out, HFw.out, List.take_of_length_le hdn]; rfl
        clear hdn
        go_wp2_with fail
        go_ret
        rw [hF]
        exact ⟨g3, c3, rfl, HD3.out, hc3, hb⟩
theorem us_all (d : Nat) : UsT d := by
  induction d with
  | zero => exact us_step 0 (fun d' h => by omega)
  | succ d ih => exact us_step (d + 1) (fun d' h => by have e : d' = d := (by omega); subst e; exact ih)
end Go.Proofs.YtbibjcmfgpmddaaDoor.Nd
