/-
  EmphasizeSpans, of the program and of the model.
-/
import Derived.Test.YtglgkgkcilkinaaSpB
import Derived.Test.YtglgkgkcilkinaaSpN
namespace Go.Proofs.Ytglgkgkcilkinaa.SpEm
open Go.RowKit SpPl Sp SpA SpB SpG SpNs SpNi SpN
set_option linter.unusedSimpArgs false
set_option linter.unusedVariables false

/-- a span with the other slope -/
def fl (x : Sp1) : Sp1 := ⟨x.l, !x.f, x.t⟩
theorem stp_fl (M : List Sp1) (x : Sp1) : stp (M.map fl) (fl x) = (stp M x).map fl := by
  unfold stp
  have e : (fl x).l = x.l := rfl
  rw [e]
  by_cases h : x.l.size = 0
  · rw [if_pos h, if_pos h]
  · rw [if_neg h, if_neg h, List.getLast?_map]
    cases M.getLast? with
    | none => simp
    | some y =>
      simp only [Option.map_some]
      have e2 : ((fl y).f = (fl x).f ∧ (fl y).t = (fl x).t) ↔ (y.f = x.f ∧ y.t = x.t) := by
        unfold fl; dsimp only; cases y.f <;> cases x.f <;> simp
      by_cases h2 : y.f = x.f ∧ y.t = x.t
      · rw [if_pos (e2.2 h2), if_pos h2, List.map_set, List.length_map]; rfl
      · rw [if_neg (fun h => h2 (e2.1 h)), if_neg h2, List.map_append]; rfl
theorem nm_fl (L : List Sp1) : nmL (L.map fl) = (nmL L).map fl := by
  have key : ∀ (L M : List Sp1), (L.map fl).foldl stp (M.map fl) = (L.foldl stp M).map fl := by
    intro L
    induction L with
    | nil => intro M; rfl
    | cons x r ih => intro M; rw [List.map_cons, List.foldl_cons, List.foldl_cons, stp_fl, ih]
  exact key L []
/-- what EmphasizeSpans answers -/
def emV (z : Bool) (L : List Sp1) : List Sp1 := if z then (nmL L).map fl else []
theorem em_len {z : Bool} {L R : List Sp1} (hr : emV z L = R) : R.length ≤ L.length := by
  cases z with
  | false => rw [← hr]; exact Nat.zero_le _
  | true => rw [← hr]; unfold emV; rw [if_pos rfl, List.length_map]; exact (nm_facts L).2
theorem sz_fl (L : List Sp1) : szL (L.map fl) = szL L := by
  unfold szL; rw [List.map_map]; rfl
theorem mid_at {M : List Sp1} {k : Nat} {y : Sp1} (h : M[k]? = some y) : ((M.take k).map fl ++ M.drop k)[k]? = some y := by
  obtain ⟨hk, e⟩ := List.getElem?_eq_some_iff.1 h
  rw [List.getElem?_append_right (by simp; omega)]
  simp [Nat.min_eq_left (Nat.le_of_lt hk), e]
  exact h
theorem mid_set {M : List Sp1} {k : Nat} {y : Sp1} (h : M[k]? = some y) : ((M.take k).map fl ++ M.drop k).set k (fl y) = (M.take (k + 1)).map fl ++ M.drop (k + 1) := by
  obtain ⟨hk, e⟩ := List.getElem?_eq_some_iff.1 h
  rw [List.set_append_right _ _ (by simp; omega), List.take_add_one, h, List.drop_eq_getElem_cons hk]
  simp [Nat.min_eq_left (Nat.le_of_lt hk)]
  rw [List.drop_eq_getElem_cons hk]
  rfl
theorem mid_len (M : List Sp1) (k : Nat) : ((M.take k).map fl ++ M.drop k).length = M.length := by
  simp; omega

set_option maxHeartbeats 2000000 in
theorem emph_i (A : Option Addr) (c N : Nat) (L : List Sp1) (z : Bool) (R : List Sp1) (w : World) (h : RdSp w A L) (hn : L.length = N) (hN : N ≤ 1048576) (hs : szL L ≤ 1048576) (hz : okS L = z) (hr : emV z L = R) :
    Calls Try.prog 8 #[.slice A N c] w fun e w' => ∃ v, e = .returned (.tuple #[v, .bool z]) ∧ w'.ownsRow w.heap.size 38 3 v R.length (pcells R) ∧ Below w.heap.size w w' := by
  have HG := Lib.hid (good_i A c N L z w h hn hN hs hz)
  cases z with
  | false =>
    obtain rfl : R = [] := hr.symm
    clear h hz hr
    go_enter Try.func8, Try.ntmps8
    go_wp2_with fail
    refine HG.out.mono ?_
    rintro e w1 ⟨rfl, b1⟩
    have ho := row_base' b1.size (own_nil0 w1)
    have hb := b1.trans ((box_below w1 (.cells #[] 38)).mono b1.size)
    go_wp2_with fail
    go_ret2
    exact ⟨_, rfl, ho, hb⟩
  | true =>
    obtain rfl : R = (nmL L).map fl := hr.symm
    have HM := Lib.hid (fun w' (hb : Below w.heap.size w w') => normal_i A c N L w' (h.below hb) hn hN hs)
    have HF := Lib.hid (nm_facts L)
    have hnN : (nmL L).length ≤ N := by have := HF.out.2; omega
    clear h hz hr HF
    generalize nmL L = M at *
    obtain ⟨n, hMn⟩ : ∃ n, M.length = n := ⟨_, rfl⟩
    have HMn := Lib.hid hMn
    rw [hMn] at hnN HM
    rw [List.length_map, hMn]
    clear hMn
    go_enter Try.func8, Try.ntmps8
    go_wp2_with fail
    refine HG.out.mono ?_
    rintro e w1 ⟨rfl, b1⟩
    go_wp2_with fail
    refine (HM.out _ b1).mono ?_
    rintro e w2 ⟨v, rfl, o2, b2⟩
    have hb2 := b1.trans (b2.mono b1.size)
    obtain ⟨A2, c2, rfl, _, _, hc2⟩ := own_rdp o2
    have HO := Lib.hid (row_base' b1.size o2)
    clear b1 b2 o2
    go_wp2_with fail
    go_loopw [14] (fun q wr => ∃ k : Nat, k ≤ n ∧ q = .int .i64 k ∧ Hid (wr.ownsRow w.heap.size 38 3 (.slice A2 n c2) n (pcells ((M.take k).map fl ++ M.drop k))) ∧ Below w.heap.size w wr) (fun q _ => n - (intOf q).toNat)
    case atStart => exact ⟨0, Nat.zero_le _, rfl, Lib.hid (by simpa using HO.out), hb2⟩
    case round =>
      obtain ⟨k, hk, rfl, HOr, hb⟩ := hrel
      by_cases hlt : k < n
      · have hkx : k < M.length := by rw [HMn.out]; exact hlt
        have hx? := List.getElem?_eq_getElem hkx
        obtain ⟨g, rfl, hg1, hg2⟩ := own_at HOr.out (by omega)
        have HX := Lib.hid (mid_at hx?)
        have HY := Lib.hid (mid_set hx?)
        clear hx?
        generalize M[k] = x at *
        obtain ⟨l, f, b⟩ := x
        have c1 := (World.ownsRow.cellAt HOr.out (k * 3 + 1) (by omega)).trans (pcells_at HX.out).2.1
        have f1 := World.ownsRow.frozenAt HOr.out (k * 3 + 1)
        dsimp only at c1
        have HO2 := Lib.hid (HOr.out.stored (k * 3 + 1) (.bool (!f))).1
        rw [set_it HX.out] at HO2
        have HO3 : Hid ((wr.setCell ⟨g, k * 3 + 1, none⟩ (.bool (!f))).ownsRow w.heap.size 38 3 (.slice (some ⟨g, 0, none⟩) n c2) n (pcells ((M.take (k + 1)).map fl ++ M.drop (k + 1)))) := Lib.hid (by
          rw [← HY.out]; exact HO2.out)
        clear HO2 HOr HX HY
        go_wp2_with fail
        go_roundw
        case rel => exact ⟨k + 1, by omega, by go_num, HO3, hb.setCell (p := ⟨g, k * 3 + 1, none⟩) hg1 _⟩
        case measure => (simp [intOf] <;> omega)
      · obtain rfl : k = n := by omega
        have HE : Hid ((M.take k).map fl ++ M.drop k = M.map fl) := Lib.hid (by rw [List.take_of_length_le (by rw [HMn.out]; exact Nat.le_refl _), List.drop_eq_nil_of_le (by rw [HMn.out]; exact Nat.le_refl _), List.append_nil])
        have ho := HOr.out
        rw [HE.out] at ho
        have HOf := Lib.hid ho
        clear ho HOr
        go_wp2_with fail
        go_ret2
        exact ⟨_, rfl, HOf.out, hb⟩

set_option maxHeartbeats 4000000 in
theorem emph_s (A : Option Addr) (c N : Nat) (L : List Sp1) (z : Bool) (R : List Sp1) (w : World) (h : RdSp w A L) (hn : L.length = N) (hN : N ≤ 1048576) (hs : szL L ≤ 1048576) (hz : okS L = z) (hr : emV z L = R) :
    Calls Try.prog 6 #[.slice A N c] w fun e w' => ∃ v, e = .returned (.tuple #[v, .bool z]) ∧ w'.ownsRow w.heap.size 38 3 v R.length (pcells R) ∧ Below w.heap.size w w' := by
  have HG := Lib.hid (good_s A c N L z w h hn hN hs hz)
  obtain ⟨i0, hi, hz0, hz1, hz2⟩ := info_parts infoSp
  cases z with
  | false =>
    obtain rfl : R = [] := hr.symm
    clear h hz hr
    go_enter Try.func6, Try.ntmps6
    go_wp2_with fail
    refine HG.out.mono ?_
    rintro e w1 ⟨rfl, rfl⟩
    have ho := own_nil0 w
    have hb := box_below w (.cells #[] 38)
    go_wp2_with fail
    go_ret2
    exact ⟨_, rfl, ho, hb⟩
  | true =>
    obtain rfl : R = (nmL L).map fl := hr.symm
    obtain ⟨n, hMn⟩ : ∃ n, (nmL L).length = n := ⟨_, rfl⟩
    rw [List.length_map, hMn]
    have HM : Hid (∀ (A' : Option Addr) (c' : Nat) (w' : World), RdSp w' A' (L.map fl) → Calls Try.prog 16 #[.slice A' N c'] w' fun e w1 => ∃ v, e = .returned v ∧ w1.ownsRow w'.heap.size 38 3 v n (pcells ((nmL L).map fl)) ∧ Below w'.heap.size w' w1) := Lib.hid (fun A' c' w' h' => by
      have := normal_s A' c' N (L.map fl) w' h' (by rw [List.length_map, hn]) hN (by rw [sz_fl]; exact hs)
      rw [nm_fl, List.length_map, hMn] at this
      exact this)
    have HR := Lib.hid h
    have HN := Lib.hid hn
    have HO1 : Hid ((w.alloc (.cells #[] 38)).ownsRow w.heap.size 38 3 (.slice (some ⟨w.heap.size, 0, none⟩) 0 0) 0 (pcells ((L.take 0).map fl))) := Lib.hid (own_nil0 w)
    have HB1 := Lib.hid (box_below w (.cells #[] 38))
    clear h hn hs hz hr hMn
    go_enter Try.func6, Try.ntmps6
    go_wp2_with fail
    refine HG.out.mono ?_
    rintro e w1 ⟨rfl, rfl⟩
    go_wp2_with fail
    go_loopw [4, 5] (fun v q wr => ∃ k : Nat, k ≤ N ∧ q = .int .i64 k ∧ Hid (wr.ownsRow w.heap.size 38 3 v k (pcells ((L.take k).map fl))) ∧ Below w.heap.size w wr) (fun _ q _ => N - (intOf q).toNat)
    case atStart => exact ⟨0, Nat.zero_le _, rfl, HO1, HB1.out⟩
    case round =>
      obtain ⟨k, hk, rfl, HO, hb⟩ := hrel
      obtain ⟨A2, c2, rfl, _, RM, hc2⟩ := own_rdp HO.out
      by_cases hlt : k < N
      · have hkx : k < L.length := by rw [HN.out]; exact hlt
        have hx? := List.getElem?_eq_getElem hkx
        obtain ⟨g, o, rfl, hg, c0, c1, c3⟩ := HR.out k L[k] hx?
        have HX : Hid ((L.take (k + 1)).map fl = (L.take k).map fl ++ [fl L[k]]) := Lib.hid (by rw [List.take_add_one, hx?, List.map_append]; rfl)
        clear hx? RM
        generalize L[k] = x at *
        obtain ⟨l, f, b⟩ := x
        dsimp only at c0 c1 c3
        have HSS : Hid (∀ w', Kp w w' → ((w'.cell? ⟨g, o + k * 3, none⟩ = some (.string l) ∧ w'.cell? ⟨g, o + k * 3 + 1, none⟩ = some (.bool f) ∧ w'.cell? ⟨g, o + k * 3 + 2, none⟩ = some (.bool b)) ∧ Kp w w')) := Lib.hid (fun w' h => ⟨⟨(h.cell (p := ⟨g, o + k * 3, none⟩) hg).trans c0, (h.cell (p := ⟨g, o + k * 3 + 1, none⟩) hg).trans c1, (h.cell (p := ⟨g, o + k * 3 + 2, none⟩) hg).trans c3⟩, h⟩)
        have HOw : Hid (∀ w', Kp wr w' → w'.ownsRow w.heap.size 38 3 (.slice A2 k c2) k (pcells ((L.take k).map fl))) := Lib.hid (fun w' h => own_kept HO.out h)
        have HK0 : Hid (Kp w wr.drew) := Lib.hid (kdr hb)
        have hkw : Kp w wr := hb
        have hs1 := Below.size hb
        clear c0 c1 c3
        go_wp2_with fail
        go_region_held3 (fun w' => (w'.cell? ⟨g, o + k * 3, none⟩ = some (.string l) ∧ w'.cell? ⟨g, o + k * 3 + 1, none⟩ = some (.bool f) ∧ w'.cell? ⟨g, o + k * 3 + 2, none⟩ = some (.bool b)) ∧ Kp w w')
          (first | exact HSS.out _ HK0.out | exact HSS.out _ (by repeat (first | assumption | exact Kp.refl' _ | refine kdr ?_ | refine kal ?_ _)))
          (first
            | (refine step_own (by rfl) _ _ _ (by rfl) w.heap.size 38 i0 _ 3 24 Try.underlying24 hi hz0 hz1 hz2 rfl (by decide) _ k _ (by rfl) (HOw.out _ (by repeat (first | assumption | exact Kp.refl' _ | refine kdr ?_ | refine kal ?_ _))) ⟨_, 0, none⟩ 1 1 [.string l, .bool (!f), .bool b] (by rfl) rfl (cells3_heap (t := 38) (fr := (0, 0)) (by exact heap_alloc_new _ _)) (by simp [Value.oneCell']) (by unfold maxLen; omega) (by omega) (by simp; omega) ?_; intro v1 w1 hown1 hgrow1 hne1; have hk1 := grow_b hb (by repeat (first | assumption | exact Kp.refl' _ | refine kdr ?_ | refine kal ?_ _)) hgrow1 (fun q hq => (HO.out.lt q hq).1); have hkw1 : Kp w w1 := hk1)
            | fail)
        all_goals
          (try clear hHeld)
          clear hne1 hgrow1
          go_wp2_with fail
          go_roundw
          case rel =>
            refine ⟨k + 1, by omega, by go_num, Lib.hid ?_, hk1⟩
            rw [HX.out, pcells_app]
            exact hown1
          case measure => (simp [intOf] <;> omega)
      · obtain rfl : k = N := by omega
        have HE : Hid ((L.take k).map fl = L.map fl) := Lib.hid (by rw [List.take_of_length_le (by rw [HN.out]; exact Nat.le_refl _)])
        rw [HE.out] at RM
        have HRM := Lib.hid RM
        have hs1 := Below.size hb
        clear RM HO
        go_wp2_with fail
        refine (HM.out _ _ _ HRM.out).mono ?_
        rintro e w2 ⟨v, rfl, o2, b2⟩
        have hb3 := hb.trans (b2.mono hs1)
        have ho := row_base' hs1 o2
        obtain ⟨A3, c3, rfl, _, _, _⟩ := own_rdp o2
        clear b2 o2
        go_wp2_with fail
        go_ret2
        exact ⟨_, rfl, ho, hb3⟩
end Go.Proofs.Ytglgkgkcilkinaa.SpEm
