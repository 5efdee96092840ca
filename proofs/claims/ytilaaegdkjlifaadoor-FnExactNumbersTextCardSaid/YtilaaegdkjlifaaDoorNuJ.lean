/-
  numbersText and NumbersText of the program.
-/
import Derived.Test.YtilaaegdkjlifaaDoorNuI
namespace Go.Proofs.YtilaaegdkjlifaaDoor.Nu
open Go.RowKit Pl NuPl Kpz ReadPl
open Num (Tab)
open Cs (cs cs_snoc cs_len)
set_option linter.unusedSimpArgs false
set_option linter.unusedVariables false

theorem map_ba (xs : List (List UInt8)) : ((xs.map ba).map fun x => x.data.toList) = xs := by
  rw [List.map_map]
  exact (List.map_congr_left (fun x _ => by simp [toList_ba])).trans (List.map_id _)
/-- strings.Join of a row of the call's own, at a comma and a space -/
theorem join_own {w : World} {base : Nat} {e : TypeId} {v : Value} {xs : List (List UInt8)} (h : w.ownsRow base e 1 v xs.length (cs xs)) (hn : xs.length ≤ 1048576) (hl : (Lib.join xs [44, 32]).length ≤ 1048576) :
    Calls Tryd.prog 28 #[v, .string ⟨#[44, 32]⟩] w fun e w' => e = .returned (.string (ba (Lib.join xs [44, 32]))) ∧ Below w.heap.size w w' := by
  rcases Cs.own_cells h with ⟨rfl, rfl⟩ | ⟨g, c, rfl, _, hg, hc, hx⟩
  · exact (Tryd.strings_Join_none none 0 ⟨#[44, 32]⟩ w).mono fun e w' ⟨he, hw⟩ => ⟨he, hw ▸ Below.refl _ _⟩
  · have e1 : (((xs).map ba).map fun x => x.data.toList) = xs := map_ba _
    have e2 : (ByteArray.mk #[44, 32]).data.toList = [44, 32] := rfl
    have := Tryd.strings_Join g 0 c (xs.map ba) ⟨#[44, 32]⟩ w (fun j y hy => by
      rw [List.getElem?_map] at hy
      cases hz : xs[j]? with
      | none => rw [hz] at hy; cases hy
      | some z =>
        rw [hz] at hy
        simp at hy
        rw [← hy, Nat.zero_add]
        exact hx j z hz) hg (by rw [List.length_map]; omega) (by rw [List.length_map]; exact hc) (by rw [e1, e2]; omega)
    rw [List.length_map, e1, e2] at this
    exact this
/-- the pieces of a list that begins with a run -/
theorem pcs_run (a : Int) (r : List Int) : (pcs (a :: r)).map T = rtx ((a :: r).take (run1 a r + 1)) ++ (pcs ((a :: r).drop (run1 a r + 1))).map T := by
  have hle := run1_le a r
  rw [List.take_succ_cons, List.drop_succ_cons]
  by_cases h2 : 2 ≤ run1 a r
  · rw [pcs_long h2, rtx_long (by rw [List.length_cons, List.length_take]; omega), List.length_take, Nat.min_eq_left hle]
    rfl
  · by_cases h1 : run1 a r = 1
    · cases r with
      | nil => simp [run1] at h1
      | cons b r =>
        rw [pcs_two h1, rtx_short (by rw [List.length_cons, List.length_take, h1]; simp)]
        rw [h1]
        rfl
    · have h0 : run1 a r = 0 := by omega
      rw [pcs_short (by omega), rtx_short (by rw [List.length_cons, List.length_take, h0]; simp), h0]
      rfl
theorem rtx_len (R : List Int) : (rtx R).length ≤ R.length := by
  cases R with
  | nil => simp [rtx]
  | cons a r =>
    by_cases h : 3 ≤ (a :: r).length
    · rw [rtx_long h]; simp
    · rw [rtx_short h]; simp
theorem cs_app (a b : List (List UInt8)) : cs (a ++ b) = cs a ++ cs b := by simp [cs]
theorem cs_one (X : List (List UInt8)) : ∀ v ∈ cs X, v.oneCell' = true := by
  intro v hv; obtain ⟨_, _, rfl⟩ := List.mem_map.1 hv; rfl
theorem form_pos {w : World} {base : Nat} {e : TypeId} {size n : Nat} {v : Value} {xs : List Value} (h : w.ownsRow base e size v n xs) (hn : 0 < n) : ∃ g c, v = .slice (some ⟨g, 0, none⟩) n c := by
  rcases h.2 with ⟨_, h0⟩ | ⟨g, cap, cur, rfl, _⟩
  · omega
  · exact ⟨g, cap, rfl⟩
set_option maxRecDepth 100000 in
set_option maxHeartbeats 8000000 in
theorem numText_i (A : Option Addr) (c n : Nat) (L : List Int) (w : World) (hr : RdI w A L) (hn : L.length = n) (hg : goodN L = true) (ht : Tab w) :
    Calls Tryd.prog 17 #[.slice A n c] w fun e w' => e = .returned (.string (ba (txt (srt L)))) ∧ Kp w w' := by
  obtain ⟨i0, hi, hz0, hz1, hz2⟩ := info_parts infoStr
  obtain ⟨hv, h20⟩ := goodN_yes hg
  have HD := Lib.hid (differ_i A c n L w hr hn (by omega))
  have HT := Lib.hid (fun w' (hb : Kp w w') => ht.below hb)
  have hgd := gd_srt hv h20
  have HGd := Lib.hid hgd
  have HSl := Lib.hid hgd.2.2
  have HJl : Hid ((Lib.join ((pcs (srt L)).map T) [44, 32]).length ≤ 1048576) := Lib.hid (by have := txt_len hgd; unfold txt PcPl.J at this; omega)
  have HPn : Hid (((pcs (srt L)).map T).length ≤ 1048576) := Lib.hid (by
    have h1 : ∀ (f : Nat) (M : List Int), (pcsF f M).length ≤ f := by
      intro f
      induction f with
      | zero => intro M; simp [pcsF]
      | succ f ih =>
        intro M
        cases M with
        | nil => simp [pcsF]
        | cons a r => unfold pcsF; split <;> (rw [List.length_cons]; have := ih (r.drop (run1 a r)); have := ih r; omega)
    have := h1 (srt L).length (srt L)
    rw [List.length_map]
    unfold pcs
    have := hgd.2.2
    omega)
  clear hr hn hg ht hv hgd h20
  unfold DfP at HD
  generalize hSL : srt L = D at *
  clear hSL
  go_enter Tryd.func17, Tryd.ntmps17
  go_wp2_with fail
  refine HD.out.mono ?_
  rintro e w1 ⟨v, rfl, o1, b1⟩
  obtain ⟨A1, c1, rfl, _, r1, l1⟩ := own_rdi o1
  have HR1 := Lib.hid r1
  have hB2 : Kp w (w1.alloc (.cells #[] 9)) := kal b1 _
  have HO0 : Hid ((w1.alloc (.cells #[] 9)).ownsRow w1.heap.size 9 1 (.slice (some ⟨w1.heap.size, 0, none⟩) 0 0) 0 (cs [])) := Lib.hid (World.ownsRow_lit w1 #[] 0 (Nat.le_refl _) (Nat.zero_le _) rfl)
  have HK1 : Hid (Kp w1 (w1.alloc (.cells #[] 9))) := Lib.hid (kal (kre _) _)
  have HB1 := Lib.hid b1
  clear o1 r1 b1
  go_wp2_with fail
  go_loopw [3, 4] (fun v t wr => ∃ (k m c' j : Nat) (A' : Option Addr), k ≤ D.length ∧ D.length - k = m ∧ v = .slice A' m c' ∧ m ≤ c' ∧ Hid (RdI w1 A' (D.drop k)) ∧ (∃ X : List (List UInt8), Hid (X.length = j ∧ j ≤ k ∧ wr.ownsRow w1.heap.size 9 1 t j (cs X) ∧ X ++ (pcs (D.drop k)).map T = (pcs D).map T)) ∧ Kp w1 wr) (fun v _ _ => match v with | .slice _ m _ => m | _ => 0)
  case atStart => exact ⟨0, D.length, c1, 0, A1, Nat.zero_le _, by omega, rfl, l1, Lib.hid (by rw [List.drop_zero]; exact HR1.out), ⟨[], Lib.hid ⟨rfl, Nat.le_refl _, HO0.out, by simp⟩⟩, HK1.out⟩
  case round =>
    obtain ⟨k, m, c', j, A', hk, hm, rfl, hmc, HRd, ⟨X, HX⟩, hb⟩ := hrel
    have hsl := HSl.out
    obtain ⟨At, ct, rfl⟩ : ∃ At ct, u4 = .slice At j ct := by
      rcases HX.out.2.2.1.2 with ⟨h0, h1⟩ | ⟨g0, cap0, cur0, h0, _⟩
      · exact ⟨none, 0, by rw [h0, h1]⟩
      · exact ⟨_, _, h0⟩
    by_cases hlt : 0 < m
    · obtain ⟨a, ha⟩ : ∃ a, D[k]? = some a := ⟨_, List.getElem?_eq_getElem (by omega)⟩
      obtain ⟨r, hr⟩ : ∃ r, D.drop k = a :: r := by
        have hkl : k < D.length := (List.getElem?_eq_some_iff.1 ha).1
        exact ⟨D.drop (k + 1), by rw [List.drop_eq_getElem_cons hkl, (List.getElem?_eq_some_iff.1 ha).2]⟩
      have hrm : (a :: r).length = m := by rw [← hr, List.length_drop]; exact hm
      have hval : ∀ x ∈ a :: r, 1 ≤ x ∧ x ≤ 999 := fun x hx => HGd.out.2.1 x (List.mem_of_mem_drop (by rw [hr]; exact hx))
      have hq0 := run1_le a r
      obtain ⟨q, hq⟩ : ∃ q, run1 a r + 1 = q := ⟨_, rfl⟩
      have hqm : q ≤ m := by simp at hrm; omega
      have HRr : Hid (RdI w1 A' (a :: r)) := Lib.hid (by rw [← hr]; exact HRd.out)
      have HCo := Lib.hid (consec_i A' c' m a r wr (HRr.out.kp hb) hrm (by omega) hval)
      rw [hq] at HCo
      obtain ⟨hhead, hh2⟩ := cut_headA (A := A') (i := m) (c := c') (k := q) HRr.out hrm (q : Int) rfl hqm hmc hlt
      obtain ⟨A2, c2, htail, ht2, hc2⟩ := cut_tailA (A := A') (i := m) (c := c') (k := q) HRr.out hrm (q : Int) rfl hqm hmc hlt
      have htk : (a :: r).take q = a :: r.take (run1 a r) := by rw [← hq, List.take_succ_cons]
      rw [htk] at hh2
      have hv2 : ∀ x ∈ a :: r.take (run1 a r), 1 ≤ x ∧ x ≤ 999 := by
        intro x hx
        refine hval x ?_
        rcases List.mem_cons.1 hx with e | h9
        · rw [e]; exact List.mem_cons_self
        · exact List.mem_cons_of_mem _ (List.mem_of_mem_take h9)
      have hc9 : ∀ (i : Nat) (x : Int), (a :: r.take (run1 a r))[i]? = some x → x = a + (i : Int) := by
        intro i x hx
        cases i with
        | zero => simp at hx; simp [hx]
        | succ i =>
          rw [List.getElem?_cons_succ, List.getElem?_take] at hx
          split at hx
          · rename_i hi9
            rw [run1_at a r i hi9] at hx
            have := Option.some.inj hx
            omega
          · cases hx
      have hl9 : (a :: r.take (run1 a r)).length = q := by rw [List.length_cons, List.length_take]; omega
      have HRt := Lib.hid (fun w' (h' : Kp w1 w') => runTexts_i A' c' q a (r.take (run1 a r)) w' (hh2.kp h') hl9 (by omega) hv2 hc9 (HT.out _ (ktr HB1.out h')))
      clear hv2 hc9 hl9
      rw [← htk] at HRt
      have HPr : Hid (X ++ rtx ((a :: r).take q) ++ (pcs (D.drop (k + q))).map T = (pcs D).map T) := Lib.hid (by
        have h9 := pcs_run a r
        rw [hq, ← hr, List.drop_drop] at h9
        rw [List.append_assoc, ← hr, ← h9]
        exact HX.out.2.2.2)
      have HR2 : Hid (RdI w1 A2 (D.drop (k + q))) := Lib.hid (by rw [← List.drop_drop, hr]; exact ht2)
      have hXl := HX.out.1
      have HXo := Lib.hid HX.out.2.2.1
      have hjk := HX.out.2.1
      obtain ⟨Y, hY⟩ : ∃ Y, rtx ((a :: r).take q) = Y := ⟨_, rfl⟩
      have hYl : Y.length ≤ q := by rw [← hY]; exact Nat.le_trans (rtx_len _) (by rw [List.length_take]; exact Nat.min_le_left _ _)
      have hY0 : 0 < Y.length := by
        rw [← hY, htk]
        by_cases h3 : 3 ≤ (a :: r.take (run1 a r)).length
        · rw [rtx_long h3]; simp
        · rw [rtx_short h3]; simp
      rw [hY] at HRt HPr
      have hq1 : 1 ≤ q := by omega
      have hkq : k + q ≤ D.length := by omega
      unfold RtP at HRt
      clear hY htk hh2 ht2 HRr HRd HX hval hrm hr ha hq hq0 HR1
      have hlt' : (0 : Int) < (m : Int) := by omega
      go_wp2_with fail
      refine HCo.out.mono ?_
      rintro e w2 ⟨rfl, b2⟩
      have hb2 := ktr hb b2
      clear HCo
      go_wp2_with fail
      refine (HRt.out _ hb2).mono ?_
      rintro e w3 ⟨v3, rfl, o3, b3⟩
      have hb3 := ktr hb2 b3
      have ox3 := own_kp HXo.out (ktr b2 b3)
      obtain ⟨g3, cap3, rfl⟩ := form_pos o3 hY0
      have HC3 := Lib.hid (fun (i : Nat) (u : Value) (hu : (cs Y)[i]? = some u) => show w3.cell? ((⟨g3, 0, none⟩ : Addr).add i) = some u from by
        have hi : i < Y.length := by have := (List.getElem?_eq_some_iff.1 hu).1; rw [cs_len] at this; exact this
        rw [Go.WideShapes.add_plain, Nat.zero_add, World.ownsRow.cellAt o3 i (by omega)]
        exact hu)
      have HCl : Hid ((cs Y).length = Y.length * 1) := Lib.hid (by rw [cs_len, Nat.mul_one])
      have hs3 := ksz hb3
      clear o3 b2 b3 HXo HRt
      generalize hYn : Y.length = yn at *
      have HYn := Lib.hid hYn
      clear hYn
      go_wp2_with (first | (at_builtin; refine wpList_append_own _ rfl _ _ 34 rfl w1.heap.size 9 i0 (.string ByteArray.empty) 1 16 Tryd.underlying34 hi hz0 hz1 hz2 rfl (by decide) _ _ _ rfl ox3 ⟨g3, 0, none⟩ yn cap3 (cs Y) rfl HCl.out HC3.out (cs_one Y) (by unfold maxLen; omega) (by omega) hs3 ?_; intro v8 w8 hown8 hgrow8 hne8))
      have hb8 : Kp w1 w8 := below_grown hb3 hgrow8 hs3 (fun q hq => (ox3.lt q hq).1)
      have HX8 : Hid ((X ++ Y).length = j + yn ∧ j + yn ≤ k + q ∧ w8.ownsRow w1.heap.size 9 1 v8 (j + yn) (cs (X ++ Y)) ∧ (X ++ Y) ++ (pcs (D.drop (k + q))).map T = (pcs D).map T) := Lib.hid ⟨by rw [List.length_append, HYn.out, hXl], by omega, by rw [cs_app]; exact hown8, HPr.out⟩
      clear hown8 hgrow8 hne8 ox3 HC3 HCl HPr
      go_wp2_with fail
      go_roundw
      case rel => exact ⟨k + q, m - q, c2, j + yn, A2, hkq, by omega, rfl, hc2, HR2, ⟨X ++ Y, HX8⟩, hb8⟩
      case measure => simp; omega
    · obtain rfl : m = 0 := by omega
      have HXe : Hid (X = (pcs D).map T) := Lib.hid (by
        have := HX.out.2.2.2
        rw [List.drop_eq_nil_of_le (by omega), pcs_nil, List.map_nil, List.append_nil] at this
        exact this)
      have hXo := HX.out.2.2.1
      rw [← HX.out.1, HXe.out] at hXo
      have HJ := Lib.hid (join_own hXo HPn.out HJl.out)
      have hjl : j = ((pcs D).map T).length := by rw [← HXe.out]; exact HX.out.1.symm
      have HJn := Lib.hid hjl
      rw [← HJn.out] at HJ
      clear hXo hjl HX
      go_wp2_with fail
      refine HJ.out.mono ?_
      rintro e w9 ⟨rfl, b9⟩
      go_wp2_with fail
      go_ret
      exact ⟨rfl, ktr HB1.out (ktr hb b9)⟩
theorem ntext_i (A : Option Addr) (c n : Nat) (L : List Int) (w : World) (hr : RdI w A L) (hn : L.length = n) (hm : n ≤ 1048576) (ht : Tab w) :
    Calls Tryd.prog 7 #[.slice A n c] w fun e w' => e = .returned (.tuple #[.string (ntS L), .bool (goodN L)]) ∧ Kp w w' := by
  have HG := Lib.hid (fun r h => areNumbers_i A c n L r w hr hn (by omega) h)
  have HX := Lib.hid (fun hg => numText_i A c n L w hr hn hg ht)
  clear hr hn
  cases hok : goodN L with
  | false =>
    have HG1 := Lib.hid (HG.out false hok)
    have HE := Lib.hid (ntS_no hok)
    clear hok HG HX
    go_enter Tryd.func7, Tryd.ntmps7
    go_wp2_with fail
    refine HG1.out.mono ?_
    rintro e w' ⟨rfl, rfl⟩
    go_wp2_with fail
    go_ret2
    exact ⟨by rw [HE.out]; rfl, kre _⟩
  | true =>
    have HG1 := Lib.hid (HG.out true hok)
    have HE := Lib.hid (ntS_yes hok)
    have HX1 := Lib.hid (HX.out hok)
    clear hok HG HX
    go_enter Tryd.func7, Tryd.ntmps7
    go_wp2_with fail
    refine HG1.out.mono ?_
    rintro e w' ⟨rfl, rfl⟩
    go_wp2_with fail
    refine HX1.out.mono ?_
    rintro e w1 ⟨rfl, b1⟩
    go_wp2_with fail
    go_ret2
    exact ⟨by rw [HE.out]; rfl, b1⟩
end Go.Proofs.YtilaaegdkjlifaaDoor.Nu
