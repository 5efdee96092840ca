/-
  Contracts of shortened ranges: sharedStart, collapsedText, CollapseRange; l1Least, l1Most, l7Collapse, CollapseRange of the model.
-/
import Derived.Test.YtiekplndcpcdkaaDoorPgF
import Derived.Test.YtiekplndcpcdkaaDoorPgH
import Derived.Test.YtiekplndcpcdkaaDoorPgCo
import Derived.Deep.DeepCutAuto
namespace Go.Proofs.YtiekplndcpcdkaaDoor.PgC
open Go.RowKit Pl ReadPl PgPl PgTx Pg PgF PgCo
open Num (l1Num_nat Tab grow_below below_drewN Tab.below)
open Dt (l1In_any)
set_option linter.unusedSimpArgs false
set_option linter.unusedVariables false

theorem ret_int {k : IntKind} {a b : Int} (h : a = b) : Ending.returned (.int k a) = .returned (.int k b) := by rw [h]
theorem drewN_two (w : World) (q n : Nat) : (w.drewN q).drewN n = w.drewN (q + n) := by simp [World.drewN, Nat.add_assoc]
theorem most_s (a b : Int) (w : World) :
    Calls Tryd.prog 20 #[.int .i64 a, .int .i64 b] w fun e w' => e = .returned (.int .i64 (max a b)) ∧ w = w' := by
  go_enter Tryd.func20, Tryd.ntmps20
  go_wp2_with fail
  all_goals go_ret
  all_goals exact ⟨ret_int (by omega), rfl⟩
theorem least_s (a b : Int) (w : World) :
    Calls Tryd.prog 21 #[.int .i64 a, .int .i64 b] w fun e w' => e = .returned (.int .i64 (min a b)) ∧ w = w' := by
  go_enter Tryd.func21, Tryd.ntmps21
  go_wp2_with fail
  all_goals go_ret
  all_goals exact ⟨ret_int (by omega), rfl⟩

theorem itoa_b (n : Nat) (w : World) (hn : n ≤ 99999) (hT : Tab w) :
    Calls Tryd.prog 30 #[.int .i64 n] w fun e w' => e = .returned (.string (ba (Lib.decDigits n))) ∧ Below w.heap.size w w' := by
  have HI := Tryd.strconv_Itoa n (by omega) (by omega) w hT
  rw [itoa_nat] at HI
  exact HI.mono fun e w' ⟨he, k, os, hw⟩ => ⟨he, hw ▸ grow_below w k os⟩

set_option maxHeartbeats 1000000 in
theorem shared_i (a b : ByteArray) (w : World) (hs : a.size = b.size) (hz : a.size ≤ 1048576) :
    Calls Tryd.prog 32 #[.string a, .string b] w fun e w' => e = .returned (.int .i64 (sh a.data.toList b.data.toList)) ∧ ∃ q, w' = w.drewN q := by
  have HSz := Lib.hid hs
  clear hs
  go_enter Tryd.func32, Tryd.ntmps32
  go_wp2_with fail
  go_loopw [5] (fun i wr => ∃ k : Nat, k ≤ a.size ∧ i = .int .i64 k ∧ Hid (sh (a.data.toList.drop k) (b.data.toList.drop k) + k = sh a.data.toList b.data.toList) ∧ ∃ q, wr = w.drewN q) (fun i _ => a.size - (intOf i).toNat)
  case atStart => exact ⟨0, Nat.zero_le _, rfl, Lib.hid rfl, 0, rfl⟩
  case round =>
    obtain ⟨k, hk, rfl, HD, q, rfl⟩ := hrel
    by_cases hlt : k < a.size
    · have hlt2 : k < b.size := by have := HSz.out; omega
      have HS := Lib.hid (sh_at hlt hlt2)
      by_cases he : a[k] = b[k]
      · have HS' : Hid (sh (a.data.toList.drop k) (b.data.toList.drop k) = sh (a.data.toList.drop (k + 1)) (b.data.toList.drop (k + 1)) + 1) := Lib.hid (by rw [HS.out, if_pos he])
        have hee : ((a[k].toNat : Int) == (b[k].toNat : Int)) = true := by rw [he]; simp
        clear HS he
        go_wp2_with fail
        go_quiet (fail)
        go_wp2_with fail
        go_roundw
        case rel => exact ⟨k + 1, by omega, by go_num, Lib.hid (by rw [← HD.out, HS'.out]; omega), _, rfl⟩
        case measure => simp [intOf]; omega
      · have HS' : Hid (sh a.data.toList b.data.toList = k) := Lib.hid (by rw [← HD.out, HS.out, if_neg he]; omega)
        have hee : ((a[k].toNat : Int) == (b[k].toNat : Int)) = false := by
          rw [beq_eq_false_iff_ne]
          intro h
          exact he (UInt8.toNat_inj.1 (by omega))
        clear HS he
        go_wp2_with fail
        go_quiet (fail)
        go_wp2_with fail
        go_ret
        exact ⟨by rw [HS'.out]; rfl, q + _, drewN_two w q _⟩
    · have HS' : Hid (sh a.data.toList b.data.toList = k) := Lib.hid (by rw [← HD.out, sh_end (by omega)]; omega)
      have hd : decide ((k : Int) < (a.size : Int)) = false := by simp; omega
      have hd2 : decide (k < a.size) = false := by simp; omega
      go_wp2_with fail
      go_quiet (fail)
      go_wp2_with fail
      go_ret
      exact ⟨by rw [HS'.out]; rfl, q + _, drewN_two w q _⟩

/-- the part of the last page that is written -/
theorem cut_ba (q : ByteArray) (i : Nat) : q.extract i q.size = ba (q.data.toList.drop i) := by
  rw [extract_list]
  congr 1
  rw [List.take_of_length_le (by rw [len_size]; exact Nat.le_refl _)]

set_option maxHeartbeats 4000000 in
theorem col_i (l : ByteArray) (f t : Nat) (st : Int) (w : World) (hl : l.size ≤ 1) (hf : f ≤ 99999) (ht : t ≤ 99999) (hT : Tab w) :
    Calls Tryd.prog 25 #[prV l f t, .int .i64 st] w fun e w' => e = .returned (.string (ba (cT l.data.toList f t st))) ∧ Below w.heap.size w w' := by
  have hb0 := box_below w (.cells #[.string l, .int .i64 (f : Int), .int .i64 (t : Int)] 23)
  have HB := Lib.hid hb0
  have HD := Lib.hid (P3.new w l f t 23)
  have HT := Lib.hid (hT.below hb0)
  have HF := Lib.hid (fun w ht => itoa_b f w hf ht)
  have HG := Lib.hid (fun w htt => itoa_b t w ht htt)
  have HX := Lib.hid (fun w htt => range_i l f t w hl hf ht htt)
  clear hT
  clear hb0
  have h5 : (ba (Lib.decDigits f)).size ≤ 5 := by rw [ba_size]; exact dec5 hf
  have h6 : (ba (Lib.decDigits t)).size ≤ 5 := by rw [ba_size]; exact dec5 ht
  have hz5 : (ba (Lib.decDigits f)).size = (Lib.decDigits f).length := ba_size _
  have hz6 : (ba (Lib.decDigits t)).size = (Lib.decDigits t).length := ba_size _
  have H1 : Hid (Lib.decDigits f = (ba (Lib.decDigits f)).data.toList) := Lib.hid (toList_ba _).symm
  have H2 : Hid (Lib.decDigits t = (ba (Lib.decDigits t)).data.toList) := Lib.hid (toList_ba _).symm
  have HE : Hid (cT l.data.toList f t st = if fullB f t st then rT l.data.toList f t else (l.data.toList ++ Lib.decDigits f) ++ 45 :: (Lib.decDigits t).drop (lf st (sh (Lib.decDigits f) (Lib.decDigits t)) (Lib.decDigits t).length)) := Lib.hid rfl
  have HFu : Hid (fullB f t st = decide (st = 1 ∨ f = t ∨ (Lib.decDigits f).length ≠ (Lib.decDigits t).length)) := Lib.hid rfl
  have HNf := Lib.hid (fun h => not_full (f := f) (t := t) (st := st) h)
  rw [← hz5, ← hz6] at HNf HFu
  rw [← hz6] at HE
  rw [H1.out, H2.out, ba_toList] at HE
  rw [H1.out, H2.out, ba_toList, ba_toList] at HNf
  clear hz5 hz6 H1 H2
  generalize ba (Lib.decDigits f) = p at *
  generalize ba (Lib.decDigits t) = q at *
  have HSh := Lib.hid (fun w hs => shared_i p q w hs (by omega))
  generalize sh p.data.toList q.data.toList = s at *
  go_enter Tryd.func25, Tryd.ntmps25
  go_upto_region 1 with fail
  generalize hW : w.alloc (.cells #[.string l, .int .i64 (f : Int), .int .i64 (t : Int)] 23) = w0 at HB HD HT ⊢
  clear hW
  obtain ⟨hlt0, c0, c1, c2⟩ := HD.out
  have HS : Hid (∀ w', Kp w0 w' → ((w'.cell? ⟨w.heap.size, 1, none⟩ = some (.int .i64 (f : Int)) ∧ w'.cell? ⟨w.heap.size, 2, none⟩ = some (.int .i64 (t : Int))) ∧ Kp w0 w')) := Lib.hid (fun w' h => ⟨⟨(h.cell (p := ⟨w.heap.size, 1, none⟩) hlt0).trans c1, (h.cell (p := ⟨w.heap.size, 2, none⟩) hlt0).trans c2⟩, h⟩)
  have HK0 := Lib.hid (Kp.drew w0)
  have HF2 := Lib.hid (fun w' (hk : Kp w0 w') => HF.out w' (HT.out.below hk))
  have HG2 := Lib.hid (fun w' (hk : Kp w0 w') => HG.out w' (HT.out.below hk))
  clear HF HG
  go_wp2_with fail
  go_region_held3 (fun w' => (w'.cell? ⟨w.heap.size, 1, none⟩ = some (.int .i64 (f : Int)) ∧ w'.cell? ⟨w.heap.size, 2, none⟩ = some (.int .i64 (t : Int))) ∧ Kp w0 w')
    (first | exact HS.out _ HK0.out | exact HS.out _ (by assumption))
    (first
      | (go_at_call 30; with_reducible refine (HF2.out _ (by first | exact HK0.out | assumption)).mono ?_; rintro e v1 ⟨rfl, b1⟩; have hk1 : Kp w0 v1 := Kp.next (by first | exact HK0.out | assumption) b1)
      | (go_at_call 30; with_reducible refine (HG2.out _ (by first | exact HK0.out | assumption)).mono ?_; rintro e v2 ⟨rfl, b2⟩; have hk2 : Kp w0 v2 := Kp.next (by first | exact HK0.out | assumption) b2))
  have hkv : Kp w0 v2 := hk2
  have HD2 := Lib.hid (HD.out.below hkv)
  have HX2 := Lib.hid (HX.out _ (HT.out.below hkv))
  have K2 : Below w.heap.size w v2 := HB.out.trans (Below.mono hkv HB.out.size)
  clear HX HF2 HG2 HS HK0 hk1 hk2 hkv c0 c1 c2 hlt0 HT HD HB
  (try clear hHeld)
  obtain ⟨hlt2, c0, c1, c2⟩ := HD2.out
  cases hfu : fullB f t st with
  | true =>
    have HE' : Hid (cT l.data.toList f t st = rT l.data.toList f t) := Lib.hid (by rw [HE.out, if_pos hfu])
    rw [hfu] at HFu
    have hd := of_decide_eq_true HFu.out.symm
    clear hfu HFu HE HNf
    by_cases h1 : st = 1
    · subst h1
      go_wp2_with fail
      refine HX2.out.mono ?_
      rintro e w4 ⟨rfl, b4⟩
      go_wp2_with fail
      go_ret
      exact ⟨by rw [HE'.out]; rfl, K2.trans (b4.mono K2.size)⟩
    · have h1b : (st == 1) = false := by simpa using h1
      by_cases h2 : f = t
      · have h2b : ((f : Int) == (t : Int)) = true := by simp; omega
        clear h1 hd
        subst h2
        go_wp2_with fail
        refine HX2.out.mono ?_
        rintro e w4 ⟨rfl, b4⟩
        go_wp2_with fail
        go_ret
        exact ⟨by rw [HE'.out]; rfl, K2.trans (b4.mono K2.size)⟩
      · have h2b : ((f : Int) == (t : Int)) = false := by rw [beq_eq_false_iff_ne]; omega
        have h3 : p.size ≠ q.size := by
          rcases hd with h | h | h
          · exact absurd h h1
          · exact absurd h h2
          · exact h
        have h3b : ((p.size : Int) != (q.size : Int)) = true := by rw [bne_iff_ne]; omega
        clear h1 hd h2
        go_wp2_with fail
        refine HX2.out.mono ?_
        rintro e w4 ⟨rfl, b4⟩
        go_wp2_with fail
        go_ret
        exact ⟨by rw [HE'.out]; rfl, K2.trans (b4.mono K2.size)⟩
  | false =>
    obtain ⟨h1, h2, h3, h4⟩ := HNf.out hfu
    have HE' : Hid (cT l.data.toList f t st = (l.data.toList ++ p.data.toList) ++ 45 :: q.data.toList.drop (lf st s q.size)) := Lib.hid (by rw [HE.out, if_neg (by rw [hfu]; exact Bool.false_ne_true)])
    have h1b : (st == 1) = false := by simpa using h1
    have h2b : ((f : Int) == (t : Int)) = false := by rw [beq_eq_false_iff_ne]; omega
    have h3b : ((p.size : Int) != (q.size : Int)) = false := by rw [bne_eq_false_iff_eq]; omega
    have HSh2 := Lib.hid (fun w => HSh.out w h3)
    have hsq : s < q.size := by omega
    have hlp : (l ++ p).size ≤ 6 := by rw [ByteArray.size_append]; omega
    have h45 : ¬ 9223372036854775807 < l.size + p.size := by omega
    clear hfu HFu HE HNf HSh h1 h2 h3 h4 HX2
    by_cases h3s : st = 3
    · subst h3s
      have hmin : min (s : Int) (max 0 ((q.size : Int) - 2)) = ((lf 3 s q.size : Nat) : Int) := by unfold lf; rw [if_pos rfl]; omega
      have hlf := lf_le 3 s q.size
      have HQ : Hid (ba (q.data.toList.drop (lf 3 s q.size)) = q.extract (lf 3 s q.size) q.size) := Lib.hid (cut_ba _ _).symm
      generalize lf 3 s q.size = k at *
      have hz : (q.extract k q.size).size ≤ 5 := by rw [← HQ.out, ba_size, List.length_drop, len_size]; omega
      go_wp2_with fail
      refine (HSh2.out _).mono ?_
      rintro e w4 ⟨rfl, q4, rfl⟩
      go_wp2_with fail
      have hz8 : ¬ 9223372036854775807 < l.size + p.size + 1 := by omega
      have hz9 : ¬ 9223372036854775807 < l.size + p.size + 1 + (q.extract k q.size).size := by omega
      have hkq : (k : Int) ≤ (q.size : Int) := by omega
      go_quiet (fail)
      go_wp2_with fail
      go_ret
      refine ⟨ret_str ?_, below_drewN (below_drewN K2 _) _⟩
      rw [HE'.out]
      rw [← HQ.out]
      apply ByteArray.ext
      simp [ba]
    · have h3sb : (st == 3) = false := by simpa using h3s
      have HL3 : Hid (lf st s q.size = s) := Lib.hid (by unfold lf; rw [if_neg h3s])
      rw [HL3.out] at HE'
      have HQ : Hid (ba (q.data.toList.drop s) = q.extract s q.size) := Lib.hid (cut_ba _ _).symm
      have hz : (q.extract s q.size).size ≤ 5 := by rw [← HQ.out, ba_size, List.length_drop, len_size]; omega
      have hz8 : ¬ 9223372036854775807 < l.size + p.size + 1 := by omega
      have hz9 : ¬ 9223372036854775807 < l.size + p.size + 1 + (q.extract s q.size).size := by omega
      have hkq : (s : Int) ≤ (q.size : Int) := by omega
      clear h3s
      go_wp2_with fail
      refine (HSh2.out _).mono ?_
      rintro e w4 ⟨rfl, q4, rfl⟩
      go_wp2_with fail
      go_quiet (fail)
      go_wp2_with fail
      go_ret
      refine ⟨ret_str ?_, below_drewN (below_drewN K2 _) _⟩
      rw [HE'.out]
      rw [← HQ.out]
      apply ByteArray.ext
      simp [ba]

set_option maxHeartbeats 4000000 in
theorem col_s (l : ByteArray) (f t : Nat) (st : Int) (w : World) (hl : l.size ≤ 1) (hf : f ≤ 99999) (ht : t ≤ 99999) :
    Calls Tryd.prog 11 #[prV l f t, .int .i64 st] w fun e w' => e = .returned (.string (ba (cT l.data.toList f t st))) ∧ Below w.heap.size w w' := by
  have hb0 := box_below w (.cells #[.string l, .int .i64 (f : Int), .int .i64 (t : Int)] 23)
  have HB := Lib.hid hb0
  have HD := Lib.hid (P3.new w l f t 23)
  have HF := Lib.hid (fun w => l1Num_nat f (by omega) w)
  have HG := Lib.hid (fun w => l1Num_nat t (by omega) w)
  have HX := Lib.hid (fun w => text_s l f t w hl hf ht)
  clear hb0
  have h5 : (ba (Lib.decDigits f)).size ≤ 5 := by rw [ba_size]; exact dec5 hf
  have h6 : (ba (Lib.decDigits t)).size ≤ 5 := by rw [ba_size]; exact dec5 ht
  have hz5 : (ba (Lib.decDigits f)).size = (Lib.decDigits f).length := ba_size _
  have hz6 : (ba (Lib.decDigits t)).size = (Lib.decDigits t).length := ba_size _
  have H1 : Hid (Lib.decDigits f = (ba (Lib.decDigits f)).data.toList) := Lib.hid (toList_ba _).symm
  have H2 : Hid (Lib.decDigits t = (ba (Lib.decDigits t)).data.toList) := Lib.hid (toList_ba _).symm
  have HE : Hid (cT l.data.toList f t st = if fullB f t st then rT l.data.toList f t else (l.data.toList ++ Lib.decDigits f) ++ 45 :: (Lib.decDigits t).drop (lf st (sh (Lib.decDigits f) (Lib.decDigits t)) (Lib.decDigits t).length)) := Lib.hid rfl
  have HFu : Hid (fullB f t st = decide (st = 1 ∨ f = t ∨ (Lib.decDigits f).length ≠ (Lib.decDigits t).length)) := Lib.hid rfl
  have HNf := Lib.hid (fun h => not_full (f := f) (t := t) (st := st) h)
  rw [← hz5, ← hz6] at HNf HFu
  rw [← hz6] at HE
  rw [H1.out, H2.out, ba_toList] at HE
  rw [H1.out, H2.out, ba_toList, ba_toList] at HNf
  clear hz5 hz6 H1 H2
  generalize ba (Lib.decDigits f) = p at *
  generalize ba (Lib.decDigits t) = q at *
  obtain ⟨s, HSe⟩ : ∃ s, Hid (sh p.data.toList q.data.toList = s) := ⟨_, Lib.hid rfl⟩
  rw [HSe.out] at HE HNf
  go_enter Tryd.func11, Tryd.ntmps11
  go_wp2_with fail
  go_quiet ((first | (go_at_call 9; with_reducible exact Calls.quiet_of (HF.out _)) | (go_at_call 9; with_reducible exact Calls.quiet_of (HG.out _))))
  generalize hW : (w.alloc (.cells #[.string l, .int .i64 (f : Int), .int .i64 (t : Int)] 23)).drewN _ = v2
  have HD2 : Hid (P3 v2 w.heap.size l f t) := Lib.hid (by rw [← hW]; exact HD.out)
  have K2 : Below w.heap.size w v2 := by rw [← hW]; exact below_drewN HB.out _
  clear hW HF HG HD HB
  obtain ⟨hlt2, c0, c1, c2⟩ := HD2.out
  cases hfu : fullB f t st with
  | true =>
    have HE' : Hid (cT l.data.toList f t st = rT l.data.toList f t) := Lib.hid (by rw [HE.out, if_pos hfu])
    rw [hfu] at HFu
    have hd := of_decide_eq_true HFu.out.symm
    clear hfu HFu HE HNf
    by_cases h1 : st = 1
    · subst h1
      go_wp2_with fail
      refine (HX.out _).mono ?_
      rintro e w4 ⟨rfl, b4⟩
      go_wp2_with fail
      go_ret
      exact ⟨by rw [HE'.out]; rfl, K2.trans (b4.mono K2.size)⟩
    · have h1b : (st == 1) = false := by simpa using h1
      by_cases h2 : f = t
      · clear h1 hd
        subst h2
        go_wp2_with fail
        refine (HX.out _).mono ?_
        rintro e w4 ⟨rfl, b4⟩
        go_wp2_with fail
        go_ret
        exact ⟨by rw [HE'.out]; rfl, K2.trans (b4.mono K2.size)⟩
      · have h2b : ((t : Int) == (f : Int)) = false := by rw [beq_eq_false_iff_ne]; omega
        have h3 : p.size ≠ q.size := by
          rcases hd with h | h | h
          · exact absurd h h1
          · exact absurd h h2
          · exact h
        have h3b : ((p.size : Int) != (q.size : Int)) = true := by rw [bne_iff_ne]; omega
        clear h1 hd h2
        go_wp2_with fail
        refine (HX.out _).mono ?_
        rintro e w4 ⟨rfl, b4⟩
        go_wp2_with fail
        go_ret
        exact ⟨by rw [HE'.out]; rfl, K2.trans (b4.mono K2.size)⟩
  | false =>
    obtain ⟨h1, h2, h3, h4⟩ := HNf.out hfu
    have HE' : Hid (cT l.data.toList f t st = (l.data.toList ++ p.data.toList) ++ 45 :: q.data.toList.drop (lf st s q.size)) := Lib.hid (by rw [HE.out, if_neg (by rw [hfu]; exact Bool.false_ne_true)])
    have h1b : (st == 1) = false := by simpa using h1
    have h2b : ((t : Int) == (f : Int)) = false := by rw [beq_eq_false_iff_ne]; omega
    have h3b : ((p.size : Int) != (q.size : Int)) = false := by rw [bne_eq_false_iff_eq]; omega
    have hsp : s < p.size := h4
    have hsq : s < q.size := by omega
    have h45 : ¬ 9223372036854775807 < l.size + p.size := by omega
    clear hfu HFu HE HNf h1 h2 h3 h4 HX
    go_wp2_with fail
    go_loopw [7] (fun i wr => ∃ k : Nat, k ≤ s ∧ i = .int .i64 k ∧ Hid (sh (p.data.toList.drop k) (q.data.toList.drop k) + k = s) ∧ ∃ q, wr = v2.drewN q) (fun i _ => s - (intOf i).toNat)
    case atStart => exact ⟨0, Nat.zero_le _, rfl, Lib.hid HSe.out, 0, rfl⟩
    case round =>
      obtain ⟨k, hk, rfl, HD, q1, rfl⟩ := hrel
      have hlt : k < p.size := by omega
      have hltq : k < q.size := by omega
      have HS := Lib.hid (sh_at hlt hltq)
      by_cases he : p[k] = q[k]
      · have HS' : Hid (sh (p.data.toList.drop k) (q.data.toList.drop k) = sh (p.data.toList.drop (k + 1)) (q.data.toList.drop (k + 1)) + 1) := Lib.hid (by rw [HS.out, if_pos he])
        have hee : ((p[k].toNat : Int) == (q[k].toNat : Int)) = true := by rw [he]; simp
        have hks : k < s := by have := HD.out; have := HS'.out; omega
        clear HS he
        go_wp2_with fail
        go_quiet (fail)
        go_wp2_with fail
        go_roundw
        case rel => exact ⟨k + 1, by omega, by go_num, Lib.hid (by rw [← HD.out, HS'.out]; omega), _, rfl⟩
        case measure => simp [intOf]; omega
      · have hks : k = s := by have := HD.out; rw [HS.out, if_neg he] at this; omega
        have hee : ((p[k].toNat : Int) == (q[k].toNat : Int)) = false := by
          rw [beq_eq_false_iff_ne]
          intro h
          exact he (UInt8.toNat_inj.1 (by omega))
        clear HS he
        by_cases h3s : st = 3
        · have hmin : max (min (s : Int) ((q.size : Int) - 2)) 0 = ((lf st s q.size : Nat) : Int) := by unfold lf; rw [if_pos h3s]; omega
          have hlf := lf_le st s q.size
          have HQ : Hid (ba (q.data.toList.drop (lf st s q.size)) = q.extract (lf st s q.size) q.size) := Lib.hid (cut_ba _ _).symm
          generalize lf st s q.size = j at *
          have hz : (q.extract j q.size).size ≤ 5 := by rw [← HQ.out, ba_size, List.length_drop, len_size]; omega
          have hz8 : ¬ 9223372036854775807 < l.size + p.size + 1 := by omega
          have hz9 : ¬ 9223372036854775807 < l.size + p.size + 1 + (q.extract j q.size).size := by omega
          have hkq : (j : Int) ≤ (q.size : Int) := by omega
          have HM := Lib.hid hmin
          have HKs := Lib.hid hks
          clear hks hmin
          subst h3s
          go_wp2_with fail
          go_quiet (fail)
          go_wp2_with fail
          refine (least_s _ _ _).mono ?_
          rintro e w6 ⟨rfl, rfl⟩
          go_wp2_with fail
          refine (most_s _ _ _).mono ?_
          rintro e w6 ⟨he6, rfl⟩
          rw [HKs.out, HM.out] at he6
          subst he6
          go_wp2_with fail
          go_quiet (fail)
          go_wp2_with fail
          go_ret
          refine ⟨ret_str ?_, ?_⟩
          · rw [HE'.out]
            rw [← HQ.out]
            apply ByteArray.ext
            simp [ba]
          · first | exact below_drewN K2 _ | exact below_drewN (below_drewN K2 _) _ | exact below_drewN (below_drewN (below_drewN K2 _) _) _
        · have h3sb : (st == 3) = false := by simpa using h3s
          have HL3 : Hid (lf st s q.size = s) := Lib.hid (by unfold lf; rw [if_neg h3s])
          rw [HL3.out] at HE'
          have HQ : Hid (ba (q.data.toList.drop s) = q.extract s q.size) := Lib.hid (cut_ba _ _).symm
          have hz : (q.extract s q.size).size ≤ 5 := by rw [← HQ.out, ba_size, List.length_drop, len_size]; omega
          have hz8 : ¬ 9223372036854775807 < l.size + p.size + 1 := by omega
          have hz9 : ¬ 9223372036854775807 < l.size + p.size + 1 + (q.extract s q.size).size := by omega
          have hkq : (s : Int) ≤ (q.size : Int) := by omega
          clear h3s
          subst hks
          go_wp2_with fail
          go_quiet (fail)
          go_wp2_with fail
          go_quiet (fail)
          go_wp2_with fail
          go_ret
          refine ⟨ret_str ?_, ?_⟩
          · rw [HE'.out]
            rw [← HQ.out]
            apply ByteArray.ext
            simp [ba]
          · first | exact below_drewN K2 _ | exact below_drewN (below_drewN K2 _) _ | exact below_drewN (below_drewN (below_drewN K2 _) _) _

set_option maxHeartbeats 1000000 in
theorem collapse_i (l : ByteArray) (f t : Int) (st : Int) (z : Bool) (s : ByteArray) (w : World) (hT : Tab w) (hz : colB ⟨l, f, t⟩ st = z) (hs : colS z ⟨l, f, t⟩ st = s) :
    Calls Tryd.prog 15 #[prV l f t, .int .i64 st] w fun e w' => e = .returned (.tuple #[.string s, .bool z]) ∧ Below w.heap.size w w' := by
  have hb0 := box_below w (.cells #[.string l, .int .i64 f, .int .i64 t] 23)
  have HB := Lib.hid hb0
  have HD := Lib.hid (P3.new w l f t 23)
  have HZ : Hid ((okR l f t && decide (1 ≤ st ∧ st ≤ 3)) = z) := Lib.hid hz
  generalize hr : okR l f t = r at HZ
  have HR := Lib.hid hr
  have HT := Lib.hid (hT.below hb0)
  clear hT
  clear hz hb0
  cases r with
  | false =>
    have HZ' : Hid (z = false) := Lib.hid (by rw [← HZ.out]; rfl)
    have HS : Hid (s = ⟨#[]⟩) := Lib.hid (by rw [← hs, HZ'.out]; rfl)
    clear hs hr
    go_enter Tryd.func15, Tryd.ntmps15
    go_wp2_with fail
    refine (valid_i l f t false _ HR.out).mono ?_
    rintro e w1 ⟨rfl, b1⟩
    have k1 := HB.out.trans (b1.mono HB.out.size)
    clear b1
    go_wp2_with fail
    go_ret2
    exact ⟨by rw [HS.out, HZ'.out]; rfl, k1⟩
  | true =>
    by_cases h13 : 1 ≤ st ∧ st ≤ 3
    · have HZ' : Hid (z = true) := Lib.hid (by rw [← HZ.out, decide_eq_true h13]; rfl)
      have HS : Hid (ba (cT l.data.toList f.toNat t.toNat st) = s) := Lib.hid (by rw [← hs, HZ'.out]; rfl)
      obtain ⟨f', t', e1, e2, hf, ht, hft, h1f, hl⟩ := ok_nat (x := ⟨l, f, t⟩) hr
      dsimp only at e1 e2 hl
      subst e1
      subst e2
      clear hs hr h1f hft
      have HC := Lib.hid (fun w hw => col_i l f' t' st w hl hf ht hw)
      rw [Int.toNat_natCast, Int.toNat_natCast] at HS
      rw [HS.out] at HC
      obtain ⟨h1, h3⟩ := h13
      have HI : Hid (decide (1 ≤ st ∧ st ≤ 3) = true) := Lib.hid (decide_eq_true ⟨h1, h3⟩)
      go_enter Tryd.func15, Tryd.ntmps15
      go_wp2_with fail
      refine (valid_i l f' t' true _ HR.out).mono ?_
      rintro e w1 ⟨rfl, b1⟩
      have k1 := HB.out.trans (b1.mono HB.out.size)
      have D1 := Lib.hid (HD.out.below b1)
      have T1 := Lib.hid (HT.out.below b1)
      clear b1
      obtain ⟨hlt, c0, c1, c2⟩ := D1.out
      go_wp2_with fail
      skip
      refine (HC.out _ T1.out).mono ?_
      rintro e w2 ⟨rfl, b2⟩
      have k2 := k1.trans (b2.mono k1.size)
      clear b2 hlt c0 c1 c2
      go_wp2_with fail
      go_ret2
      exact ⟨by rw [HZ'.out]; rfl, k2⟩
    · have HZ' : Hid (z = false) := Lib.hid (by rw [← HZ.out, decide_eq_false h13]; rfl)
      have HS : Hid (s = ⟨#[]⟩) := Lib.hid (by rw [← hs, HZ'.out]; rfl)
      clear hs hr
      by_cases h1 : st < 1
      · clear h13
        go_enter Tryd.func15, Tryd.ntmps15
        go_wp2_with fail
        refine (valid_i l f t true _ HR.out).mono ?_
        rintro e w1 ⟨rfl, b1⟩
        have k1 := HB.out.trans (b1.mono HB.out.size)
        clear b1
        go_wp2_with fail
        go_ret2
        exact ⟨by rw [HS.out, HZ'.out]; rfl, k1⟩
      · have h3 : 3 < st := by omega
        have h1' : 1 ≤ st := by omega
        clear h13 h1
        go_enter Tryd.func15, Tryd.ntmps15
        go_wp2_with fail
        refine (valid_i l f t true _ HR.out).mono ?_
        rintro e w1 ⟨rfl, b1⟩
        have k1 := HB.out.trans (b1.mono HB.out.size)
        clear b1
        go_wp2_with fail
        go_ret2
        exact ⟨by rw [HS.out, HZ'.out]; rfl, k1⟩

end Go.Proofs.YtiekplndcpcdkaaDoor.PgC
