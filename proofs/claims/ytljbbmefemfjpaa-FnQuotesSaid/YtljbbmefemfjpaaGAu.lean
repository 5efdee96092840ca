/-
  Several texts of one claim in one file: QtA, QtU.
-/
import Derived.Test.YtljbbmefemfjpaaQtZ
import Derived.Test.YtljbbmefemfjpaaQtXa
/-
  AlternateQuotes of both.
-/
namespace Go.Proofs.Ytljbbmefemfjpaa.QtA
open Go.RowKit QtPl QtB QtIn QtC QtM QtR QtS RowB Pl QtX QtE QtY QtQ QtZ QtXa
open Kt (pr)
set_option linter.unusedSimpArgs false
set_option linter.unusedVariables false

set_option maxHeartbeats 1000000 in
theorem alter_i (s : ByteArray) (w : World) (hs : s.size ≤ 1048576) : Calls Try.prog 8 #[.string s] w fun e w' => e = .returned (aqV s) ∧ Below w.heap.size w w' := by
  have HQ := Lib.hid (fun z w hz => quoted_i s z w hs hz)
  cases h : okQ s with
  | false =>
    have HE : Hid (aqV s = fail2) := Lib.hid (by unfold aqV; rw [if_neg (by rw [h]; simp)])
    have H1 := Lib.hid (fun w => HQ.out false w h)
    clear h HQ
    go_enter Try.func8, Try.ntmps8
    go_wp2_with (first | (go_at_call 23; refine (H1.out _).mono ?_; rintro e w' ⟨rfl, rfl⟩))
    go_ret2
    exact ⟨by rw [HE.out]; rfl, Below.refl _ _⟩
  | true =>
    have hsz := okQ_size h
    have H1 := Lib.hid (fun w => HQ.out true w h)
    have HR := Lib.hid (fun w' Bq (hX : QX w w' Bq s (qrun s s.size)) => rem_alt w w' Bq s (qrun s s.size) hX (inv_run s s.size) hsz)
    have HRd := Lib.hid (read_q s w hsz)
    have HE : Hid (aqV s = .tuple #[.string (altT s), .bool true]) := Lib.hid (by unfold aqV; rw [if_pos h])
    change Hid (∀ w' Bq, QX w w' Bq s (qrun s s.size) → Calls _ _ _ _ fun e w'' => e = .returned (.string (altT s)) ∧ _) at HR
    generalize altT s = T at HR HE
    clear h HQ
    go_enter Try.func8, Try.ntmps8
    go_wp2_with (first | (go_at_call 23; refine (H1.out _).mono ?_; rintro e w' ⟨rfl, rfl⟩))
    refine HRd.out.mono ?_
    rintro e w1 ⟨rfl, hX⟩
    have HR1 := Lib.hid (HR.out w1 _ hX)
    have hb1 : Kp w w1 := by obtain ⟨_, _, _, _, h9⟩ := hX; exact h9.bel
    clear hX
    go_wp2_with fail
    refine HR1.out.mono ?_
    rintro e w2 ⟨rfl, b2⟩
    go_wp2_with fail
    go_ret2
    exact ⟨by rw [HE.out]; rfl, ktr hb1 b2⟩
theorem alt_low {s : ByteArray} {q : Qs} (h : QInv s s.size q) {i : Nat} {m : Int} (hm : q.M[i]? = some m) (h0 : 0 ≤ m) : ∃ (a : Nat) (b : Int), q.M[a]? = some b ∧ min (i : Int) m = (a : Int) ∧ a < s.size ∧ rmB s q.M (alt q.M) i = if dm q.M a b % 2 = 0 then 39 else 34 := by
  rcases h.low i m hm with h9 | ⟨j, rfl, h1, h2, h3, h4, h5⟩
  · omega
  · have hil := lt_of_some hm
    rw [h.len] at hil
    have e : rmB s q.M (alt q.M) i = alt q.M (min i j) := by
      unfold rmB
      rw [hm]
      dsimp only
      rw [if_pos h0, Int.toNat_natCast]
    rcases Nat.le_total i j with h9 | h9
    · refine ⟨i, j, hm, by omega, hil, ?_⟩
      rw [e, Nat.min_eq_left h9]
      unfold alt
      rw [List.getD_eq_getElem?_getD, hm, Option.getD_some]
    · refine ⟨j, i, h3, by omega, by omega, ?_⟩
      rw [e, Nat.min_eq_right h9]
      unfold alt
      rw [List.getD_eq_getElem?_getD, h3, Option.getD_some]
theorem dm_le (M : List Int) (a : Nat) (b : Int) : dm M a b ≤ a + 1 := by
  unfold dm
  refine Nat.le_trans (List.length_filter_le _ _) ?_
  rw [List.length_take]
  omega

set_option maxRecDepth 100000 in
set_option maxHeartbeats 2000000 in
theorem alter_s (s : ByteArray) (w : World) (hs : s.size ≤ 1048576) : Calls Try.prog 9 #[.string s] w fun e w' => e = .returned (aqV s) ∧ Below w.heap.size w w' := by
  have HQ := Lib.hid (fun z w hz => quoted_s s z w hs hz)
  cases h : okQ s with
  | false =>
    have HE : Hid (aqV s = fail2) := Lib.hid (by unfold aqV; rw [if_neg (by rw [h]; simp)])
    have H1 := Lib.hid (fun w => HQ.out false w h)
    clear h HQ
    go_enter Try.func9, Try.ntmps9
    go_wp2_with (first | (go_at_call 25; refine (H1.out _).mono ?_; rintro e w' ⟨rfl, rfl⟩))
    go_ret2
    exact ⟨by rw [HE.out]; rfl, Below.refl _ _⟩
  | true =>
    have hsz := okQ_size h
    have H1 := Lib.hid (fun w => HQ.out true w h)
    have HE : Hid (aqV s = .tuple #[.string (altT s), .bool true]) := Lib.hid (by unfold aqV; rw [if_pos h])
    have HPt := Lib.hid (part_s s w hsz)
    have HI := Lib.hid (inv_run s s.size)
    unfold altT at HE
    unfold PtPost at HPt
    obtain ⟨q, hq⟩ : ∃ q, qrun s s.size = q := ⟨_, rfl⟩
    rw [hq] at HPt HI HE
    obtain ⟨T, hT⟩ : ∃ T : ByteArray, ⟨(rmk s q.M (alt q.M)).toArray⟩ = T := ⟨_, rfl⟩
    rw [hT] at HE
    have HT0 := Lib.hid hT
    obtain ⟨n, HN⟩ : ∃ n, Hid (n = s.size) := ⟨_, Lib.hid rfl⟩
    rw [← HN.out] at HPt hsz
    have HL := Lib.hid (len_size s)
    clear hq hT h HQ hs
    go_enter Try.func9, Try.ntmps9
    go_wp2_with (first | (go_at_call 25; refine (H1.out _).mono ?_; rintro e w' ⟨rfl, rfl⟩))
    refine HPt.out.mono ?_
    rintro e w1 ⟨g, c, rfl, ho, hb1⟩
    have HRm := Lib.hid (own_rm ho)
    have hb1' : Kp w w1 := hb1
    have hcv := Go.Lib.run_convert_string_bytes (P := Try.prog) w1 9 22 5 s Try.underlying9 Try.underlying22 Try.underlying5
    have HR := Lib.hid (row_new w1 s)
    have HB := Lib.hid (show Kp w1 _ from below_bytes w1 s)
    rw [← HN.out] at hcv
    generalize Lib.bytesWorld w1 5 s = W1 at *
    generalize grownCap w1 n 0 5 = cap at *
    clear ho hb1
    go_wp2_with fail
    clear hcv
    go_loopw [6] (fun i wr => ∃ k : Nat, k ≤ n ∧ i = .int .i64 k ∧ Hid (RowB wr w1.heap.size ((rmk s q.M (alt q.M)).take k ++ s.data.toList.drop k)) ∧ Kp w1 wr) (fun i _ => n - (intOf i).toNat)
    case atStart => exact ⟨0, Nat.zero_le _, rfl, Lib.hid (by simpa using HR.out), HB.out⟩
    case round =>
      obtain ⟨k, hk, rfl, HRk, hb⟩ := hrel
      by_cases hlt : k < n
      · have hks : k < s.size := by rw [← HN.out]; exact hlt
        have hkx : k < q.M.length := by rw [HI.out.len, ← HN.out]; exact hlt
        have hx? := List.getElem?_eq_getElem hkx
        obtain ⟨g0, hg0, hg, c0⟩ := (HRm.out.kp hb) k q.M[k] hx?
        cases hg0
        have HX := Lib.hid hx?
        clear hx?
        generalize q.M[k] = m at *
        by_cases h0 : 0 ≤ m
        · have h0' : ¬ m < 0 := by omega
          obtain ⟨a, b, hab, hmn, han, hrm⟩ := alt_low HI.out HX.out h0
          have hdl := dm_le q.M a b
          obtain ⟨d, hd⟩ : ∃ d, dm q.M a b = d := ⟨_, rfl⟩
          rw [hd] at hrm hdl
          have HLe := Lib.hid (fun w => least_q (k : Int) m (a : Int) w hmn)
          have HD := Lib.hid (fun w' (h : Kp wr w') => depth_s (some ⟨g, 0, none⟩) c n a b q.M w' (HRm.out.kp (ktr hb h)) (by rw [HI.out.len, ← HN.out]) hsz hab)
          rw [hd] at HD
          have HSt := Lib.hid (row_step (M := q.M) (f := alt q.M) hks)
          have hll := row_len (M := q.M) (f := alt q.M) (Nat.le_of_lt hks)
          obtain ⟨rk, zk⟩ := HRk.out k _ (List.getElem?_eq_getElem (by omega))
          have hdp : (0 : Int) ≤ (d : Int) := Int.natCast_nonneg _
          obtain ⟨g9, hg9, hgl, -⟩ := HRm.out k m HX.out
          cases hg9
          have c0s : (wr.setCell ⟨w1.heap.size, k, none⟩ (.int .u8 34)).cell? ⟨g, k, none⟩ = some (.int .i64 m) := by rw [World.cell?_setCell_other _ _ _ _ (by intro h9; cases h9; omega)]; exact c0
          have ht : (d : Int).tmod 2 = ((d % 2 : Nat) : Int) := by rw [Int.tmod_eq_emod_of_nonneg hdp]; omega
          have ht2 : (d : Int) % 2 = ((d % 2 : Nat) : Int) := by omega
          have HRa : Hid (RowB (wr.setCell ⟨w1.heap.size, k, none⟩ (.int .u8 34)) w1.heap.size (((rmk s q.M (alt q.M)).take k ++ s.data.toList.drop k).set k 34)) := Lib.hid (HRk.out.set (k := k) (by omega) 34)
          have hgw := rowb_lt HRk.out (by omega)
          have hka : Kp wr (wr.setCell ⟨w1.heap.size, k, none⟩ (.int .u8 (((34 : UInt8).toNat : Nat) : Int))) ∨ True := .inr trivial
          have hba : Kp w1 (wr.setCell ⟨w1.heap.size, k, none⟩ (.int .u8 34)) := Below.setCell hb (p := ⟨w1.heap.size, k, none⟩) (Nat.le_refl _) _
          have HDa := Lib.hid (depth_s (some ⟨g, 0, none⟩) c n a b q.M (wr.setCell ⟨w1.heap.size, k, none⟩ (.int .u8 34)) (HRm.out.kp hba) (by rw [HI.out.len, ← HN.out]) hsz hab)
          rw [hd] at HDa
          clear HD hka hd hmn hab HX
          by_cases he : d % 2 = 0
          · have hrb : rmB s q.M (alt q.M) k = 39 := by rw [hrm, if_pos he]
            rw [he] at ht ht2
            rw [hrb] at HSt
            have HR2 : Hid (∀ w', Kp (wr.setCell ⟨w1.heap.size, k, none⟩ (.int .u8 34)) w' → RowB (w'.setCell ⟨w1.heap.size, k, none⟩ (.int .u8 39)) w1.heap.size ((rmk s q.M (alt q.M)).take (k + 1) ++ s.data.toList.drop (k + 1)) ∧ Kp w1 (w'.setCell ⟨w1.heap.size, k, none⟩ (.int .u8 39)) ∧ (w'.cell? ⟨w1.heap.size, k, none⟩ = some (.int .u8 34) ∧ w'.frozen? ⟨w1.heap.size, k, none⟩ = false)) := Lib.hid (fun w' h9 => by
              have hl9 : ((rmk s q.M (alt q.M)).take k ++ s.data.toList.drop k).length = s.size := row_len (M := q.M) (f := alt q.M) (Nat.le_of_lt hks)
              have r9 : RowB w' w1.heap.size (((rmk s q.M (alt q.M)).take k ++ s.data.toList.drop k).set k 34) := rowb_kp HRa.out h9 (by rw [Go.Deep.nblk_setCell]; exact hgw)
              have r8 := r9.set (k := k) (by rw [List.length_set]; omega) 39
              rw [List.set_set, HSt.out] at r8
              have r7 := r9 k 34 (by rw [List.getElem?_set, if_pos rfl, if_pos (by omega)])
              exact ⟨r8, Below.setCell (ktr hba h9) (p := ⟨w1.heap.size, k, none⟩) (Nat.le_refl _) _, r7⟩)
            clear he hrb hrm
            go_wp2_with (first | (go_at_call 32; refine (HLe.out _).mono ?_; rintro e w' ⟨rfl, rfl⟩) | (go_at_call 31; refine HDa.out.mono ?_; rintro e w2 ⟨rfl, b2⟩; have hR3 := HR2.out _ b2; obtain ⟨hR4, hR5, rk2, zk2⟩ := hR3; have HR4 := Lib.hid hR4; clear hR4 b2))
            go_roundw
            case rel => exact ⟨k + 1, by omega, by go_num, HR4, hR5⟩
            case measure => (simp [intOf] <;> omega)
          · have hrb : rmB s q.M (alt q.M) k = 34 := by rw [hrm, if_neg he]
            have he1 : d % 2 = 1 := by omega
            rw [he1] at ht ht2
            rw [hrb] at HSt
            rw [HSt.out] at HRa
            have HR2 : Hid (∀ w', Kp (wr.setCell ⟨w1.heap.size, k, none⟩ (.int .u8 34)) w' → RowB w' w1.heap.size ((rmk s q.M (alt q.M)).take (k + 1) ++ s.data.toList.drop (k + 1)) ∧ Kp w1 w') := Lib.hid (fun w' h9 => ⟨rowb_kp HRa.out h9 (by rw [Go.Deep.nblk_setCell]; exact hgw), ktr hba h9⟩)
            clear he hrb hrm
            go_wp2_with (first | (go_at_call 32; refine (HLe.out _).mono ?_; rintro e w' ⟨rfl, rfl⟩) | (go_at_call 31; refine HDa.out.mono ?_; rintro e w2 ⟨rfl, b2⟩; have hR3 := HR2.out _ b2; obtain ⟨hR4, hR5⟩ := hR3; have HR4 := Lib.hid hR4; clear hR4 b2))
            go_roundw
            case rel => exact ⟨k + 1, by omega, by go_num, HR4, hR5⟩
            case measure => (simp [intOf] <;> omega)
        · have h0' : m < 0 := by omega
          have HSm := Lib.hid (row_same (M := q.M) (f := alt q.M) hks (rm_none HX.out (by omega)))
          rw [HSm.out] at HRk
          clear HX HSm
          go_wp2_with fail
          go_roundw
          case rel => exact ⟨k + 1, by omega, by go_num, HRk, hb⟩
          case measure => (simp [intOf] <;> omega)
      · obtain rfl : k = n := by omega
        have HEn : Hid ((rmk s q.M (alt q.M)).take k ++ s.data.toList.drop k = rmk s q.M (alt q.M)) := Lib.hid (by rw [List.take_of_length_le (by rw [rmk_len, ← HN.out]; exact Nat.le_refl _), List.drop_eq_nil_of_le (by rw [HL.out, ← HN.out]; exact Nat.le_refl _), List.append_nil])
        have hst := row_str (cap := cap) HRk.out (n := k) (by rw [HEn.out, rmk_len, ← HN.out])
        rw [nums_str, HEn.out, HT0.out] at hst
        change (convert 22 9 (.slice (some ⟨w1.heap.size, 0, none⟩) k cap)).run Try.prog wr = .ok (.string T) wr at hst
        go_wp2_with fail
        go_ret2
        exact ⟨by rw [HE.out]; rfl, ktr hb1' hb⟩
end Go.Proofs.Ytljbbmefemfjpaa.QtA
/-
  UnquoteText of both.
-/
namespace Go.Proofs.Ytljbbmefemfjpaa.QtU
open Go.RowKit QtPl QtB QtIn QtC QtM QtR QtS RowB Pl QtX QtE QtY QtQ QtZ
open Kt (pr)
set_option linter.unusedSimpArgs false
set_option linter.unusedVariables false

theorem sub_ok {s : ByteArray} (h : okQ s = true) : okQ (s.extract 1 (s.size - 1)) = true := by
  have h1 := okQ_size h
  have h2 := okQ_all h
  unfold okQ
  rw [Bool.and_eq_true]
  refine ⟨decide_eq_true (by rw [ByteArray.size_extract]; omega), ?_⟩
  rw [List.all_eq_true] at h2 ⊢
  intro c hc
  refine h2 c ?_
  rw [ByteArray.data_extract, Array.mem_toList_iff] at hc
  rw [Array.mem_toList_iff]
  obtain ⟨i, hi, rfl⟩ := Array.mem_iff_getElem.1 hc
  rw [Array.getElem_extract]
  exact Array.getElem_mem _
set_option maxRecDepth 100000 in
set_option maxHeartbeats 2000000 in
theorem unquote_i (s : ByteArray) (w : World) (hs : s.size ≤ 1048576) : Calls Try.prog 16 #[.string s] w fun e w' => e = .returned (uqV s) ∧ Below w.heap.size w w' := by
  have HQ := Lib.hid (fun z w hz => quoted_i s z w hs hz)
  cases h : okQ s with
  | false =>
    have HE : Hid (uqV s = fail2) := Lib.hid (by unfold uqV btw; rw [if_neg (by rw [h]; simp)])
    have H1 := Lib.hid (fun w => HQ.out false w h)
    clear h HQ
    go_enter Try.func16, Try.ntmps16
    go_wp2_with (first | (go_at_call 23; refine (H1.out _).mono ?_; rintro e w' ⟨rfl, rfl⟩))
    go_ret2
    exact ⟨by rw [HE.out]; rfl, Below.refl _ _⟩
  | true =>
    have hsz := okQ_size h
    have H1 := Lib.hid (fun w => HQ.out true w h)
    clear HQ
    by_cases h2 : 2 ≤ s.size
    rotate_left
    · have HE : Hid (uqV s = fail2) := Lib.hid (by unfold uqV btw; rw [if_neg (by rw [decide_eq_false h2]; simp)])
      have h2' : s.size < 2 := by omega
      clear h
      go_enter Try.func16, Try.ntmps16
      go_wp2_with (first | (go_at_call 23; refine (H1.out _).mono ?_; rintro e w' ⟨rfl, rfl⟩))
      go_ret2
      exact ⟨by rw [HE.out]; rfl, Below.refl _ _⟩
    have h2' : ¬ s.size < 2 := by omega
    have hn0 : 0 < s.size := by omega
    have hn1 : s.size - 1 < s.size := by omega
    have hwl : IntKind.i64.wrap ((s.size : Int) - 1) = (s.size : Int) - 1 := by rw [IntKind.wrap_i64]; omega
    have hw0 : (0 : Int) ≤ (s.size : Int) - 1 := by omega
    have hw1 : (1 : Int) ≤ (s.size : Int) := by omega
    have hw2 : (2 : Int) ≤ (s.size : Int) := by omega
    have hw3 : (1 : Int) ≤ (s.size : Int) - 1 := by omega
    have hw4 : (s.size : Int) - 1 ≤ (s.size : Int) := by omega
    have hw5 : decide ((s.size : Int) < 2) = false := by simp; omega
    have hwt : ((s.size : Int) - 1).toNat = s.size - 1 := by omega
    by_cases h3 : s[0] = 34
    rotate_left
    · have HE : Hid (uqV s = fail2) := Lib.hid (by unfold uqV btw; rw [if_neg (by rw [bt_eq hn0, show (s[0] == 34) = false from beq_eq_false_iff_ne.2 h3]; simp)])
      have hb3 : ((s[0].toNat : Int) != 34) = true := by
        rw [bne_iff_ne]; intro h9; exact h3 (UInt8.toNat_inj.1 (by show s[0].toNat = 34; omega))
      clear h h3
      go_enter Try.func16, Try.ntmps16
      go_wp2_with (first | (go_at_call 23; refine (H1.out _).mono ?_; rintro e w' ⟨rfl, rfl⟩))
      go_ret2
      exact ⟨by rw [HE.out]; rfl, Below.refl _ _⟩
    have hb3 : ((s[0].toNat : Int) != 34) = false := by rw [h3]; rfl
    by_cases h4 : s[s.size - 1] = 34
    rotate_left
    · have HE : Hid (uqV s = fail2) := Lib.hid (by unfold uqV btw; rw [if_neg (by rw [bt_eq hn1, show (s[s.size - 1] == 34) = false from beq_eq_false_iff_ne.2 h4]; simp)])
      have hb4 : ((s[s.size - 1].toNat : Int) != 34) = true := by
        rw [bne_iff_ne]; intro h9; exact h4 (UInt8.toNat_inj.1 (by show s[s.size - 1].toNat = 34; omega))
      clear h h3 h4
      go_enter Try.func16, Try.ntmps16
      go_wp2_with (first | (go_at_call 23; refine (H1.out _).mono ?_; rintro e w' ⟨rfl, rfl⟩))
      go_ret2
      exact ⟨by rw [HE.out]; rfl, Below.refl _ _⟩
    have hb4 : ((s[s.size - 1].toNat : Int) != 34) = false := by rw [h4]; rfl
    have hbt : btw s = true := by unfold btw; rw [h, decide_eq_true h2, bt_eq hn0, bt_eq hn1, h3, h4]; rfl
    obtain ⟨x, hx⟩ : ∃ x, s.extract 1 (s.size - 1) = x := ⟨_, rfl⟩
    have hxs : x.size = s.size - 2 := by rw [← hx, ByteArray.size_extract]; omega
    have hxo : okQ x = true := by rw [← hx]; exact sub_ok h
    have HX := Lib.hid (fun w => exch_q x w (okQ_size hxo))
    change Hid (∀ w, Calls _ _ _ _ fun e w' => e = .returned (.string (exch x)) ∧ _) at HX
    have hti : inn s = exch x := by unfold inn; rw [hx]
    obtain ⟨t, ht⟩ : ∃ t, exch x = t := ⟨_, rfl⟩
    have hts : t.size = s.size - 2 := by rw [← ht, exch_size, hxs]
    have hto : okQ t = true := by rw [← ht]; unfold okQ; rw [exch_size, exch_all (okQ_all hxo), decide_eq_true (by omega)]; rfl
    rw [ht] at HX hti
    have HXe := Lib.hid hx
    obtain ⟨u, hu⟩ : ∃ u, quo (exch t) = u := ⟨_, rfl⟩
    have HT := Lib.hid (fun w => quote_i t w (by omega))
    have HqV : qtV t = .tuple #[.string u, .bool true] := by unfold qtV; rw [if_pos ⟨hto, by omega⟩, hu]
    rw [HqV] at HT
    by_cases he : u = s
    · have hel : (u.toList == s.toList) = true := by rw [he]; exact beq_self_eq_true _
      have heb : (u.toList != s.toList) = false := by rw [he]; simp
      have HE : Hid (uqV s = .tuple #[.string t, .bool true]) := Lib.hid (by unfold uqV; rw [hti, hu, if_pos ⟨hbt, he⟩])
      clear h h3 h4 hbt hx hxo hti ht hto hu he HqV 
      go_enter Try.func16, Try.ntmps16
      go_wp2_with (first | (go_at_call 23; refine (H1.out _).mono ?_; rintro e w' ⟨rfl, rfl⟩) | (go_at_call 24; rw [HXe.out]; refine (HX.out _).mono ?_; rintro e w1 ⟨rfl, b1⟩) | (go_at_call 6; refine (HT.out _).mono ?_; rintro e w2 ⟨rfl, b2⟩))
      go_ret2
      exact ⟨by rw [HE.out]; rfl, ktr b1 b2⟩
    · have hne : u.toList ≠ s.toList := fun h9 => he (by apply ByteArray.ext; rw [Lib.toList_data, Lib.toList_data] at h9; exact Array.toList_inj.1 h9)
      have hel : (u.toList == s.toList) = false := beq_eq_false_iff_ne.2 hne
      have heb : (u.toList != s.toList) = true := by rw [bne_iff_ne]; exact hne
      have HE : Hid (uqV s = fail2) := Lib.hid (by unfold uqV; rw [hti, hu, if_neg (fun h9 => he h9.2)])
      clear h h3 h4 hbt hx hxo hti ht hto hu he hne HqV 
      go_enter Try.func16, Try.ntmps16
      go_wp2_with (first | (go_at_call 23; refine (H1.out _).mono ?_; rintro e w' ⟨rfl, rfl⟩) | (go_at_call 24; rw [HXe.out]; refine (HX.out _).mono ?_; rintro e w1 ⟨rfl, b1⟩) | (go_at_call 6; refine (HT.out _).mono ?_; rintro e w2 ⟨rfl, b2⟩))
      go_ret2
      exact ⟨by rw [HE.out]; rfl, ktr b1 b2⟩

set_option maxRecDepth 100000 in
set_option maxHeartbeats 2000000 in
theorem unquote_s (s : ByteArray) (w : World) (hs : s.size ≤ 1048576) : Calls Try.prog 17 #[.string s] w fun e w' => e = .returned (uqV s) ∧ Below w.heap.size w w' := by
  have HQ := Lib.hid (fun z w hz => quoted_s s z w hs hz)
  cases h : okQ s with
  | false =>
    have HE : Hid (uqV s = fail2) := Lib.hid (by unfold uqV btw; rw [if_neg (by rw [h]; simp)])
    have H1 := Lib.hid (fun w => HQ.out false w h)
    clear h HQ
    go_enter Try.func17, Try.ntmps17
    go_wp2_with (first | (go_at_call 25; refine (H1.out _).mono ?_; rintro e w' ⟨rfl, rfl⟩))
    go_ret2
    exact ⟨by rw [HE.out]; rfl, Below.refl _ _⟩
  | true =>
    have hsz := okQ_size h
    have H1 := Lib.hid (fun w => HQ.out true w h)
    clear HQ
    by_cases h2 : 2 ≤ s.size
    rotate_left
    · have HE : Hid (uqV s = fail2) := Lib.hid (by unfold uqV btw; rw [if_neg (by rw [decide_eq_false h2]; simp)])
      have h2' : s.size < 2 := by omega
      clear h
      go_enter Try.func17, Try.ntmps17
      go_wp2_with (first | (go_at_call 25; refine (H1.out _).mono ?_; rintro e w' ⟨rfl, rfl⟩))
      go_ret2
      exact ⟨by rw [HE.out]; rfl, Below.refl _ _⟩
    have h2' : ¬ s.size < 2 := by omega
    have hn0 : 0 < s.size := by omega
    have hn1 : s.size - 1 < s.size := by omega
    have hwl : IntKind.i64.wrap ((s.size : Int) - 1) = (s.size : Int) - 1 := by rw [IntKind.wrap_i64]; omega
    have hw0 : (0 : Int) ≤ (s.size : Int) - 1 := by omega
    have hw1 : (1 : Int) ≤ (s.size : Int) := by omega
    have hw2 : (2 : Int) ≤ (s.size : Int) := by omega
    have hw3 : (1 : Int) ≤ (s.size : Int) - 1 := by omega
    have hw4 : (s.size : Int) - 1 ≤ (s.size : Int) := by omega
    have hw5 : decide ((s.size : Int) < 2) = false := by simp; omega
    have hwt : ((s.size : Int) - 1).toNat = s.size - 1 := by omega
    by_cases h3 : s[0] = 34
    rotate_left
    · have HE : Hid (uqV s = fail2) := Lib.hid (by unfold uqV btw; rw [if_neg (by rw [bt_eq hn0, show (s[0] == 34) = false from beq_eq_false_iff_ne.2 h3]; simp)])
      have hb3 : ((s[0].toNat : Int) != 34) = true := by
        rw [bne_iff_ne]; intro h9; exact h3 (UInt8.toNat_inj.1 (by show s[0].toNat = 34; omega))
      clear h h3
      go_enter Try.func17, Try.ntmps17
      go_wp2_with (first | (go_at_call 25; refine (H1.out _).mono ?_; rintro e w' ⟨rfl, rfl⟩))
      go_ret2
      exact ⟨by rw [HE.out]; rfl, Below.refl _ _⟩
    have hb3 : ((s[0].toNat : Int) != 34) = false := by rw [h3]; rfl
    by_cases h4 : s[s.size - 1] = 34
    rotate_left
    · have HE : Hid (uqV s = fail2) := Lib.hid (by unfold uqV btw; rw [if_neg (by rw [bt_eq hn1, show (s[s.size - 1] == 34) = false from beq_eq_false_iff_ne.2 h4]; simp)])
      have hb4 : ((s[s.size - 1].toNat : Int) != 34) = true := by
        rw [bne_iff_ne]; intro h9; exact h4 (UInt8.toNat_inj.1 (by show s[s.size - 1].toNat = 34; omega))
      clear h h3 h4
      go_enter Try.func17, Try.ntmps17
      go_wp2_with (first | (go_at_call 25; refine (H1.out _).mono ?_; rintro e w' ⟨rfl, rfl⟩))
      go_ret2
      exact ⟨by rw [HE.out]; rfl, Below.refl _ _⟩
    have hb4 : ((s[s.size - 1].toNat : Int) != 34) = false := by rw [h4]; rfl
    have hbt : btw s = true := by unfold btw; rw [h, decide_eq_true h2, bt_eq hn0, bt_eq hn1, h3, h4]; rfl
    obtain ⟨x, hx⟩ : ∃ x, s.extract 1 (s.size - 1) = x := ⟨_, rfl⟩
    have hxs : x.size = s.size - 2 := by rw [← hx, ByteArray.size_extract]; omega
    have hxo : okQ x = true := by rw [← hx]; exact sub_ok h
    have HX := Lib.hid (fun w => change_s x w (okQ_size hxo))
    change Hid (∀ w, Calls _ _ _ _ fun e w' => e = .returned (.string (exch x)) ∧ _) at HX
    have hti : inn s = exch x := by unfold inn; rw [hx]
    obtain ⟨t, ht⟩ : ∃ t, exch x = t := ⟨_, rfl⟩
    have hts : t.size = s.size - 2 := by rw [← ht, exch_size, hxs]
    have hto : okQ t = true := by rw [← ht]; unfold okQ; rw [exch_size, exch_all (okQ_all hxo), decide_eq_true (by omega)]; rfl
    rw [ht] at HX hti
    have HXe := Lib.hid hx
    obtain ⟨u, hu⟩ : ∃ u, quo (exch t) = u := ⟨_, rfl⟩
    have HT := Lib.hid (fun w => quote_s t w (by omega))
    change Hid (∀ w, Calls _ _ _ _ fun e w' => e = .returned (.string (quo (exch t))) ∧ _) at HT
    rw [hu] at HT
    by_cases he : u = s
    · have hel : (u.toList == s.toList) = true := by rw [he]; exact beq_self_eq_true _
      have heb : (u.toList != s.toList) = false := by rw [he]; simp
      have HE : Hid (uqV s = .tuple #[.string t, .bool true]) := Lib.hid (by unfold uqV; rw [hti, hu, if_pos ⟨hbt, he⟩])
      clear h h3 h4 hbt hx hxo hti ht hto hu he 
      go_enter Try.func17, Try.ntmps17
      go_wp2_with (first | (go_at_call 25; refine (H1.out _).mono ?_; rintro e w' ⟨rfl, rfl⟩) | (go_at_call 38; rw [HXe.out]; refine (HX.out _).mono ?_; rintro e w1 ⟨rfl, b1⟩) | (go_at_call 26; refine (HT.out _).mono ?_; rintro e w2 ⟨rfl, b2⟩))
      go_ret2
      exact ⟨by rw [HE.out]; rfl, ktr b1 b2⟩
    · have hne : u.toList ≠ s.toList := fun h9 => he (by apply ByteArray.ext; rw [Lib.toList_data, Lib.toList_data] at h9; exact Array.toList_inj.1 h9)
      have hel : (u.toList == s.toList) = false := beq_eq_false_iff_ne.2 hne
      have heb : (u.toList != s.toList) = true := by rw [bne_iff_ne]; exact hne
      have HE : Hid (uqV s = fail2) := Lib.hid (by unfold uqV; rw [hti, hu, if_neg (fun h9 => he h9.2)])
      clear h h3 h4 hbt hx hxo hti ht hto hu he hne 
      go_enter Try.func17, Try.ntmps17
      go_wp2_with (first | (go_at_call 25; refine (H1.out _).mono ?_; rintro e w' ⟨rfl, rfl⟩) | (go_at_call 38; rw [HXe.out]; refine (HX.out _).mono ?_; rintro e w1 ⟨rfl, b1⟩) | (go_at_call 26; refine (HT.out _).mono ?_; rintro e w2 ⟨rfl, b2⟩))
      go_ret2
      exact ⟨by rw [HE.out]; rfl, ktr b1 b2⟩

end Go.Proofs.Ytljbbmefemfjpaa.QtU
