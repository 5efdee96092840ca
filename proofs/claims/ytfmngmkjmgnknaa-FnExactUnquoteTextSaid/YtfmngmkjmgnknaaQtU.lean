/-
  UnquoteText of both.
-/
import Derived.Test.YtfmngmkjmgnknaaQtZ
namespace Go.Proofs.Ytfmngmkjmgnknaa.QtU
open Go.RowKit QtPl QtB QtIn QtC QtM QtR QtS RowB Pl QtX QtY QtQ QtZ
open Kt (pr)
set_option linter.unusedSimpArgs false
set_option linter.unusedVariables false

theorem sub_ok {s : ByteArray} (h : okQ s = true) : okQ (s.extract 1 (s.size - 1)) = true := by
  have h1 := okQ_size h
  have h2 := okQ_all h
  unfold okQ
  rw [Bool.and_eq_true]
  refine ⟨decide_eq_true (by rw [ByteArray.size_extract]; omega), ?_⟩
  rw [List.all_eq_true] at h2 ⊢
  intro c hc
  refine h2 c ?_
  rw [ByteArray.data_extract, Array.mem_toList_iff] at hc
  rw [Array.mem_toList_iff]
  obtain ⟨i, hi, rfl⟩ := Array.mem_iff_getElem.1 hc
  rw [Array.getElem_extract]
  exact Array.getElem_mem _
set_option maxRecDepth 100000 in
set_option maxHeartbeats 2000000 in
theorem unquote_i (s : ByteArray) (w : World) (hs : s.size ≤ 1048576) : Calls Try.prog 11 #[.string s] w fun e w' => e = .returned (uqV s) ∧ Below w.heap.size w w' := by
  have HQ := Lib.hid (fun z w hz => quoted_i s z w hs hz)
  cases h : okQ s with
  | false =>
    have HE : Hid (uqV s = fail2) := Lib.hid (by unfold uqV btw; rw [if_neg (by rw [h]; simp)])
    have H1 := Lib.hid (fun w => HQ.out false w h)
    clear h HQ
    go_enter Try.func11, Try.ntmps11
    go_wp2_with (first | (go_at_call 16; refine (H1.out _).mono ?_; rintro e w' ⟨rfl, rfl⟩))
    go_ret2
    exact ⟨by rw [HE.out]; rfl, Below.refl _ _⟩
  | true =>
    have hsz := okQ_size h
    have H1 := Lib.hid (fun w => HQ.out true w h)
    clear HQ
    by_cases h2 : 2 ≤ s.size
    rotate_left
    · have HE : Hid (uqV s = fail2) := Lib.hid (by unfold uqV btw; rw [if_neg (by rw [decide_eq_false h2]; simp)])
      have h2' : s.size < 2 := by omega
      clear h
      go_enter Try.func11, Try.ntmps11
      go_wp2_with (first | (go_at_call 16; refine (H1.out _).mono ?_; rintro e w' ⟨rfl, rfl⟩))
      go_ret2
      exact ⟨by rw [HE.out]; rfl, Below.refl _ _⟩
    have h2' : ¬ s.size < 2 := by omega
    have hn0 : 0 < s.size := by omega
    have hn1 : s.size - 1 < s.size := by omega
    have hwl : IntKind.i64.wrap ((s.size : Int) - 1) = (s.size : Int) - 1 := by rw [IntKind.wrap_i64]; omega
    have hw0 : (0 : Int) ≤ (s.size : Int) - 1 := by omega
    have hw1 : (1 : Int) ≤ (s.size : Int) := by omega
    have hw2 : (2 : Int) ≤ (s.size : Int) := by omega
    have hw3 : (1 : Int) ≤ (s.size : Int) - 1 := by omega
    have hw4 : (s.size : Int) - 1 ≤ (s.size : Int) := by omega
    have hw5 : decide ((s.size : Int) < 2) = false := by simp; omega
    have hwt : ((s.size : Int) - 1).toNat = s.size - 1 := by omega
    by_cases h3 : s[0] = 34
    rotate_left
    · have HE : Hid (uqV s = fail2) := Lib.hid (by unfold uqV btw; rw [if_neg (by rw [bt_eq hn0, show (s[0] == 34) = false from beq_eq_false_iff_ne.2 h3]; simp)])
      have hb3 : ((s[0].toNat : Int) != 34) = true := by
        rw [bne_iff_ne]; intro h9; exact h3 (UInt8.toNat_inj.1 (by show s[0].toNat = 34; omega))
      clear h h3
      go_enter Try.func11, Try.ntmps11
      go_wp2_with (first | (go_at_call 16; refine (H1.out _).mono ?_; rintro e w' ⟨rfl, rfl⟩))
      go_ret2
      exact ⟨by rw [HE.out]; rfl, Below.refl _ _⟩
    have hb3 : ((s[0].toNat : Int) != 34) = false := by rw [h3]; rfl
    by_cases h4 : s[s.size - 1] = 34
    rotate_left
    · have HE : Hid (uqV s = fail2) := Lib.hid (by unfold uqV btw; rw [if_neg (by rw [bt_eq hn1, show (s[s.size - 1] == 34) = false from beq_eq_false_iff_ne.2 h4]; simp)])
      have hb4 : ((s[s.size - 1].toNat : Int) != 34) = true := by
        rw [bne_iff_ne]; intro h9; exact h4 (UInt8.toNat_inj.1 (by show s[s.size - 1].toNat = 34; omega))
      clear h h3 h4
      go_enter Try.func11, Try.ntmps11
      go_wp2_with (first | (go_at_call 16; refine (H1.out _).mono ?_; rintro e w' ⟨rfl, rfl⟩))
      go_ret2
      exact ⟨by rw [HE.out]; rfl, Below.refl _ _⟩
    have hb4 : ((s[s.size - 1].toNat : Int) != 34) = false := by rw [h4]; rfl
    have hbt : btw s = true := by unfold btw; rw [h, decide_eq_true h2, bt_eq hn0, bt_eq hn1, h3, h4]; rfl
    obtain ⟨x, hx⟩ : ∃ x, s.extract 1 (s.size - 1) = x := ⟨_, rfl⟩
    have hxs : x.size = s.size - 2 := by rw [← hx, ByteArray.size_extract]; omega
    have hxo : okQ x = true := by rw [← hx]; exact sub_ok h
    have HX := Lib.hid (fun w => exch_q x w (okQ_size hxo))
    change Hid (∀ w, Calls _ _ _ _ fun e w' => e = .returned (.string (exch x)) ∧ _) at HX
    have hti : inn s = exch x := by unfold inn; rw [hx]
    obtain ⟨t, ht⟩ : ∃ t, exch x = t := ⟨_, rfl⟩
    have hts : t.size = s.size - 2 := by rw [← ht, exch_size, hxs]
    have hto : okQ t = true := by rw [← ht]; unfold okQ; rw [exch_size, exch_all (okQ_all hxo), decide_eq_true (by omega)]; rfl
    rw [ht] at HX hti
    have HXe := Lib.hid hx
    obtain ⟨u, hu⟩ : ∃ u, quo (exch t) = u := ⟨_, rfl⟩
    have HT := Lib.hid (fun w => quote_i t w (by omega))
    have HqV : qtV t = .tuple #[.string u, .bool true] := by unfold qtV; rw [if_pos ⟨hto, by omega⟩, hu]
    rw [HqV] at HT
    by_cases he : u = s
    · have hel : (u.toList == s.toList) = true := by rw [he]; exact beq_self_eq_true _
      have heb : (u.toList != s.toList) = false := by rw [he]; simp
      have HE : Hid (uqV s = .tuple #[.string t, .bool true]) := Lib.hid (by unfold uqV; rw [hti, hu, if_pos ⟨hbt, he⟩])
      clear h h3 h4 hbt hx hxo hti ht hto hu he HqV 
      go_enter Try.func11, Try.ntmps11
      go_wp2_with (first | (go_at_call 16; refine (H1.out _).mono ?_; rintro e w' ⟨rfl, rfl⟩) | (go_at_call 21; rw [HXe.out]; refine (HX.out _).mono ?_; rintro e w1 ⟨rfl, b1⟩) | (go_at_call 9; refine (HT.out _).mono ?_; rintro e w2 ⟨rfl, b2⟩))
      go_ret2
      exact ⟨by rw [HE.out]; rfl, ktr b1 b2⟩
    · have hne : u.toList ≠ s.toList := fun h9 => he (by apply ByteArray.ext; rw [Lib.toList_data, Lib.toList_data] at h9; exact Array.toList_inj.1 h9)
      have hel : (u.toList == s.toList) = false := beq_eq_false_iff_ne.2 hne
      have heb : (u.toList != s.toList) = true := by rw [bne_iff_ne]; exact hne
      have HE : Hid (uqV s = fail2) := Lib.hid (by unfold uqV; rw [hti, hu, if_neg (fun h9 => he h9.2)])
      clear h h3 h4 hbt hx hxo hti ht hto hu he hne HqV 
      go_enter Try.func11, Try.ntmps11
      go_wp2_with (first | (go_at_call 16; refine (H1.out _).mono ?_; rintro e w' ⟨rfl, rfl⟩) | (go_at_call 21; rw [HXe.out]; refine (HX.out _).mono ?_; rintro e w1 ⟨rfl, b1⟩) | (go_at_call 9; refine (HT.out _).mono ?_; rintro e w2 ⟨rfl, b2⟩))
      go_ret2
      exact ⟨by rw [HE.out]; rfl, ktr b1 b2⟩

set_option maxRecDepth 100000 in
set_option maxHeartbeats 2000000 in
theorem unquote_s (s : ByteArray) (w : World) (hs : s.size ≤ 1048576) : Calls Try.prog 10 #[.string s] w fun e w' => e = .returned (uqV s) ∧ Below w.heap.size w w' := by
  have HQ := Lib.hid (fun z w hz => quoted_s s z w hs hz)
  cases h : okQ s with
  | false =>
    have HE : Hid (uqV s = fail2) := Lib.hid (by unfold uqV btw; rw [if_neg (by rw [h]; simp)])
    have H1 := Lib.hid (fun w => HQ.out false w h)
    clear h HQ
    go_enter Try.func10, Try.ntmps10
    go_wp2_with (first | (go_at_call 12; refine (H1.out _).mono ?_; rintro e w' ⟨rfl, rfl⟩))
    go_ret2
    exact ⟨by rw [HE.out]; rfl, Below.refl _ _⟩
  | true =>
    have hsz := okQ_size h
    have H1 := Lib.hid (fun w => HQ.out true w h)
    clear HQ
    by_cases h2 : 2 ≤ s.size
    rotate_left
    · have HE : Hid (uqV s = fail2) := Lib.hid (by unfold uqV btw; rw [if_neg (by rw [decide_eq_false h2]; simp)])
      have h2' : s.size < 2 := by omega
      clear h
      go_enter Try.func10, Try.ntmps10
      go_wp2_with (first | (go_at_call 12; refine (H1.out _).mono ?_; rintro e w' ⟨rfl, rfl⟩))
      go_ret2
      exact ⟨by rw [HE.out]; rfl, Below.refl _ _⟩
    have h2' : ¬ s.size < 2 := by omega
    have hn0 : 0 < s.size := by omega
    have hn1 : s.size - 1 < s.size := by omega
    have hwl : IntKind.i64.wrap ((s.size : Int) - 1) = (s.size : Int) - 1 := by rw [IntKind.wrap_i64]; omega
    have hw0 : (0 : Int) ≤ (s.size : Int) - 1 := by omega
    have hw1 : (1 : Int) ≤ (s.size : Int) := by omega
    have hw2 : (2 : Int) ≤ (s.size : Int) := by omega
    have hw3 : (1 : Int) ≤ (s.size : Int) - 1 := by omega
    have hw4 : (s.size : Int) - 1 ≤ (s.size : Int) := by omega
    have hw5 : decide ((s.size : Int) < 2) = false := by simp; omega
    have hwt : ((s.size : Int) - 1).toNat = s.size - 1 := by omega
    by_cases h3 : s[0] = 34
    rotate_left
    · have HE : Hid (uqV s = fail2) := Lib.hid (by unfold uqV btw; rw [if_neg (by rw [bt_eq hn0, show (s[0] == 34) = false from beq_eq_false_iff_ne.2 h3]; simp)])
      have hb3 : ((s[0].toNat : Int) != 34) = true := by
        rw [bne_iff_ne]; intro h9; exact h3 (UInt8.toNat_inj.1 (by show s[0].toNat = 34; omega))
      clear h h3
      go_enter Try.func10, Try.ntmps10
      go_wp2_with (first | (go_at_call 12; refine (H1.out _).mono ?_; rintro e w' ⟨rfl, rfl⟩))
      go_ret2
      exact ⟨by rw [HE.out]; rfl, Below.refl _ _⟩
    have hb3 : ((s[0].toNat : Int) != 34) = false := by rw [h3]; rfl
    by_cases h4 : s[s.size - 1] = 34
    rotate_left
    · have HE : Hid (uqV s = fail2) := Lib.hid (by unfold uqV btw; rw [if_neg (by rw [bt_eq hn1, show (s[s.size - 1] == 34) = false from beq_eq_false_iff_ne.2 h4]; simp)])
      have hb4 : ((s[s.size - 1].toNat : Int) != 34) = true := by
        rw [bne_iff_ne]; intro h9; exact h4 (UInt8.toNat_inj.1 (by show s[s.size - 1].toNat = 34; omega))
      clear h h3 h4
      go_enter Try.func10, Try.ntmps10
      go_wp2_with (first | (go_at_call 12; refine (H1.out _).mono ?_; rintro e w' ⟨rfl, rfl⟩))
      go_ret2
      exact ⟨by rw [HE.out]; rfl, Below.refl _ _⟩
    have hb4 : ((s[s.size - 1].toNat : Int) != 34) = false := by rw [h4]; rfl
    have hbt : btw s = true := by unfold btw; rw [h, decide_eq_true h2, bt_eq hn0, bt_eq hn1, h3, h4]; rfl
    obtain ⟨x, hx⟩ : ∃ x, s.extract 1 (s.size - 1) = x := ⟨_, rfl⟩
    have hxs : x.size = s.size - 2 := by rw [← hx, ByteArray.size_extract]; omega
    have hxo : okQ x = true := by rw [← hx]; exact sub_ok h
    have HX := Lib.hid (fun w => change_s x w (okQ_size hxo))
    change Hid (∀ w, Calls _ _ _ _ fun e w' => e = .returned (.string (exch x)) ∧ _) at HX
    have hti : inn s = exch x := by unfold inn; rw [hx]
    obtain ⟨t, ht⟩ : ∃ t, exch x = t := ⟨_, rfl⟩
    have hts : t.size = s.size - 2 := by rw [← ht, exch_size, hxs]
    have hto : okQ t = true := by rw [← ht]; unfold okQ; rw [exch_size, exch_all (okQ_all hxo), decide_eq_true (by omega)]; rfl
    rw [ht] at HX hti
    have HXe := Lib.hid hx
    obtain ⟨u, hu⟩ : ∃ u, quo (exch t) = u := ⟨_, rfl⟩
    have HT := Lib.hid (fun w => quote_s t w (by omega))
    change Hid (∀ w, Calls _ _ _ _ fun e w' => e = .returned (.string (quo (exch t))) ∧ _) at HT
    rw [hu] at HT
    by_cases he : u = s
    · have hel : (u.toList == s.toList) = true := by rw [he]; exact beq_self_eq_true _
      have heb : (u.toList != s.toList) = false := by rw [he]; simp
      have HE : Hid (uqV s = .tuple #[.string t, .bool true]) := Lib.hid (by unfold uqV; rw [hti, hu, if_pos ⟨hbt, he⟩])
      clear h h3 h4 hbt hx hxo hti ht hto hu he 
      go_enter Try.func10, Try.ntmps10
      go_wp2_with (first | (go_at_call 12; refine (H1.out _).mono ?_; rintro e w' ⟨rfl, rfl⟩) | (go_at_call 22; rw [HXe.out]; refine (HX.out _).mono ?_; rintro e w1 ⟨rfl, b1⟩) | (go_at_call 20; refine (HT.out _).mono ?_; rintro e w2 ⟨rfl, b2⟩))
      go_ret2
      exact ⟨by rw [HE.out]; rfl, ktr b1 b2⟩
    · have hne : u.toList ≠ s.toList := fun h9 => he (by apply ByteArray.ext; rw [Lib.toList_data, Lib.toList_data] at h9; exact Array.toList_inj.1 h9)
      have hel : (u.toList == s.toList) = false := beq_eq_false_iff_ne.2 hne
      have heb : (u.toList != s.toList) = true := by rw [bne_iff_ne]; exact hne
      have HE : Hid (uqV s = fail2) := Lib.hid (by unfold uqV; rw [hti, hu, if_neg (fun h9 => he h9.2)])
      clear h h3 h4 hbt hx hxo hti ht hto hu he hne 
      go_enter Try.func10, Try.ntmps10
      go_wp2_with (first | (go_at_call 12; refine (H1.out _).mono ?_; rintro e w' ⟨rfl, rfl⟩) | (go_at_call 22; rw [HXe.out]; refine (HX.out _).mono ?_; rintro e w1 ⟨rfl, b1⟩) | (go_at_call 20; refine (HT.out _).mono ?_; rintro e w2 ⟨rfl, b2⟩))
      go_ret2
      exact ⟨by rw [HE.out]; rfl, ktr b1 b2⟩

end Go.Proofs.Ytfmngmkjmgnknaa.QtU
