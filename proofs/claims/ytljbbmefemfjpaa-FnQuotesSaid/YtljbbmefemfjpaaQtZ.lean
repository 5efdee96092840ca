/-
  QuoteText, UnquoteText and AlternateQuotes of both.
-/
import Derived.Test.YtljbbmefemfjpaaQtY
import Derived.Test.YtljbbmefemfjpaaQtQ
namespace Go.Proofs.Ytljbbmefemfjpaa.QtZ
open Go.RowKit QtPl QtB QtIn QtC QtM QtR QtS RowB Pl QtX QtE QtY QtQ
open Kt (pr)
set_option linter.unusedSimpArgs false
set_option linter.unusedVariables false

/-- the text with the paired marks exchanged -/
def exch (s : ByteArray) : ByteArray := ⟨(rmk s (qrun s s.size).M (oth s)).toArray⟩
def altT (s : ByteArray) : ByteArray := ⟨(rmk s (qrun s s.size).M (alt (qrun s s.size).M)).toArray⟩
theorem exch_size (s : ByteArray) : (exch s).size = s.size := by
  show (rmk s (qrun s s.size).M (oth s)).toArray.size = s.size
  rw [List.size_toArray, rmk_len]
theorem quo_size (t : ByteArray) : (quo t).size = t.size + 2 := by
  unfold quo
  rw [ByteArray.size_append, ByteArray.size_append]
  show 1 + t.size + 1 = _
  omega
theorem mem_bt {s : ByteArray} (h : s.data.toList.all pr = true) {i : Nat} (hi : i < s.size) : pr (bt s i) = true := by
  have := List.mem_of_getElem? (bt_list hi)
  exact List.all_eq_true.1 h _ this
theorem exch_all {s : ByteArray} (h : s.data.toList.all pr = true) : (exch s).data.toList.all pr = true := by
  show (rmk s (qrun s s.size).M (oth s)).toArray.toList.all pr = true
  rw [List.toList_toArray, List.all_eq_true]
  intro c hc
  obtain ⟨i, hi⟩ := List.getElem?_of_mem hc
  have hil : i < s.size := by have := (List.getElem?_eq_some_iff.1 hi).1; rwa [rmk_len] at this
  rw [rmk_at hil] at hi
  cases hi
  have hI := inv_run s s.size
  have hm := List.getElem?_eq_getElem (show i < (qrun s s.size).M.length by rw [hI.len]; exact hil)
  by_cases h0 : 0 ≤ ((qrun s s.size).M[i]'(by rw [hI.len]; exact hil))
  · obtain ⟨e1, e2⟩ := low_byte hI hm h0
    rw [e1]
    rcases e2 with e2 | e2 <;> rw [e2] <;> decide
  · rw [rm_none hm (by omega)]
    exact mem_bt h hil
theorem quo_all {t : ByteArray} (h : t.data.toList.all pr = true) : (quo t).data.toList.all pr = true := by
  unfold quo
  rw [ByteArray.data_append, ByteArray.data_append, Array.toList_append, Array.toList_append, List.all_append, List.all_append, h]
  decide
theorem quo_ok {s : ByteArray} (h : okQ s = true) : okQ (quo (exch s)) = decide (s.size + 2 ≤ 200) := by
  unfold okQ
  rw [quo_all (exch_all (okQ_all h)), Bool.and_true, quo_size, exch_size]
def fail2 : Value := .tuple #[.string ⟨#[]⟩, .bool false]
/-- what QuoteText answers -/
def qtV (s : ByteArray) : Value := if okQ s = true ∧ s.size + 2 ≤ 200 then .tuple #[.string (quo (exch s)), .bool true] else fail2
/-- what AlternateQuotes answers -/
def aqV (s : ByteArray) : Value := if okQ s = true then .tuple #[.string (altT s), .bool true] else fail2
/-- does a text stand between two quotation marks -/
def btw (s : ByteArray) : Bool := okQ s && (decide (2 ≤ s.size) && (bt s 0 == 34 && bt s (s.size - 1) == 34))
def inn (s : ByteArray) : ByteArray := exch (s.extract 1 (s.size - 1))
/-- what UnquoteText answers -/
def uqV (s : ByteArray) : Value := if btw s = true ∧ quo (exch (inn s)) = s then .tuple #[.string (inn s), .bool true] else fail2
theorem form2 {c : Prop} [Decidable c] (t : ByteArray) : ∃ u r, (if c then Value.tuple #[.string t, .bool true] else fail2) = .tuple #[.string u, .bool r] := by
  by_cases h : c
  · exact ⟨t, true, by rw [if_pos h]⟩
  · exact ⟨⟨#[]⟩, false, by rw [if_neg h]; rfl⟩
theorem qtV_form (s : ByteArray) : ∃ u r, qtV s = .tuple #[.string u, .bool r] := form2 _
theorem aqV_form (s : ByteArray) : ∃ u r, aqV s = .tuple #[.string u, .bool r] := form2 _
theorem uqV_form (s : ByteArray) : ∃ u r, uqV s = .tuple #[.string u, .bool r] := form2 _

set_option maxHeartbeats 1000000 in
theorem quote_i (s : ByteArray) (w : World) (hs : s.size ≤ 1048576) : Calls Try.prog 6 #[.string s] w fun e w' => e = .returned (qtV s) ∧ Below w.heap.size w w' := by
  have HQ := Lib.hid (fun z w hz => quoted_i s z w hs hz)
  cases h : okQ s with
  | false =>
    have HE : Hid (qtV s = fail2) := Lib.hid (by unfold qtV; rw [if_neg (by rw [h]; simp)])
    have H1 := Lib.hid (fun w => HQ.out false w h)
    clear h HQ
    go_enter Try.func6, Try.ntmps6
    go_wp2_with (first | (go_at_call 23; refine (H1.out _).mono ?_; rintro e w' ⟨rfl, rfl⟩))
    go_ret2
    exact ⟨by rw [HE.out]; rfl, Below.refl _ _⟩
  | true =>
    have hsz := okQ_size h
    have H1 := Lib.hid (fun w => HQ.out true w h)
    have HX := Lib.hid (fun w => exch_q s w hsz)
    obtain ⟨t, ht⟩ : ∃ t, exch s = t := ⟨_, rfl⟩
    have hts : t.size = s.size := by rw [← ht, exch_size]
    change Hid (∀ w, Calls _ _ _ _ fun e w' => e = .returned (.string (exch s)) ∧ _) at HX
    rw [ht] at HX
    have HQ2 := Lib.hid (fun z w hz => quoted_i (quo t) z w (by rw [quo_size]; omega) hz)
    have hok := quo_ok h
    rw [ht] at hok
    by_cases h2 : s.size + 2 ≤ 200
    · have HE : Hid (qtV s = .tuple #[.string (quo t), .bool true]) := Lib.hid (by unfold qtV; rw [if_pos ⟨h, h2⟩, ht])
      have H2 := Lib.hid (fun w => HQ2.out true w (by rw [hok, decide_eq_true h2]))
      clear h HQ HQ2 hok ht
      unfold quo at H2 HE
      go_enter Try.func6, Try.ntmps6
      go_wp2_with (first | (go_at_call 23; (with_reducible refine (H1.out _).mono ?_); rintro e w' ⟨rfl, rfl⟩) | (go_at_call 24; refine (HX.out _).mono ?_; rintro e w1 ⟨rfl, b1⟩) | (go_at_call 23; refine (H2.out _).mono ?_; rintro e w' ⟨rfl, rfl⟩))
      go_ret2
      exact ⟨by rw [HE.out]; rfl, b1⟩
    · have HE : Hid (qtV s = fail2) := Lib.hid (by unfold qtV; rw [if_neg (fun h9 => h2 h9.2)])
      have H2 := Lib.hid (fun w => HQ2.out false w (by rw [hok, decide_eq_false h2]))
      clear h HQ HQ2 hok ht
      unfold quo at H2
      go_enter Try.func6, Try.ntmps6
      go_wp2_with (first | (go_at_call 23; (with_reducible refine (H1.out _).mono ?_); rintro e w' ⟨rfl, rfl⟩) | (go_at_call 24; refine (HX.out _).mono ?_; rintro e w1 ⟨rfl, b1⟩) | (go_at_call 23; refine (H2.out _).mono ?_; rintro e w' ⟨rfl, rfl⟩))
      go_ret2
      exact ⟨by rw [HE.out]; rfl, b1⟩

set_option maxRecDepth 100000 in
set_option maxHeartbeats 1000000 in
theorem quoteT_s (s : ByteArray) (w : World) (hs : s.size ≤ 1048576) : Calls Try.prog 7 #[.string s] w fun e w' => e = .returned (qtV s) ∧ Below w.heap.size w w' := by
  have HQ := Lib.hid (fun z w hz => quoted_s s z w hs hz)
  cases h : okQ s with
  | false =>
    have HE : Hid (qtV s = fail2) := Lib.hid (by unfold qtV; rw [if_neg (by rw [h]; simp)])
    have H1 := Lib.hid (fun w => HQ.out false w h)
    clear h HQ
    go_enter Try.func7, Try.ntmps7
    go_wp2_with (first | (go_at_call 25; refine (H1.out _).mono ?_; rintro e w' ⟨rfl, rfl⟩))
    go_ret2
    exact ⟨by rw [HE.out]; rfl, Below.refl _ _⟩
  | true =>
    have hsz := okQ_size h
    have H1 := Lib.hid (fun w => HQ.out true w h)
    have HX := Lib.hid (fun w => quote_s s w hsz)
    change Hid (∀ w, Calls _ _ _ _ fun e w' => e = .returned (.string (quo (exch s))) ∧ _) at HX
    generalize hT : quo (exch s) = T at HX
    by_cases h2 : s.size + 2 ≤ 200
    · have HE : Hid (qtV s = .tuple #[.string T, .bool true]) := Lib.hid (by unfold qtV; rw [if_pos ⟨h, h2⟩, hT])
      clear h HQ hT
      go_enter Try.func7, Try.ntmps7
      go_wp2_with (first | (go_at_call 25; (with_reducible refine (H1.out _).mono ?_); rintro e w' ⟨rfl, rfl⟩) | (go_at_call 26; refine (HX.out _).mono ?_; rintro e w1 ⟨rfl, b1⟩))
      go_ret2
      exact ⟨by rw [HE.out]; rfl, b1⟩
    · have HE : Hid (qtV s = fail2) := Lib.hid (by unfold qtV; rw [if_neg (fun h9 => h2 h9.2)])
      clear h HQ hT
      go_enter Try.func7, Try.ntmps7
      go_wp2_with (first | (go_at_call 25; (with_reducible refine (H1.out _).mono ?_); rintro e w' ⟨rfl, rfl⟩))
      go_ret2
      exact ⟨by rw [HE.out]; rfl, Below.refl _ _⟩
end Go.Proofs.Ytljbbmefemfjpaa.QtZ
