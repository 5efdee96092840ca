/-
  FnQuotes: what the functions answer, over letters; the law's own equalities.
-/
import Derived.Test.YtljbbmefemfjpaaGAu
import Derived.Test.YtljbbmefemfjpaaQtG
import Derived.Test.YtljbbmefemfjpaaGNh
import Derived.Test.YtljbbmefemfjpaaGLk
import Derived.Test.YtljbbmefemfjpaaSpB
namespace Go.Proofs.Ytljbbmefemfjpaa.QtF
open Go.RowKit QtPl QtB QtE QtQ QtY QtZ QtG QtH QtK QtL QtN
open Kt (pr)
set_option linter.unusedSimpArgs false
set_option linter.unusedVariables false

theorem fold_le {P Q : List (Nat × Nat)} {m : Nat} (h : ∀ x ∈ Q, dp P x ≤ m) : gd P Q ≤ m := by
  induction Q using snoc_ind with
  | h0 => exact Nat.zero_le _
  | h1 l x ih =>
    rw [gd_snoc]
    have h1 := ih (fun y hy => h y (List.mem_append_left _ hy))
    have h2 := h x (by simp)
    omega
theorem gd_pos {P Q : List (Nat × Nat)} (h : Q ≠ []) : 0 < gd P Q := by
  induction Q using snoc_ind with
  | h0 => exact absurd rfl h
  | h1 l x ih =>
    rw [gd_snoc]
    have : 0 < dp P x := by unfold dp; omega
    omega
theorem dp_in {P : List (Nat × Nat)} {x : Nat × Nat} (h : x ∈ P) : dp P x ≤ P.length := by
  unfold dp
  have := (List.length_filter_lt_length_iff_exists (p := fun o : Nat × Nat => decide (o.1 < x.1) && decide (x.2 < o.2)) (l := P)).2 ⟨x, h, by simp⟩
  omega
theorem q_vals (s : ByteArray) : ∃ (q1 a1 : ByteArray) (b1 z : Bool) (d : Nat), okQ s = z ∧ qtV s = .tuple #[.string q1, .bool b1] ∧ aqV s = .tuple #[.string a1, .bool z] ∧ qdV s = .tuple #[.int .i64 (d : Int), .bool z] ∧ (d = 0 ↔ (pmV s).length = 0) ∧ d ≤ (pmV s).length ∧ (∀ (j : Nat) (C : List Int), (pmV s)[j]? = some C → ∃ a b : Nat, C = [(a : Int), (b : Int)] ∧ a < b ∧ b < s.size ∧ bt s a = bt s b) := by
  obtain ⟨q1, b1, hq⟩ := qtV_form s
  cases hz : okQ s with
  | false =>
    refine ⟨q1, ⟨#[]⟩, b1, false, 0, rfl, hq, ?_, ?_, ?_, Nat.zero_le _, ?_⟩
    · unfold aqV; rw [hz]; rfl
    · unfold qdV; rw [hz]; rfl
    · unfold pmV; rw [hz]; exact ⟨fun _ => rfl, fun _ => rfl⟩
    · intro j C h; unfold pmV at h; rw [hz] at h; simp at h
  | true =>
    have hp : pmV s = (prs (qrun s s.size).M).map p2 := by unfold pmV; rw [hz]; rfl
    refine ⟨q1, altT s, b1, true, gd (prs (qrun s s.size).M) (prs (qrun s s.size).M), rfl, hq, ?_, ?_, ?_, ?_, ?_⟩
    · unfold aqV; rw [hz]; rfl
    · unfold qdV; rw [hz]; rfl
    · rw [hp, List.length_map]
      constructor
      · intro h
        rcases hl : prs (qrun s s.size).M with _ | ⟨y, r⟩
        · rfl
        · have h2 := gd_pos (P := prs (qrun s s.size).M) (Q := prs (qrun s s.size).M) (by rw [hl]; simp)
          omega
      · intro h
        rw [List.length_eq_zero_iff.1 h]
        rfl
    · rw [hp, List.length_map]; exact fold_le fun x hx => dp_in hx
    · intro j C h
      rw [hp, List.getElem?_map] at h
      obtain ⟨x, hx, rfl⟩ := Option.map_eq_some_iff.1 h
      have := prs_bd (inv_run s s.size) (List.mem_of_getElem? hx)
      exact ⟨x.1, x.2, rfl, this.1, this.2.1, this.2.2.2.2.1⟩
theorem ok_of {s : ByteArray} (h1 : s.size ≤ 200) (h2 : ∀ i, i < s.size → pr (bt s i) = true) : okQ s = true := by
  unfold okQ
  rw [Bool.and_eq_true]
  refine ⟨decide_eq_true h1, ?_⟩
  rw [List.all_eq_true]
  intro c hc
  obtain ⟨i, hi, rfl⟩ := List.mem_iff_getElem.1 hc
  have hi' : i < s.size := by simpa using hi
  have := h2 i hi'
  rw [bt_eq hi'] at this
  exact this
theorem of_ok {s : ByteArray} (h : okQ s = true) {i : Nat} (hi : i < s.size) : pr (bt s i) = true := by
  have h2 := okQ_all h
  rw [List.all_eq_true] at h2
  refine h2 _ ?_
  rw [bt_eq hi]
  exact List.getElem_mem (l := s.data.toList) (by simpa using hi)
theorem exch_ok {s : ByteArray} (h : okQ s = true) : okQ (exch s) = true := by
  refine ok_of (by rw [exch_size]; exact okQ_size h) (fun i hi => ?_)
  rw [exch_size] at hi
  have e : bt (exch s) i = rmB s (qrun s s.size).M (oth s) i := by
    have h1 := bt_list (s := exch s) (i := i) (by rw [exch_size]; exact hi)
    have h2 := rmk_at (s := s) (M := (qrun s s.size).M) (f := oth s) hi
    have h3 : (exch s).data.toList = rmk s (qrun s s.size).M (oth s) := by unfold exch; simp
    rw [h3, h2] at h1
    exact (Option.some.inj h1).symm
  rw [e]
  have hM := (inv_run s s.size)
  rcases hm : (qrun s s.size).M[i]? with _ | m
  · have e2 : rmB s (qrun s s.size).M (oth s) i = bt s i := by unfold rmB; rw [hm]
    rw [e2]; exact of_ok h hi
  · by_cases h0 : 0 ≤ m
    · obtain ⟨h1, h2⟩ := low_byte hM hm h0
      rw [h1]
      rcases h2 with h2 | h2 <;> rw [h2] <;> decide
    · have e2 : rmB s (qrun s s.size).M (oth s) i = bt s i := by unfold rmB; rw [hm]; simp only; rw [if_neg (by omega)]
      rw [e2]; exact of_ok h hi
theorem t_vals (t : ByteArray) : ∃ (u : ByteArray) (b : Bool), uqV t = .tuple #[.string u, .bool b] ∧ u.size ≤ t.size ∧ (b = true → qtV u = .tuple #[.string t, .bool true]) := by
  by_cases h : btw t = true ∧ quo (exch (inn t)) = t
  · refine ⟨inn t, true, by unfold uqV; rw [if_pos h], ?_, fun _ => ?_⟩
    · unfold inn; rw [exch_size, ByteArray.size_extract]; omega
    · have hb := h.1
      unfold btw at hb
      simp only [Bool.and_eq_true, decide_eq_true_eq] at hb
      have hz := okQ_size hb.1
      have hok : okQ (inn t) = true := exch_ok (QtU.sub_ok hb.1)
      have hsz : (inn t).size = t.size - 2 := by unfold inn; rw [exch_size, ByteArray.size_extract]; omega
      unfold qtV
      rw [if_pos ⟨hok, by omega⟩, h.2]
  · exact ⟨⟨#[]⟩, false, by unfold uqV; rw [if_neg h]; rfl, Nat.zero_le _, fun e => by cases e⟩
set_option maxHeartbeats 2000000 in
theorem sameI (A B : Option Addr) (c d n : Nat) (M : List Int) (w : World) (h : RdM w A M) (h' : RdM w B M) (hn : M.length = n) (hm : n ≤ 1048576) :
    Calls Try.prog 14 #[.slice A n c, .slice B n d] w fun e w' => e = .returned (.bool true) ∧ Kp w w' := by
  have H := Lib.hid h
  have H' := Lib.hid h'
  have HN := Lib.hid hn
  clear h h' hn
  go_enter Try.func14, Try.ntmps14
  go_wp2_with fail
  go_loopw [5] (fun i wr => ∃ k : Nat, k ≤ n ∧ i = .int .i64 k ∧ Kp w wr) (fun i _ => n - (intOf i).toNat)
  case atStart => exact ⟨0, Nat.zero_le _, rfl, kre _⟩
  case round =>
    obtain ⟨k, hk, rfl, hb⟩ := hrel
    by_cases hlt : k < n
    · have hkx : k < M.length := by rw [HN.out]; exact hlt
      have hx? := List.getElem?_eq_getElem hkx
      obtain ⟨g, rfl, hg, c0⟩ := (H.out.kp hb) k M[k] hx?
      obtain ⟨g', rfl, hg', d0⟩ := (H'.out.kp hb) k M[k] hx?
      clear hx?
      generalize M[k] = x at *
      go_wp2_with fail
      go_quiet (fail)
      go_wp2_with fail
      go_roundw
      case rel => exact ⟨k + 1, by omega, by go_num, kdn hb _⟩
      case measure => (simp [intOf] <;> omega)
    · go_wp2_with fail
      go_ret
      exact ⟨rfl, hb⟩
open SpPl Sp in
set_option maxHeartbeats 4000000 in
theorem sameS (A B : Option Addr) (c d N : Nat) (L : List Sp1) (w : World) (h : RdSp w A L) (h' : RdSp w B L) (hn : L.length = N) (hm : N ≤ 1048576) :
    Calls Try.prog 21 #[.slice A N c, .slice B N d] w fun e w' => e = .returned (.bool true) ∧ Below w.heap.size w w' := by
  have H := Lib.hid h
  have H' := Lib.hid h'
  have HN := Lib.hid hn
  clear h h' hn
  go_enter Try.func21, Try.ntmps21
  go_wp2_with fail
  go_loopw [5] (fun i wr => ∃ k : Nat, k ≤ N ∧ i = .int .i64 k ∧ Below w.heap.size w wr) (fun i _ => N - (intOf i).toNat)
  case atStart => exact ⟨0, Nat.zero_le _, rfl, Below.refl _ _⟩
  case round =>
    obtain ⟨k, hk, rfl, hb⟩ := hrel
    by_cases hlt : k < N
    · have hkx : k < L.length := by rw [HN.out]; exact hlt
      have hx? := List.getElem?_eq_getElem hkx
      obtain ⟨g, o, rfl, hg, c0, c1, c2⟩ := (H.out.below hb) k L[k] hx?
      obtain ⟨g', o', rfl, hg', d0, d1, d2⟩ := (H'.out.below hb) k L[k] hx?
      clear hx?
      generalize L[k] = x at *
      obtain ⟨l, f, t⟩ := x
      dsimp only at c0 c1 c2 d0 d1 d2
      have hll : (l.toList == l.toList) = true := by simp
      have hbd : ∀ q, Below w.heap.size w (wr.drewN q) := fun q => ⟨hb.os, hb.tape, hb.output, hb.size, hb.block⟩
      go_wp2_with fail
      go_quiet (fail)
      go_wp2_with fail
      go_roundw
      case rel => exact ⟨k + 1, by omega, by go_num, by first | exact hb | exact hbd _⟩
      case measure => simp [intOf]; omega
    · go_wp2_with fail
      go_ret
      exact ⟨rfl, hb⟩
end Go.Proofs.Ytljbbmefemfjpaa.QtF
