/-
  Contracts of the program's parts of ExpandRange: parsePage, rangeOfTexts, completePage.
-/
import Derived.Test.YtiekplndcpcdkaaDoorPgEx
import Derived.Test.YtiekplndcpcdkaaDoorPgC
import Derived.Test.YtiekplndcpcdkaaDoorPgBx
import Derived.Test.YtiekplndcpcdkaaDoorRead
import Derived.Test.YtiekplndcpcdkaaDoorLaid5
namespace Go.Proofs.YtiekplndcpcdkaaDoor.PgPd
set_option linter.ambiguousOpen false
open Go.RowKit Pl ReadPl PgPl PgTx Pg PgF PgCo PgC PgEx NmPl PgBx
open Num (Tab Tab.below)
open Read (ParIs implParse Errs Errs.below)
set_option linter.unusedSimpArgs false
set_option linter.unusedVariables false

theorem letL_no {s : ByteArray} (h : 0 < s.size) (hu : isUp s[0] = false) : letL s.data.toList = [] ∧ numL s.data.toList = s.data.toList := by
  obtain ⟨⟨l⟩⟩ := s
  match l, h, hu with
  | c :: r, h, hu =>
    have hu' : isUp c = false := hu
    unfold numL letL upF
    simp [hu']
theorem letL_up {s : ByteArray} (h : 0 < s.size) (hu : isUp s[0] = true) : ba (letL s.data.toList) = s.extract 0 1 ∧ ba (numL s.data.toList) = s.extract 1 s.size := by
  obtain ⟨⟨l⟩⟩ := s
  match l, h, hu with
  | c :: r, h, hu =>
    have hu' : isUp c = true := hu
    have h1 : letL (c :: r) = [c] := by unfold letL upF; simp [hu']
    constructor
    · rw [extract_list]; show ba (letL (c :: r)) = _; rw [h1]; simp
    · rw [cut_ba]; unfold numL; show ba (List.drop (letL (c :: r)).length (c :: r)) = _; rw [h1]; rfl
theorem num_read (s : ByteArray) (w : World) (hs : s.size ≤ 1048576) (ht : Tab w) (he : Errs w) (l : List UInt8) (hl : ba l = s) :
    Calls Tryd.prog 28 #[.string s] w fun e w' => e = .returned (.tuple #[.int .i64 (num l).1, .bool (num l).2]) ∧ Below w.heap.size w w' := by
  refine (implParse s w hs ht he).mono ?_
  rintro e w' ⟨v, hv, rfl, b⟩
  rw [← hl] at hv
  rw [num_par hv]
  exact ⟨rfl, b⟩
set_option maxHeartbeats 1000000 in
theorem page_i (s : ByteArray) (w : World) (hs : s.size ≤ 1048576) (ht : Tab w) (he : Errs w) :
    Calls Tryd.prog 23 #[.string s] w fun e w' => e = .returned (.tuple #[.string (ba (letL s.data.toList)), .int .i64 (num (numL s.data.toList)).1]) ∧ Below w.heap.size w w' := by
  rcases Nat.eq_zero_or_pos s.size with h | h
  · obtain rfl := emp h
    have HN := Lib.hid (num_read ByteArray.empty w (by decide) ht he [] rfl)
    clear ht he h hs
    generalize hn : (num []).1 = n at HN
    generalize hr : (num []).2 = r at HN
    have HQ : Hid ((num (numL (⟨#[]⟩ : ByteArray).data.toList)).1 = n) := Lib.hid hn
    clear hn hr
    go_enter Tryd.func23, Tryd.ntmps23
    go_wp2_with fail
    refine HN.out.mono ?_
    rintro e w' ⟨rfl, b⟩
    go_wp2_with fail
    go_ret2
    exact ⟨by rw [HQ.out]; rfl, b⟩
  · have hne := ne_emp h
    generalize hu : isUp s[0] = u
    have HU := Lib.hid hu
    cases u with
    | false =>
      obtain ⟨e1, e2⟩ := letL_no h hu
      have HN := Lib.hid (num_read s w hs ht he s.data.toList (ba_toList s))
      rw [e1, e2]
      clear e1 e2 hu ht he
      generalize num s.data.toList = n at *
      obtain ⟨n, r⟩ := n
      go_enter Tryd.func23, Tryd.ntmps23
      go_wp2_with (first | (go_at_call 27; refine (Word.up_i _ false _ HU.out).mono ?_; rintro e w' ⟨rfl, rfl⟩))
      refine HN.out.mono ?_
      rintro e w' ⟨rfl, b⟩
      go_wp2_with fail
      go_ret2
      exact ⟨rfl, b⟩
    | true =>
      obtain ⟨e1, e2⟩ := letL_up h hu
      have HN := Lib.hid (num_read (s.extract 1 s.size) w (by rw [ByteArray.size_extract]; omega) ht he (numL s.data.toList) e2)
      rw [e1]
      clear e1 e2 hu ht he
      have hx1 : (s.extract 0 1).size = 1 := by rw [ByteArray.size_extract]; omega
      generalize num (numL s.data.toList) = n at *
      obtain ⟨n, r⟩ := n
      go_enter Tryd.func23, Tryd.ntmps23
      go_wp2_with (first | (go_at_call 27; refine (Word.up_i _ true _ HU.out).mono ?_; rintro e w' ⟨rfl, rfl⟩))
      with_reducible refine HN.out.mono ?_
      rintro e w' ⟨rfl, b⟩
      go_wp2_with fail
      go_ret2
      exact ⟨rfl, b⟩
theorem numV {a b c d : Value} (h : a = b) (g : c = d) : Ending.returned (.tuple #[a, c]) = .returned (.tuple #[b, d]) := by rw [h, g]
set_option maxHeartbeats 1000000 in
theorem ends_i (a b : ByteArray) (w : World) (ha : a.size ≤ 1048576) (hb : b.size ≤ 1048576) (ht : Tab w) (he : Errs w) :
    Calls Tryd.prog 13 #[.string a, .string b] w fun e w' => e = .returned (prV (ba (letL a.data.toList)) (num (numL a.data.toList)).1 (num (numL b.data.toList)).1) ∧ Below w.heap.size w w' := by
  have hb0 := box_below w (.cells #[.string ⟨#[]⟩, .int .i64 0, .int .i64 0] 23)
  have HB := Lib.hid hb0
  have HD := Lib.hid (P3F.new w ⟨#[]⟩ 0 0 23)
  have HT := Lib.hid (ht.below hb0)
  have HE := Lib.hid (he.below hb0)
  clear ht he hb0
  have HP := Lib.hid (fun w ht he => page_i a w ha ht he)
  have HQ := Lib.hid (fun w ht he => page_i b w hb ht he)
  clear ha hb
  generalize ba (letL a.data.toList) = l at *
  generalize ba (letL b.data.toList) = m at *
  generalize (num (numL a.data.toList)).1 = f at *
  generalize (num (numL b.data.toList)).1 = t at *
  go_enter Tryd.func13, Tryd.ntmps13
  go_wp2_with fail
  refine (HP.out _ HT.out HE.out).mono ?_
  rintro e w1 ⟨rfl, b1⟩
  have HT1 := Lib.hid (HT.out.below b1)
  have HE1 := Lib.hid (HE.out.below b1)
  have HB1 := Lib.hid (HB.out.trans (b1.mono HB.out.size))
  have HD1 := Lib.hid (HD.out.below b1)
  clear b1 HT HE HB HD
  go_wp2_with fail
  refine (HQ.out _ HT1.out HE1.out).mono ?_
  rintro e w2 ⟨rfl, b2⟩
  have HB2 := Lib.hid (HB1.out.trans (b2.mono HB1.out.size))
  obtain ⟨⟨hlt, c0, c1, c2⟩, f0, f1, f2⟩ := HD1.out.below b2
  clear b2 HT1 HE1 HB1 HD1
  go_wp2_with fail
  exact bodyPost_ret (v := prV l f t) (by simp [results, Tryd.results13, go_sem, *]) rfl ⟨rfl, set3 HB2.out (Nat.le_refl _)⟩
set_option maxHeartbeats 1000000 in
theorem whole_i (a b : ByteArray) (w : World) (ha : a.size ≤ 1048576) (hb : b.size ≤ 1048576) :
    Calls Tryd.prog 14 #[.string a, .string b] w fun e w' => e = .returned (.string (ba (comp a.data.toList b.data.toList))) ∧ Below w.heap.size w w' := by
  have HC : Hid (ba (comp a.data.toList b.data.toList) = a.extract 0 (a.size - b.size) ++ b) := Lib.hid (by
    unfold comp
    rw [len_size, len_size, Cut.extract_take, ← Num.ba_cat, ba_toList])
  have hx : (a.extract 0 (a.size - b.size)).size + b.size ≤ 2097152 := by rw [ByteArray.size_extract]; omega
  by_cases h : b.size ≤ a.size
  · obtain ⟨u, hu⟩ : ∃ u, a.size - b.size = u := ⟨_, rfl⟩
    rw [hu] at HC hx
    have h1 : IntKind.i64.wrap ((a.size : Int) - b.size) = (u : Int) := by rw [IntWalk.i64_in _ (by omega)]; omega
    have h2 : max (0 : Int) u = u := by omega
    have h3 : u ≤ a.size := by omega
    clear hu
    go_enter Tryd.func14, Tryd.ntmps14
    go_wp2_with fail
    go_ret
    exact ⟨by rw [HC.out]; rfl, Below.refl _ w⟩
  · have h0 : a.size - b.size = 0 := by omega
    have HC2 : Hid (ba (comp a.data.toList b.data.toList) = b) := Lib.hid (by rw [HC.out, h0]; apply ByteArray.ext; simp)
    clear HC hx
    have h1 : IntKind.i64.wrap ((a.size : Int) - b.size) = (a.size : Int) - b.size := IntWalk.i64_in _ (by omega)
    have h2 : max (0 : Int) ((a.size : Int) - b.size) = 0 := by omega
    go_enter Tryd.func14, Tryd.ntmps14
    go_wp2_with fail
    go_ret
    exact ⟨by rw [HC2.out]; rfl, Below.refl _ w⟩
end Go.Proofs.YtiekplndcpcdkaaDoor.PgPd
