/-
  Contracts of endsInQuotes; EndWith of both.
-/
import Derived.Test.YtnijmhhigkbddaaDoorMqJ2
namespace Go.Proofs.YtnijmhhigkbddaaDoor.Mq
open Go.RowKit Pl NmPl MqPl
set_option linter.unusedSimpArgs false
set_option linter.unusedVariables false

theorem suf_snoc (l : List UInt8) (z c : UInt8) : Lib.hasSuffix (l ++ [z]) [c] = (c == z) := by
  show List.isPrefixOf [c] (l ++ [z]).reverse = _
  rw [List.reverse_append]
  show (c == z && true) = _
  rw [Bool.and_true]
theorem suf_nil (c : UInt8) : Lib.hasSuffix [] [c] = false := rfl
/-- does a text end with the end of a sentence and a quotation mark -/
def eqL (l : List UInt8) : Bool := Lib.hasSuffix l [34] && (Lib.hasSuffix (l.take (l.length - 1)) [46] || Lib.hasSuffix (l.take (l.length - 1)) [33] || Lib.hasSuffix (l.take (l.length - 1)) [63])
theorem eqL_one (b : UInt8) : eqL [b] = false := by
  unfold eqL
  show (_ && (Lib.hasSuffix [] [46] || Lib.hasSuffix [] [33] || Lib.hasSuffix [] [63])) = false
  rw [suf_nil, suf_nil, suf_nil]; simp
theorem eqL_two (l : List UInt8) (a b : UInt8) : eqL (l ++ [a] ++ [b]) = ((34 == b) && ((46 == a) || (33 == a) || (63 == a))) := by
  unfold eqL
  have e : (l ++ [a] ++ [b]).take ((l ++ [a] ++ [b]).length - 1) = l ++ [a] := by
    rw [List.take_left']; simp
  rw [e, suf_snoc, suf_snoc, suf_snoc, suf_snoc]
/-- without the spaces at its end -/
def trB (s : ByteArray) : ByteArray := ba (Lib.trimRightB s.data.toList 32)
theorem tr_hit (l : List UInt8) : Lib.trimRightB (l ++ [32]) 32 = Lib.trimRightB l 32 := by
  unfold Lib.trimRightB; rw [List.reverse_append]; rfl
theorem tr_miss (l : List UInt8) {x : UInt8} (h : x ≠ 32) : Lib.trimRightB (l ++ [x]) 32 = l ++ [x] := by
  unfold Lib.trimRightB
  rw [List.reverse_append]
  show (List.dropWhile _ (x :: l.reverse)).reverse = _
  rw [List.dropWhile_cons, if_neg (by simpa using h)]
  simp
theorem tr_len (l : List UInt8) : (Lib.trimRightB l 32).length ≤ l.length := by
  unfold Lib.trimRightB
  rw [List.length_reverse]
  have := (List.dropWhile_sublist (fun x : UInt8 => x == 32) (l := l.reverse)).length_le
  rw [List.length_reverse] at this
  exact this
theorem trB_size (s : ByteArray) : (trB s).size ≤ s.size := by unfold trB; rw [ba_size]; have := tr_len s.data.toList; rw [len_size] at this; exact this
set_option maxHeartbeats 2000000 in
theorem inQuotes_i (s : ByteArray) (r : Bool) (w : World) (hs : s.size ≤ 1048576) (hr : eqL s.data.toList = r) : Calls Tryd.prog 27 #[.string s] w fun e w' => e = .returned (.bool r) ∧ w = w' := by
  subst hr
  have HC := Lib.hid (fun w => Tryd.strings_CutSuffix s ⟨#[34]⟩ w (by omega))
  have HQ := Lib.hid (show eqL s.data.toList = (Lib.hasSuffix s.data.toList [34] && (Lib.hasSuffix (s.data.toList.take (s.data.toList.length - 1)) [46] || Lib.hasSuffix (s.data.toList.take (s.data.toList.length - 1)) [33] || Lib.hasSuffix (s.data.toList.take (s.data.toList.length - 1)) [63])) from rfl)
  have HT := Lib.hid (show Lib.trimSuffix s.data.toList [34] = if Lib.hasSuffix s.data.toList [34] then s.data.toList.take (s.data.toList.length - 1) else s.data.toList from rfl)
  change Hid (∀ w, Calls Tryd.prog 38 #[.string s, .string ⟨#[34]⟩] w fun e w' => e = .returned (.tuple #[.string (ba (Lib.trimSuffix s.data.toList [34])), .bool (Lib.hasSuffix s.data.toList [34])]) ∧ w' = w) at HC
  have hl : (Lib.trimSuffix s.data.toList [34]).length ≤ 1048576 := by
    rw [HT.out]; split
    · rw [List.length_take, len_size]; omega
    · rw [len_size]; omega
  generalize Lib.trimSuffix s.data.toList [34] = t at *
  generalize eqL s.data.toList = z at *
  cases h : Lib.hasSuffix s.data.toList [34] with
  | false =>
    rw [h] at HC HQ
    have HE : Hid (z = false) := Lib.hid (by rw [HQ.out]; rfl)
    clear h HT HQ hl
    go_enter Tryd.func27, Tryd.ntmps27
    go_wp2_with fail
    refine (HC.out _).mono ?_
    rintro e w' ⟨rfl, rfl⟩
    go_wp2_with fail
    go_ret
    exact ⟨by rw [HE.out]; rfl, rfl⟩
  | true =>
    rw [h] at HC HQ HT
    have ht : t = s.data.toList.take (s.data.toList.length - 1) := HT.out
    rw [← ht] at HQ
    have H1 := Lib.hid (fun w => Tryd.strings_HasSuffix (ba t) ⟨#[46]⟩ w (by rw [ba_size]; omega))
    have H2 := Lib.hid (fun w => Tryd.strings_HasSuffix (ba t) ⟨#[33]⟩ w (by rw [ba_size]; omega))
    have H3 := Lib.hid (fun w => Tryd.strings_HasSuffix (ba t) ⟨#[63]⟩ w (by rw [ba_size]; omega))
    rw [toList_ba] at H1 H2 H3
    change Hid (∀ w, Calls _ _ _ _ fun e w' => e = .returned (.bool (Lib.hasSuffix t [46])) ∧ w' = w) at H1
    change Hid (∀ w, Calls _ _ _ _ fun e w' => e = .returned (.bool (Lib.hasSuffix t [33])) ∧ w' = w) at H2
    change Hid (∀ w, Calls _ _ _ _ fun e w' => e = .returned (.bool (Lib.hasSuffix t [63])) ∧ w' = w) at H3
    clear h HT ht hl
    generalize Lib.hasSuffix t [46] = p1 at *
    generalize Lib.hasSuffix t [33] = p2 at *
    generalize Lib.hasSuffix t [63] = p3 at *
    cases p1
    case true =>
      have HE : Hid (z = true) := Lib.hid (by rw [HQ.out]; rfl)
      go_enter Tryd.func27, Tryd.ntmps27
      go_wp2_with fail
      refine (HC.out _).mono ?_
      rintro e w' ⟨rfl, rfl⟩
      go_wp2_with fail
      refine (H1.out _).mono ?_
      rintro e w' ⟨rfl, rfl⟩
      go_wp2_with fail
      go_ret
      exact ⟨by rw [HE.out]; rfl, rfl⟩
    case false =>
      cases p2
      case true =>
        have HE : Hid (z = true) := Lib.hid (by rw [HQ.out]; rfl)
        go_enter Tryd.func27, Tryd.ntmps27
        go_wp2_with fail
        refine (HC.out _).mono ?_
        rintro e w' ⟨rfl, rfl⟩
        go_wp2_with fail
        refine (H1.out _).mono ?_
        rintro e w' ⟨rfl, rfl⟩
        go_wp2_with fail
        refine (H2.out _).mono ?_
        rintro e w' ⟨rfl, rfl⟩
        go_wp2_with fail
        go_ret
        exact ⟨by rw [HE.out]; rfl, rfl⟩
      case false =>
        have HE : Hid (z = p3) := Lib.hid (by rw [HQ.out]; simp)
        go_enter Tryd.func27, Tryd.ntmps27
        go_wp2_with fail
        refine (HC.out _).mono ?_
        rintro e w' ⟨rfl, rfl⟩
        go_wp2_with fail
        refine (H1.out _).mono ?_
        rintro e w' ⟨rfl, rfl⟩
        go_wp2_with fail
        refine (H2.out _).mono ?_
        rintro e w' ⟨rfl, rfl⟩
        go_wp2_with fail
        refine (H3.out _).mono ?_
        rintro e w' ⟨rfl, rfl⟩
        go_wp2_with fail
        go_ret
        exact ⟨by rw [HE.out]; rfl, rfl⟩
/-- what EndWith answers -/
def ewV (s : ByteArray) (c : UInt8) : Value :=
  if okX s.data.toList = true ∧ isM c = true then (if c = 46 ∧ eqL (trB s).data.toList = true then .tuple #[.string (trB s), .bool true] else .tuple #[.string (jB (trB s) (ba [c])), .bool true])
  else .tuple #[.string ⟨#[]⟩, .bool false]
theorem ewV_form (s : ByteArray) (c : UInt8) : ∃ t r, ewV s c = .tuple #[.string t, .bool r] := by unfold ewV; split <;> (try split) <;> exact ⟨_, _, rfl⟩
set_option maxHeartbeats 2000000 in
theorem ends_i (s : ByteArray) (c : UInt8) (w : World) (ht : MarkTab w) (hs : s.size ≤ 1048576) :
    Calls Tryd.prog 12 #[.string s, .int .u8 c.toNat] w fun e w' => e = .returned (ewV s c) ∧ Below w.heap.size w w' := by
  have HA := Lib.hid (fun r h w => isPart_i s r w hs h)
  have HB := Lib.hid (fun r h w => isMark_i c r w h)
  have HTr : Hid (∀ w, Calls Tryd.prog 26 #[.string s, .string ⟨#[32]⟩] w fun e w' => e = .returned (.string (trB s)) ∧ w' = w) := Lib.hid (fun w => Tryd.strings_TrimRight_one s 32 (by decide) w (by omega))
  have hts := trB_size s
  have hts2 : (trB s).size ≤ 1048576 := by omega
  have HQ := Lib.hid (fun r h w => inQuotes_i (trB s) r w hts2 h)
  cases h1 : okX s.data.toList with
  | false =>
    have HE : Hid (ewV s c = .tuple #[.string ⟨#[]⟩, .bool false]) := Lib.hid (by unfold ewV; rw [if_neg (by simp [h1])])
    have HA' := Lib.hid (HA.out false h1)
    clear h1 HA
    go_enter Tryd.func12, Tryd.ntmps12
    go_wp2_with fail
    refine (HA'.out _).mono ?_
    rintro e w' ⟨rfl, rfl⟩
    go_wp2_with fail
    go_ret2
    exact ⟨by rw [HE.out]; rfl, Below.refl _ _⟩
  | true =>
    have HA' := Lib.hid (HA.out true h1)
    cases h2 : isM c with
    | false =>
      have HE : Hid (ewV s c = .tuple #[.string ⟨#[]⟩, .bool false]) := Lib.hid (by unfold ewV; rw [if_neg (by simp [h2])])
      have HB' := Lib.hid (HB.out false h2)
      clear h1 h2 HA HB
      go_enter Tryd.func12, Tryd.ntmps12
      go_wp2_with fail
      refine (HA'.out _).mono ?_
      rintro e w' ⟨rfl, rfl⟩
      go_wp2_with fail
      refine (HB'.out _).mono ?_
      rintro e w' ⟨rfl, rfl⟩
      go_wp2_with fail
      go_ret2
      exact ⟨by rw [HE.out]; rfl, Below.refl _ _⟩
    | true =>
      have HE0 : Hid (ewV s c = if c = 46 ∧ eqL (trB s).data.toList = true then .tuple #[.string (trB s), .bool true] else .tuple #[.string (jB (trB s) (ba [c])), .bool true]) := Lib.hid (by unfold ewV; rw [if_pos ⟨h1, h2⟩])
      have HB' := Lib.hid (HB.out true h2)
      have hc128 : c.toNat < 128 := by
        have h3 : ∀ n, n < 256 → isM (UInt8.ofNat n) = true → n < 128 := by decide +kernel
        exact h3 c.toNat c.toNat_lt (by rw [UInt8.ofNat_toNat]; exact h2)
      have HEn := Lib.hid (enc_one c hc128)
      have hbs : (ba [c]).size ≤ 1048576 := by rw [ba_size]; show 1 ≤ 1048576; omega
      have HJ := Lib.hid (joinTwo_i (trB s) (ba [c]) w ht hts2 hbs)
      rw [← HEn.out] at HJ
      clear h1 h2 HA HB hbs hc128 ht
      by_cases h46 : c = 46
      · subst h46
        cases hq : eqL (trB s).data.toList with
        | true =>
          have HE : Hid (ewV s 46 = .tuple #[.string (trB s), .bool true]) := Lib.hid (by rw [HE0.out, if_pos ⟨rfl, hq⟩])
          have HQ' := Lib.hid (HQ.out true hq)
          clear hq HQ HE0
          generalize trB s = T at *
          go_enter Tryd.func12, Tryd.ntmps12
          go_wp2_with fail
          refine (HA'.out _).mono ?_
          rintro e w' ⟨rfl, rfl⟩
          go_wp2_with fail
          refine (HB'.out _).mono ?_
          rintro e w' ⟨rfl, rfl⟩
          go_wp2_with fail
          refine (HTr.out _).mono ?_
          rintro e w' ⟨rfl, rfl⟩
          go_wp2_with fail
          refine (HQ'.out _).mono ?_
          rintro e w' ⟨rfl, rfl⟩
          go_wp2_with fail
          go_ret2
          exact ⟨by rw [HE.out]; rfl, Below.refl _ _⟩
        | false =>
          have HE : Hid (ewV s 46 = .tuple #[.string (jB (trB s) (ba [46])), .bool true]) := Lib.hid (by rw [HE0.out, if_neg (by simp [hq])])
          have HQ' := Lib.hid (HQ.out false hq)
          rw [← HEn.out] at HE
          clear hq HQ HE0
          generalize trB s = T at *
          go_enter Tryd.func12, Tryd.ntmps12
          go_wp2_with fail
          refine (HA'.out _).mono ?_
          rintro e w' ⟨rfl, rfl⟩
          go_wp2_with fail
          refine (HB'.out _).mono ?_
          rintro e w' ⟨rfl, rfl⟩
          go_wp2_with fail
          refine (HTr.out _).mono ?_
          rintro e w' ⟨rfl, rfl⟩
          go_wp2_with fail
          refine (HQ'.out _).mono ?_
          rintro e w' ⟨rfl, rfl⟩
          go_wp2_with fail
          refine HJ.out.mono ?_
          rintro e w1 ⟨rfl, b1⟩
          go_wp2_with fail
          go_ret2
          exact ⟨by rw [HE.out]; rfl, b1⟩
      · have HE : Hid (ewV s c = .tuple #[.string (jB (trB s) (ba [c])), .bool true]) := Lib.hid (by rw [HE0.out, if_neg (fun h => h46 h.1)])
        rw [← HEn.out] at HE
        have hb : ((c.toNat : Int) == 46) = false := u8_ne (c := 46) h46
        clear h46 HQ HE0
        generalize trB s = T at *
        go_enter Tryd.func12, Tryd.ntmps12
        go_wp2_with fail
        refine (HA'.out _).mono ?_
        rintro e w' ⟨rfl, rfl⟩
        go_wp2_with fail
        refine (HB'.out _).mono ?_
        rintro e w' ⟨rfl, rfl⟩
        go_wp2_with fail
        refine (HTr.out _).mono ?_
        rintro e w' ⟨rfl, rfl⟩
        go_wp2_with fail
        refine HJ.out.mono ?_
        rintro e w1 ⟨rfl, b1⟩
        go_wp2_with fail
        go_ret2
        exact ⟨by rw [HE.out]; rfl, b1⟩
end Go.Proofs.YtnijmhhigkbddaaDoor.Mq
