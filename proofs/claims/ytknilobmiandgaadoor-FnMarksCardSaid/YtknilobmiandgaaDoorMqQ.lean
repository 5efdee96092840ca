/-
  MoveIntoQuotes: contracts of endsWithMark, behindQuotes; the program's MoveIntoQuotes.
-/
import Derived.Test.YtknilobmiandgaaDoorMqJ
namespace Go.Proofs.YtknilobmiandgaaDoor.Mq
open Go.RowKit Pl NmPl MqPl
set_option linter.unusedSimpArgs false
set_option linter.unusedVariables false

/-- is the last byte a mark -/
def lastM (l : List UInt8) : Bool := match l.getLast? with | some c => isM c | none => false
theorem lastM_nil : lastM [] = false := rfl
theorem lastM_snoc (l : List UInt8) (c : UInt8) : lastM (l ++ [c]) = isM c := by unfold lastM; simp
/-- a byte behind a text, but ahead of the quotation mark at its end where it is to be exchanged -/
def bqS (L : List UInt8) (c : UInt8) : List UInt8 := if L.getLast? = some 34 ∧ (c = 46 ∨ c = 44) ∧ lastM L.dropLast = false then L.dropLast ++ [c, 34] else L ++ [c]
def mvA (l : List UInt8) : List UInt8 := l.foldl bqS []
theorem mvA_snoc (l : List UInt8) (c : UInt8) : mvA (l ++ [c]) = bqS (mvA l) c := by simp [mvA, List.foldl_append]
theorem bqS_len (L : List UInt8) (c : UInt8) : (bqS L c).length = L.length + 1 := by
  unfold bqS; split
  · rename_i h
    rcases List.eq_nil_or_concat L with rfl | ⟨l, x, rfl⟩
    · simp at h
    · simp
  · simp
theorem mvA_len (l : List UInt8) : (mvA l).length = l.length := by
  induction l using snocInd with
  | h0 => rfl
  | h1 l c ih => rw [mvA_snoc, bqS_len, ih]; simp
theorem suf_snoc' (l : List UInt8) (z c : UInt8) : Lib.hasSuffix (l ++ [z]) [c] = (c == z) := by
  show List.isPrefixOf [c] (l ++ [z]).reverse = _
  rw [List.reverse_append]
  show (c == z && true) = _
  rw [Bool.and_true]
theorem suf_34 (l : List UInt8) : Lib.hasSuffix l [34] = decide (l.getLast? = some 34) := by
  rcases List.eq_nil_or_concat l with rfl | ⟨l, x, rfl⟩
  · rfl
  · rw [List.concat_eq_append, suf_snoc', Bool.eq_iff_iff]; simp; exact ⟨fun h => h.symm, fun h => h.symm⟩
set_option maxHeartbeats 1000000 in
theorem ewm_i (s : ByteArray) (r : Bool) (w : World) (hs : s.size ≤ 1048576) (hr : lastM s.data.toList = r) : Calls Tryd.prog 38 #[.string s] w fun e w' => e = .returned (.bool r) ∧ w = w' := by
  by_cases h0 : 0 < s.size
  · obtain ⟨k, hk⟩ : ∃ k, s.size = k + 1 := ⟨s.size - 1, by omega⟩
    have hkt : k < s.size := by omega
    have hw1 : IntKind.i64.wrap ((s.size : Int) - 1) = (k : Int) := by rw [IntWalk.i64_in _ (by omega)]; omega
    have hx : isM s[k] = r := by
      have e := take_snoc s k hkt
      rw [take_all s _ (by omega)] at e
      rw [e, lastM_snoc] at hr
      exact hr
    have HM := Lib.hid (fun w => isMark_i s[k] r w hx)
    obtain ⟨e1, e2⟩ := Kt.ne_str h0
    clear hk hx hr
    go_enter Tryd.func38, Tryd.ntmps38
    go_wp2_with fail
    refine (HM.out _).mono ?_
    rintro e w' ⟨rfl, rfl⟩
    go_wp2_with fail
    go_ret
    exact ⟨rfl, rfl⟩
  · obtain rfl := Kt.nil_str h0
    obtain rfl : r = false := hr.symm
    go_enter Tryd.func38, Tryd.ntmps38
    go_wp2_with fail
    go_ret
    exact ⟨rfl, rfl⟩
set_option maxHeartbeats 2000000 in
theorem behind_i (s : ByteArray) (c : UInt8) (w : World) (hs : s.size ≤ 1000000) :
    Calls Tryd.prog 22 #[.string s, .string (ba [c])] w fun e w' => e = .returned (.string (ba (bqS s.data.toList c))) ∧ w = w' := by
  have HC := Lib.hid (fun w => Tryd.strings_CutSuffix s ⟨#[34]⟩ w (by omega))
  change Hid (∀ w, Calls Tryd.prog 37 #[.string s, .string ⟨#[34]⟩] w fun e w' => e = .returned (.tuple #[.string (ba (Lib.trimSuffix s.data.toList [34])), .bool (Lib.hasSuffix s.data.toList [34])]) ∧ w' = w) at HC
  have HTs := Lib.hid (show Lib.trimSuffix s.data.toList [34] = if Lib.hasSuffix s.data.toList [34] then s.data.toList.take (s.data.toList.length - 1) else s.data.toList from rfl)
  have hAdd : s ++ ba [c] = ba (s.data.toList ++ [c]) := ext_l (by rw [app_l, toList_ba, toList_ba])
  have hcz : (ba [c]).size = 1 := by rw [ba_size]; rfl
  have hs46 : ((ba [c]).toList == [46]) = ((c.toNat : Int) == 46) := by
    rw [Lib.toList_data, toList_ba]
    show ([c] == [46]) = _
    rw [Bool.eq_iff_iff]; simp
    exact ⟨fun h => by subst h; rfl, fun h => UInt8.toNat_inj.1 (by show c.toNat = 46; omega)⟩
  have hs44 : ((ba [c]).toList == [44]) = ((c.toNat : Int) == 44) := by
    rw [Lib.toList_data, toList_ba]
    show ([c] == [44]) = _
    rw [Bool.eq_iff_iff]; simp
    exact ⟨fun h => by subst h; rfl, fun h => UInt8.toNat_inj.1 (by show c.toNat = 44; omega)⟩
  have HB := Lib.hid (show bqS s.data.toList c = if s.data.toList.getLast? = some 34 ∧ (c = 46 ∨ c = 44) ∧ lastM s.data.toList.dropLast = false then s.data.toList.dropLast ++ [c, 34] else s.data.toList ++ [c] from rfl)
  have HAdd := Lib.hid hAdd
  obtain ⟨d, HD⟩ : ∃ d, Hid (d = ba [c]) := ⟨_, Lib.hid rfl⟩
  rw [← HD.out] at hcz hs46 hs44 HAdd
  rw [← HD.out]
  clear hAdd
  have H46 : Hid (∀ q : Bool, ((c.toNat : Int) == 46) = q → (c = 46 ↔ q = true)) := Lib.hid (fun q hq => by
    rw [← hq, beq_iff_eq]; exact ⟨fun h => by subst h; rfl, fun h => UInt8.toNat_inj.1 (by show c.toNat = 46; omega)⟩)
  have H44 : Hid (∀ q : Bool, ((c.toNat : Int) == 44) = q → (c = 44 ↔ q = true)) := Lib.hid (fun q hq => by
    rw [← hq, beq_iff_eq]; exact ⟨fun h => by subst h; rfl, fun h => UInt8.toNat_inj.1 (by show c.toNat = 44; omega)⟩)
  generalize hq46 : ((c.toNat : Int) == 46) = q46 at *
  generalize hq44 : ((c.toNat : Int) == 44) = q44 at *
  have K46 := Lib.hid (H46.out q46 rfl)
  have K44 := Lib.hid (H44.out q44 rfl)
  clear H46 H44 hq46 hq44
  rw [suf_34] at HC HTs
  have hst : (ba s.data.toList).size ≤ 1000000 := by rw [ba_toList]; exact hs
  by_cases hl : s.data.toList.getLast? = some 34
  · have hdl : decide (s.data.toList.getLast? = some 34) = true := decide_eq_true hl
    rw [hdl] at HC HTs
    have ht : Lib.trimSuffix s.data.toList [34] = s.data.toList.dropLast := by rw [HTs.out, if_pos rfl, List.dropLast_eq_take]
    rw [ht] at HC
    have hts : (ba s.data.toList.dropLast).size ≤ 1000000 := by rw [ba_size, List.length_dropLast, len_size]; omega
    have HM := Lib.hid (fun w => ewm_i (ba s.data.toList.dropLast) (lastM s.data.toList.dropLast) w (by omega) (by rw [toList_ba]))
    have HAdd2 : Hid (ba s.data.toList.dropLast ++ d ++ ⟨#[34]⟩ = ba (s.data.toList.dropLast ++ [c, 34])) := Lib.hid (ext_l (by rw [app_l, app_l, HD.out, toList_ba, toList_ba, toList_ba]; simp))
    have HBT : Hid (∀ (p : lastM s.data.toList.dropLast = false) (q : c = 46 ∨ c = 44), ba (bqS s.data.toList c) = ba s.data.toList.dropLast ++ d ++ ⟨#[34]⟩) := Lib.hid (fun p q => by rw [HB.out, if_pos ⟨hl, q, p⟩, HAdd2.out])
    have HBF : Hid (∀ (p : ¬ ((c = 46 ∨ c = 44) ∧ lastM s.data.toList.dropLast = false)), ba (bqS s.data.toList c) = s ++ d) := Lib.hid (fun p => by rw [HB.out, if_neg (fun h => p h.2), HAdd.out])
    clear HB HTs ht hl hdl HAdd2 HAdd
    generalize lastM s.data.toList.dropLast = lm at *
    generalize ba s.data.toList.dropLast = U at *
    generalize hT : ba (bqS s.data.toList c) = T at *
    cases q46 with
    | true =>
      have h46 : c = 46 := K46.out.2 rfl
      cases lm with
      | true =>
        have HE := Lib.hid (HBF.out (by rintro ⟨-, h⟩; cases h))
        clear h46
        go_enter Tryd.func22, Tryd.ntmps22
        go_wp2_with fail
        refine (HC.out _).mono ?_
        rintro e w' ⟨rfl, hw⟩
        subst hw
        go_wp2_with fail
        refine (HM.out _).mono ?_
        rintro e w' ⟨rfl, hw⟩
        subst hw
        go_wp2_with fail
        go_ret
        exact ⟨by rw [HE.out]; rfl, rfl⟩
      | false =>
        have HE := Lib.hid (HBT.out rfl (.inl h46))
        clear h46
        go_enter Tryd.func22, Tryd.ntmps22
        go_wp2_with fail
        refine (HC.out _).mono ?_
        rintro e w' ⟨rfl, hw⟩
        subst hw
        go_wp2_with fail
        refine (HM.out _).mono ?_
        rintro e w' ⟨rfl, hw⟩
        subst hw
        go_wp2_with fail
        go_ret
        exact ⟨by rw [HE.out]; rfl, rfl⟩
    | false =>
      have h46 : ¬ c = 46 := fun h => by have := K46.out.1 h; cases this
      cases q44 with
      | true =>
        have h44 : c = 44 := K44.out.2 rfl
        cases lm with
        | true =>
          have HE := Lib.hid (HBF.out (by rintro ⟨-, h⟩; cases h))
          clear h44 h46
          go_enter Tryd.func22, Tryd.ntmps22
          go_wp2_with fail
          refine (HC.out _).mono ?_
          rintro e w' ⟨rfl, hw⟩
          subst hw
          go_wp2_with fail
          refine (HM.out _).mono ?_
          rintro e w' ⟨rfl, hw⟩
          subst hw
          go_wp2_with fail
          go_ret
          exact ⟨by rw [HE.out]; rfl, rfl⟩
        | false =>
          have HE := Lib.hid (HBT.out rfl (.inr h44))
          clear h44 h46
          go_enter Tryd.func22, Tryd.ntmps22
          go_wp2_with fail
          refine (HC.out _).mono ?_
          rintro e w' ⟨rfl, hw⟩
          subst hw
          go_wp2_with fail
          refine (HM.out _).mono ?_
          rintro e w' ⟨rfl, hw⟩
          subst hw
          go_wp2_with fail
          go_ret
          exact ⟨by rw [HE.out]; rfl, rfl⟩
      | false =>
        have h44 : ¬ c = 44 := fun h => by have := K44.out.1 h; cases this
        have HE := Lib.hid (HBF.out (fun h => h.1.elim h46 h44))
        clear h44 h46
        go_enter Tryd.func22, Tryd.ntmps22
        go_wp2_with fail
        refine (HC.out _).mono ?_
        rintro e w' ⟨rfl, hw⟩
        subst hw
        go_wp2_with fail
        go_ret
        exact ⟨by rw [HE.out]; rfl, rfl⟩
  · have hdl : decide (s.data.toList.getLast? = some 34) = false := decide_eq_false hl
    rw [hdl] at HC HTs
    have ht : Lib.trimSuffix s.data.toList [34] = s.data.toList := by rw [HTs.out, if_neg (by decide)]
    rw [ht] at HC
    have HE : Hid (ba (bqS s.data.toList c) = s ++ d) := Lib.hid (by rw [HB.out, if_neg (fun h => hl h.1), HAdd.out])
    clear HB HTs ht hl hdl HAdd
    generalize ba s.data.toList = U at *
    go_enter Tryd.func22, Tryd.ntmps22
    go_wp2_with fail
    refine (HC.out _).mono ?_
    rintro e w' ⟨rfl, hw⟩
    subst hw
    go_wp2_with fail
    go_ret
    exact ⟨by rw [HE.out]; rfl, rfl⟩
end Go.Proofs.YtknilobmiandgaaDoor.Mq
