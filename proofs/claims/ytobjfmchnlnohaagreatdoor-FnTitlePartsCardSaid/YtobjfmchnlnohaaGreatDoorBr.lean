/-
  Contracts of hasBrace, beginsPart and of l6Brace, l6Starts of the model.
-/
import Derived.Test.YtobjfmchnlnohaaGreatDoorCa
import Derived.Test.YtobjfmchnlnohaaGreatDoorJo
import Derived.Deep.QuietTactic
import Derived.BigQuiet
namespace Go.Proofs.YtobjfmchnlnohaaGreatDoor.Br
open Go.RowKit Pl NmPl TiPl Word Lt Ra Ca Jo
set_option linter.unusedVariables false
set_option linter.unusedSimpArgs false

theorem any_cons (b : UInt8) (l cs : List UInt8) : Lib.containsAny (b :: l) cs = (cs.contains b || Lib.containsAny l cs) := by
  have hge := Lib.indexAny_ge cs l
  unfold Lib.containsAny
  conv => lhs; unfold Lib.indexAny
  cases hc : cs.contains b with
  | true => rfl
  | false =>
    rw [if_neg (by decide), Bool.false_or]
    by_cases h : Lib.indexAny l cs = -1
    · rw [h]; rfl
    · have : (Lib.indexAny l cs == -1) = false := by simpa using h
      rw [this, if_neg (by decide)]
      rw [Bool.eq_iff_iff]; simp; omega
theorem any_brB (l : List UInt8) : Lib.containsAny l [123, 125] = brB l := by
  induction l with
  | nil => rfl
  | cons b l ih =>
    rw [any_cons, ih]
    show _ = (brc b || brB l)
    congr 1
    unfold brc
    simp only [List.contains, List.elem, Bool.or_false]
    rw [show (b == 123) = decide (b.toNat = 123) from beqN b 123 (by decide), show (b == 125) = decide (b.toNat = 125) from beqN b 125 (by decide)]
    cases decide (b.toNat = 123) <;> cases decide (b.toNat = 125) <;> rfl
theorem brace_i (s : ByteArray) (r : Bool) (w : World) (hs : s.size ≤ 1048576) (hp : s.data.toList.all prC = true) (hr : brB s.data.toList = r) :
    Calls Tryz.prog 34 #[.string s] w fun e w' => e = .returned (.bool r) ∧ Below w.heap.size w w' := by
  have h := Tryz.strings_ContainsAny_laid s ⟨#[123, 125]⟩ w (by omega) (by show 2 < _; omega) (fun j b hj => by
    have := List.all_eq_true.1 hp b (List.mem_of_getElem? hj)
    simp [prC] at this
    omega) (fun j b hj => by
    match j, hj with
    | 0, hj => simp at hj; subst hj; decide
    | 1, hj => simp at hj; subst hj; decide)
  have e : (ByteArray.mk #[123, 125]).data.toList = [123, 125] := rfl
  rw [e, any_brB, hr] at h
  have H := Lib.hid h
  clear h hr
  go_enter Tryz.func34, Tryz.ntmps34
  go_wp2_with fail
  refine H.out.mono ?_
  rintro e w1 ⟨rfl, b1⟩
  go_wp2_with fail
  go_ret
  exact ⟨rfl, b1⟩
theorem brB_at (s : ByteArray) (k : Nat) (h : k < s.size) : brB (s.data.toList.drop k) = (brc s[k] || brB (s.data.toList.drop (k + 1))) := by
  rw [List.drop_eq_getElem_cons (by rw [len_size]; exact h)]; rfl
set_option maxHeartbeats 2000000 in
theorem brace_s (s : ByteArray) (r : Bool) (w : World) (hs : s.size ≤ 1048576) (hr : brB s.data.toList = r) :
    Calls Tryz.prog 35 #[.string s] w fun e w' => e = .returned (.bool r) ∧ w = w' := by
  have HR := Lib.hid hr
  clear hr
  go_enter Tryz.func35, Tryz.ntmps35
  go_wp2_with fail
  go_loop [3] (fun i => ∃ k : Nat, k ≤ s.size ∧ i = .int .i64 k ∧ Hid (brB (s.data.toList.drop k) = r)) (fun i => s.size - (intOf i).toNat)
  case atStart => exact ⟨0, Nat.zero_le _, rfl, HR⟩
  case round =>
    obtain ⟨k, hk, rfl, HD⟩ := hrel
    by_cases hlt : k < s.size
    · have HA := Lib.hid (brB_at s k hlt)
      have hcl := s[k].toNat_lt
      by_cases h1 : s[k].toNat = 123
      · have hb1 : ((s[k].toNat : Int) == 123) = true := by simp [h1]
        have HF : Hid (r = true) := Lib.hid (by rw [← HD.out, HA.out]; simp [brc, h1])
        clear h1
        go_wp2_with fail
        go_ret
        exact ⟨by rw [HF.out]; rfl, rfl⟩
      · have hb1 : ((s[k].toNat : Int) == 123) = false := by simp; omega
        by_cases h2 : s[k].toNat = 125
        · have hb2 : ((s[k].toNat : Int) == 125) = true := by simp [h2]
          have HF : Hid (r = true) := Lib.hid (by rw [← HD.out, HA.out]; simp [brc, h2])
          clear h1 h2
          go_wp2_with fail
          go_ret
          exact ⟨by rw [HF.out]; rfl, rfl⟩
        · have hb2 : ((s[k].toNat : Int) == 125) = false := by simp; omega
          have HN : Hid (brB (s.data.toList.drop (k + 1)) = r) := Lib.hid (by rw [← HD.out, HA.out]; simp [brc, h1, h2])
          clear h1 h2
          go_wp2_with fail
          go_round
          case rel => exact ⟨k + 1, by omega, by go_num, HN⟩
          case measure => simp [intOf]; omega
    · have HF : Hid (r = false) := Lib.hid (by rw [← HD.out, List.drop_eq_nil_of_le (by rw [len_size]; omega)]; rfl)
      go_wp2_with fail
      go_ret
      exact ⟨by rw [HF.out]; rfl, rfl⟩

theorem starts_succ {ws : List (List UInt8)} {i : Nat} {x : List UInt8} (hi : 0 < i) (h : ws[i - 1]? = some x) : starts ws i = Lib.hasSuffix x [58] := by
  obtain ⟨j, rfl⟩ : ∃ j, i = j + 1 := ⟨i - 1, by omega⟩
  show (match ws[j]? with | some x => Lib.hasSuffix x [58] | none => false) = _
  have : ws[j]? = some x := h
  rw [this]
theorem suf_last (x : ByteArray) (h : 0 < x.size) : Lib.hasSuffix x.data.toList [58] = (((x[x.size - 1]'(by omega)).toNat : Int) == 58) := by
  obtain ⟨r, hr⟩ := last_snoc x h
  have h2 : Lib.hasSuffix x.data.toList [58] = ((58 : UInt8) == x[x.size - 1]'(by omega)) := by
    rw [hr]
    show List.isPrefixOf [58] (r ++ [_]).reverse = _
    rw [List.reverse_append]
    show ((58 : UInt8) == _ && true) = _
    rw [Bool.and_true]
  rw [h2, Bool.eq_iff_iff, beq_iff_eq, beq_iff_eq]
  constructor
  · intro e; rw [← e]; rfl
  · intro e; exact UInt8.toNat_inj.1 (show (58 : UInt8).toNat = _ by have : (58 : UInt8).toNat = 58 := rfl; omega)
end Go.Proofs.YtobjfmchnlnohaaGreatDoor.Br
