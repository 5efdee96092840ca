/-
  Contracts of the functions that compare two names: impl.abbreviatesWord, mayBeSameWord, mayBeSame; spec.l2Fits, l2May.
-/
import Derived.Test.YtdjkgkfgnmcldaaDoorGood
import Derived.Test.YtdjkgkfgnmcldaaDoorShelf
namespace Go.Proofs.YtdjkgkfgnmcldaaDoor.May
open Go.RowKit Pl Strs Help Name Stands SplitPl NmPl Word Part NGood

def headE (a b : List UInt8) : Bool := a.head? == b.head?
/-- may two words be the same -/
def fitB (a b : List UInt8) : Bool := (a == b) || (decide (a.length = 1) && headE a b) || (decide (b.length = 1) && headE a b)
theorem pre_one {a b : List UInt8} (h : a.length = 1) (hb : b ≠ []) : Lib.hasPrefix b a = headE a b := by
  match a, b, h, hb with
  | [x], y :: r, _, _ => unfold Lib.hasPrefix headE; rw [Bool.eq_iff_iff]; simp [List.isPrefixOf]
theorem headE_comm (a b : List UInt8) : headE a b = headE b a := by unfold headE; rw [Bool.eq_iff_iff, beq_iff_eq, beq_iff_eq]; exact eq_comm

theorem abbr (a b : ByteArray) (r : Bool) (w : World) (hb : b.data.toList ≠ []) (hr : (decide (a.data.toList.length = 1) && headE a.data.toList b.data.toList) = r) :
    Calls Tryd.prog 48 #[.string a, .string b] w fun e w' => e = .returned (.bool r) ∧ w = w' := by
  subst hr
  by_cases h1 : a.size = 1
  · have HL : Hid (a.data.toList.length = 1) := Lib.hid (by rw [len_size]; exact h1)
    have hq : ((a.size : Int) == 1) = true := by rw [beq_iff_eq]; omega
    have HP : Hid (Calls Tryd.prog 60 #[.string b, .string a] w fun e w' => e = .returned (.bool (headE a.data.toList b.data.toList)) ∧ w' = w) := Lib.hid (by rw [← pre_one HL.out hb]; exact Tryd.strings_HasPrefix b a w)
    clear hb h1
    go_enter Tryd.func48, Tryd.ntmps48
    go_wp2_with fail
    refine HP.out.mono ?_
    rintro e w' ⟨rfl, rfl⟩
    go_wp2_with fail
    go_ret
    exact ⟨by rw [HL.out]; rfl, rfl⟩
  · have HL : Hid (decide (a.data.toList.length = 1) = false) := Lib.hid (by rw [len_size]; exact decide_eq_false h1)
    have hq : ((a.size : Int) == 1) = false := by rw [beq_eq_false_iff_ne]; omega
    clear hb h1
    go_enter Tryd.func48, Tryd.ntmps48
    go_wp2_with fail
    go_ret
    exact ⟨by rw [HL.out]; rfl, rfl⟩

theorem ne_str {a b : ByteArray} (h : a ≠ b) : (a.toList == b.toList) = false := by
  rw [beq_eq_false_iff_ne]
  intro e
  rw [Lib.toList_data, Lib.toList_data] at e
  exact h (ByteArray.ext (Array.ext' e))
theorem ne_list {a b : ByteArray} (h : a ≠ b) : (a.data.toList == b.data.toList) = false := by
  have := ne_str h
  rwa [Lib.toList_data, Lib.toList_data] at this
theorem fit_same (a : List UInt8) : fitB a a = true := by simp [fitB]

set_option maxHeartbeats 1000000 in
theorem sameWord (a b : ByteArray) (w : World) (ha : a.data.toList ≠ []) (hb : b.data.toList ≠ []) :
    Calls Tryd.prog 36 #[.string a, .string b] w fun e w' => e = .returned (.bool (fitB a.data.toList b.data.toList)) ∧ w = w' := by
  by_cases hab : a = b
  · subst hab
    have HF := Lib.hid (fit_same a.data.toList)
    clear ha hb
    go_enter Tryd.func36, Tryd.ntmps36
    go_wp2_with fail
    go_ret
    exact ⟨by rw [HF.out]; rfl, rfl⟩
  · have hne := ne_str hab
    have HNl := Lib.hid (ne_list hab)
    have HHa := Lib.hid ha
    have HHb := Lib.hid hb
    clear hab ha hb
    have HE := Lib.hid (show fitB a.data.toList b.data.toList = ((a.data.toList == b.data.toList) || (decide (a.data.toList.length = 1) && headE a.data.toList b.data.toList) || (decide (b.data.toList.length = 1) && headE a.data.toList b.data.toList)) from rfl)
    cases h1 : (decide (a.data.toList.length = 1) && headE a.data.toList b.data.toList) with
    | true =>
      have H1 := Lib.hid h1
      clear h1
      go_enter Tryd.func36, Tryd.ntmps36
      go_wp2_with fail
      refine (abbr a b true _ HHb.out H1.out).mono ?_
      rintro e w' ⟨rfl, rfl⟩
      go_wp2_with fail
      go_ret
      exact ⟨by rw [HE.out, H1.out, HNl.out]; rfl, rfl⟩
    | false =>
      have H1 := Lib.hid h1
      clear h1
      go_enter Tryd.func36, Tryd.ntmps36
      go_wp2_with fail
      refine (abbr a b false _ HHb.out H1.out).mono ?_
      rintro e w' ⟨rfl, rfl⟩
      go_wp2_with fail
      refine (abbr b a _ _ HHa.out rfl).mono ?_
      rintro e w' ⟨rfl, rfl⟩
      go_wp2_with fail
      go_ret
      exact ⟨by rw [HE.out, H1.out, HNl.out, headE_comm]; rfl, rfl⟩

theorem headE_at {a b : ByteArray} (ha : 0 < a.size) (hb : 0 < b.size) : headE a.data.toList b.data.toList = ((a[0].toNat : Int) == (b[0].toNat : Int)) := by
  have h1 := drop_cons a 0 ha
  have h2 := drop_cons b 0 hb
  rw [List.drop_zero] at h1 h2
  unfold headE
  rw [h1, h2, Bool.eq_iff_iff]
  simp
  constructor
  · intro h; rw [h]
  · intro h; exact UInt8.toNat_inj.1 (by omega)

set_option maxHeartbeats 1000000 in
theorem l2Fits (a b : ByteArray) (w : World) (ha : a.data.toList ≠ []) (hb : b.data.toList ≠ []) :
    Calls Tryd.prog 49 #[.string a, .string b] w fun e w' => e = .returned (.bool (fitB a.data.toList b.data.toList)) ∧ ∃ q, w' = w.drewN q := by
  have hpa : 0 < a.size := by rw [← len_size]; exact List.length_pos_iff.2 ha
  have hpb : 0 < b.size := by rw [← len_size]; exact List.length_pos_iff.2 hb
  clear ha hb
  by_cases hab : a = b
  · subst hab
    have HF := Lib.hid (fit_same a.data.toList)
    go_enter Tryd.func49, Tryd.ntmps49
    go_wp2_with fail
    go_quiet (fail)
    go_wp2_with fail
    go_ret
    exact ⟨by rw [HF.out]; rfl, _, rfl⟩
  · have hne := ne_str hab
    have HNl := Lib.hid (ne_list hab)
    clear hab
    have HE := Lib.hid (show fitB a.data.toList b.data.toList = ((a.data.toList == b.data.toList) || (decide (a.data.toList.length = 1) && headE a.data.toList b.data.toList) || (decide (b.data.toList.length = 1) && headE a.data.toList b.data.toList)) from rfl)
    rw [headE_at hpa hpb, len_size, len_size] at HE
    cases hq : ((a[0].toNat : Int) == (b[0].toNat : Int)) <;> by_cases h1 : a.size = 1 <;> by_cases h2 : b.size = 1
    all_goals
      have HQ := Lib.hid hq
      have H1 := Lib.hid h1
      have H2 := Lib.hid h2
      first | (have hq1 : ((a.size : Int) == 1) = true := by rw [beq_iff_eq]; omega) | (have hq1 : ((a.size : Int) == 1) = false := by rw [beq_eq_false_iff_ne]; omega)
      first | (have hq2 : ((b.size : Int) == 1) = true := by rw [beq_iff_eq]; omega) | (have hq2 : ((b.size : Int) == 1) = false := by rw [beq_eq_false_iff_ne]; omega)
      clear h1 h2
      go_enter Tryd.func49, Tryd.ntmps49
      go_wp2_with fail
      go_quiet (fail)
      go_wp2_with fail
      go_ret
      exact ⟨ret_bool (by rw [HE.out, HQ.out, HNl.out]; simp [H1.out, H2.out]), _, rfl⟩
end Go.Proofs.YtdjkgkfgnmcldaaDoor.May
