/-
  Contracts of strings.Cut at one byte, spec.VerifyChecksum and impl.VerifyChecksum.
-/
import Derived.Test.YtfnkaoobnhjlbaaDoorRows
import Derived.Test.YtfnkaoobnhjlbaaDoorPlain
import Derived.Test.YtfnkaoobnhjlbaaDoorSplitPl
import Derived.Test.YtfnkaoobnhjlbaaDoorSplit
import Derived.Test.YtfnkaoobnhjlbaaDoorSeal
import Derived.WalkKit
import Derived.Lib.Hide
import Derived.Deep.QuietTactic
import Derived.BigQuiet
import Derived.IntWalk
import Derived.OwnWalk
namespace Go.Proofs.YtfnkaoobnhjlbaaDoor.Verify
open Go.RowKit Pl Num Stands SplitPl Seal

theorem extract_take (s : ByteArray) (o : Nat) : s.extract 0 o = ba (s.data.toList.take o) := by
  rw [extract_list]; simp

set_option maxHeartbeats 1000000 in
theorem cutlite_any (s : ByteArray) (b : UInt8) (w : World) (hs : s.size ≤ maxLen) :
    Calls Tryd.prog 78 #[.string s, .string ⟨#[b]⟩] w fun e w' => ∃ y r, e = .returned (.tuple #[.string (ba (hd b s.data.toList)), .string y, .bool r]) ∧ ∃ q, w' = w.drewN q := by
  unfold maxLen at hs
  have hge := Lib.indexByte_ge s.data.toList b
  by_cases h : 0 ≤ Lib.indexByte s.data.toList b
  · obtain ⟨o, ho⟩ := Int.eq_ofNat_of_zero_le h
    obtain ⟨h1, h2⟩ := Lib.indexByte_some ho
    have hlt : o < s.size := by have := (List.getElem?_eq_some_iff.1 h1).1; rwa [len_size] at this
    have HH : Hid (s.extract 0 o = ba (hd b s.data.toList)) := Lib.hid (by rw [extract_take, hd_index h1 h2])
    have HI : Hid (Calls Tryd.prog 92 #[.string s, .string ⟨#[b]⟩] w fun e w' => e = .returned (.int .i64 (o : Int)) ∧ w' = w) := Lib.hid (by rw [← ho]; exact Tryd.stringslite_Index_one s b w)
    clear h hge ho h1 h2
    have hw1 : IntKind.i64.wrap ((o : Int) + 1) = (o : Int) + 1 := IntWalk.i64_in _ (by omega)
    go_enter Tryd.func78, Tryd.ntmps78
    go_wp2_with fail
    refine HI.out.mono ?_
    rintro e w' ⟨rfl, rfl⟩
    go_wp2_with fail
    go_quiet (fail)
    go_wp2_with fail
    go_ret3
    exact ⟨_, _, by rw [← HH.out]; rfl, _, rfl⟩
  · have hm1 : Lib.indexByte s.data.toList b = -1 := by omega
    have HH : Hid (s = ba (hd b s.data.toList)) := Lib.hid (by
      rw [hd_free, ba_toList]
      rw [← stB_index]; simp; omega)
    have HI : Hid (Calls Tryd.prog 92 #[.string s, .string ⟨#[b]⟩] w fun e w' => e = .returned (.int .i64 (-1)) ∧ w' = w) := Lib.hid (by rw [← hm1]; exact Tryd.stringslite_Index_one s b w)
    clear h hge hm1
    go_enter Tryd.func78, Tryd.ntmps78
    go_wp2_with fail
    refine HI.out.mono ?_
    rintro e w' ⟨rfl, rfl⟩
    go_wp2_with fail
    go_ret3
    exact ⟨_, _, by rw [← HH.out]; rfl, 0, rfl⟩

theorem cut_any (s : ByteArray) (b : UInt8) (w : World) (hs : s.size ≤ maxLen) :
    Calls Tryd.prog 42 #[.string s, .string ⟨#[b]⟩] w fun e w' => ∃ y r, e = .returned (.tuple #[.string (ba (hd b s.data.toList)), .string y, .bool r]) ∧ ∃ q, w' = w.drewN q := by
  have HC := Lib.hid (cutlite_any s b w hs)
  go_enter Tryd.func42, Tryd.ntmps42
  go_wp2_with fail
  refine HC.out.mono ?_
  rintro e w' ⟨y, r, rfl, q, rfl⟩
  go_wp2_with fail
  go_ret3
  exact ⟨_, _, rfl, q, rfl⟩

/-- what stands before the first mark -/
def hdB (s : ByteArray) : ByteArray := ba (hd 35 s.data.toList)
theorem hdB_size (s : ByteArray) : (hdB s).size ≤ s.size := by
  unfold hdB; rw [ba_size]; have := hd_len 35 s.data.toList; rwa [len_size] at this
theorem hdB_free (s : ByteArray) : stB 35 (hdB s).data.toList = false := by unfold hdB; rw [toList_ba]; exact hd_nofind 35 _
def vfB (s : ByteArray) : Bool := decide (s.size ≤ 4000 ∧ sealB (hdB s) = s)
def vfV (s : ByteArray) : Value := if vfB s = true then .tuple #[.string (hdB s), .bool true] else .tuple #[.string ⟨#[]⟩, .bool false]
theorem vfV_no {s : ByteArray} (h : ¬ (s.size ≤ 4000 ∧ sealB (hdB s) = s)) : vfV s = .tuple #[.string ⟨#[]⟩, .bool false] := by
  have : vfB s = false := by unfold vfB; exact decide_eq_false h
  simp [vfV, this]
theorem vfV_yes {s : ByteArray} (h : s.size ≤ 4000 ∧ sealB (hdB s) = s) : vfV s = .tuple #[.string (hdB s), .bool true] := by
  have : vfB s = true := by unfold vfB; exact decide_eq_true h
  simp [vfV, this]
/-- what AppendChecksum answers at the part before the mark -/
theorem ap_hd (s : ByteArray) : (apV (hdB s) = .tuple #[.string ⟨#[]⟩, .bool false] ∧ ¬ (s.size ≤ 4000 ∧ sealB (hdB s) = s)) ∨ apV (hdB s) = .tuple #[.string (sealB (hdB s)), .bool true] ∧ (sealB (hdB s) = s → s.size ≤ 4000) := by
  by_cases h : apB (hdB s) = true
  · right
    refine ⟨apV_yes h, fun e => ?_⟩
    simp [apB] at h
    rw [← e]; exact h.2
  · left
    have h' : apB (hdB s) = false := by simpa using h
    refine ⟨apV_no h', fun ⟨h4, e⟩ => h ?_⟩
    exact apB_ok (Nat.le_trans (hdB_size s) h4) (hdB_free s) (by rw [e]; exact h4)
theorem ne_forms {x s : ByteArray} (h : x ≠ s) : (x.toList == s.toList) = false := by
  rw [beq_eq_false_iff_ne]
  intro e
  rw [Lib.toList_data, Lib.toList_data] at e
  exact h (ByteArray.ext (Array.ext' e))

set_option maxHeartbeats 1000000 in
theorem implVerify (s : ByteArray) (w : World) (hs : s.size ≤ maxLen) (ht : Tab w) :
    Calls Tryd.prog 34 #[.string s] w fun e w' => e = .returned (vfV s) ∧ Below w.heap.size w w' := by
  have HT := Lib.hid ht
  have HC := Lib.hid (cut_any s 35 w hs)
  have HA : Hid (∀ q, Calls Tryd.prog 32 #[.string (hdB s)] (w.drewN q) fun e w' => e = .returned (apV (hdB s)) ∧ Below (w.drewN q).heap.size (w.drewN q) w') := Lib.hid (fun q => implAppend (hdB s) _ (show Tab (w.drewN q) from HT.out))
  have HB : Hid (hdB s = ba (hd 35 s.data.toList)) := Lib.hid rfl
  rw [← HB.out] at HC
  rcases ap_hd s with ⟨ha, hno⟩ | ⟨ha, hyes⟩
  · have HE := Lib.hid (vfV_no hno)
    rw [ha] at HA
    clear ha hno ht
    generalize hdB s = t at *
    go_enter Tryd.func34, Tryd.ntmps34
    go_wp2_with fail
    refine HC.out.mono ?_
    rintro e w' ⟨y, r, rfl, q, rfl⟩
    go_wp2_with fail
    refine (HA.out q).mono ?_
    rintro e w2 ⟨rfl, b2⟩
    go_wp2_with fail
    go_ret2
    exact ⟨by rw [HE.out]; rfl, b2.os, b2.tape, b2.output, b2.size, b2.block⟩
  · rw [ha] at HA
    clear ha ht
    by_cases he : sealB (hdB s) = s
    · have HE := Lib.hid (vfV_yes ⟨hyes he, he⟩)
      rw [he] at HA
      clear he hyes
      generalize hdB s = t at *
      go_enter Tryd.func34, Tryd.ntmps34
      go_wp2_with fail
      refine HC.out.mono ?_
      rintro e w' ⟨y, r, rfl, q, rfl⟩
      go_wp2_with fail
      refine (HA.out q).mono ?_
      rintro e w2 ⟨rfl, b2⟩
      go_wp2_with fail
      go_ret2
      exact ⟨by rw [HE.out]; rfl, b2.os, b2.tape, b2.output, b2.size, b2.block⟩
    · have HE := Lib.hid (vfV_no (s := s) (fun h => he h.2))
      have hne := ne_forms he
      clear he hyes
      generalize sealB (hdB s) = x at *
      generalize hdB s = t at *
      go_enter Tryd.func34, Tryd.ntmps34
      go_wp2_with fail
      refine HC.out.mono ?_
      rintro e w' ⟨y, r, rfl, q, rfl⟩
      go_wp2_with fail
      refine (HA.out q).mono ?_
      rintro e w2 ⟨rfl, b2⟩
      go_wp2_with fail
      go_ret2
      exact ⟨by rw [HE.out]; rfl, b2.os, b2.tape, b2.output, b2.size, b2.block⟩
end Go.Proofs.YtfnkaoobnhjlbaaDoor.Verify
