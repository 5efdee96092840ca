/-
  Contracts of spec.l1Seal, spec.AppendChecksum and impl.AppendChecksum.
-/
import Derived.Test.YtfnkaoobnhjlbaaDoorRows
import Derived.Test.YtfnkaoobnhjlbaaDoorPlain
import Derived.Test.YtfnkaoobnhjlbaaDoorSum
import Derived.Test.YtfnkaoobnhjlbaaDoorStands
import Derived.Test.YtfnkaoobnhjlbaaDoorNum
import Derived.Test.YtfnkaoobnhjlbaaDoorShelf
import Derived.WalkKit
import Derived.Lib.Hide
namespace Go.Proofs.YtfnkaoobnhjlbaaDoor.Seal
open Go.RowKit Pl Num Stands

/-- the text with its checksum -/
def sealB (s : ByteArray) : ByteArray := s ++ ⟨#[35]⟩ ++ ba (Lib.itoa (ckSum s.data.toList))
theorem seal_bd (s : ByteArray) : (ba (Lib.itoa (ckSum s.data.toList))).size ≤ 1000001 := by
  have h := ckSum_bd s.data.toList
  rw [ba_size]
  exact itoa_len _ ⟨by omega, by omega⟩
theorem one35 : (ByteArray.mk #[35]).size = 1 := rfl

set_option maxHeartbeats 1000000 in
theorem l1Seal_any (s : ByteArray) (w : World) (hs : s.size ≤ 1048576) :
    Calls Tryd.prog 70 #[.string s] w fun e w' => e = .returned (.string (sealB s)) ∧ ∃ q, w' = w.drewN q := by
  have hb := seal_bd s
  have hc := ckSum_bd s.data.toList
  have HN := Lib.hid (fun w => l1Num_any (ckSum s.data.toList) w (by omega) (by omega))
  have HE : Hid (sealB s = s ++ ⟨#[35]⟩ ++ ba (Lib.itoa (ckSum s.data.toList))) := Lib.hid rfl
  have HS := Lib.hid (fun w => Sum.l1Sum_any s w (by unfold maxLen; omega))
  clear hc
  generalize ckSum s.data.toList = n at *
  generalize ba (Lib.itoa n) = t at *
  have h35 := one35
  have hL1 : ¬ 9223372036854775807 < s.size + (ByteArray.mk #[35]).size := by rw [h35]; omega
  have hL2 : ¬ 9223372036854775807 < (s ++ ByteArray.mk #[35]).size + t.size := by rw [ByteArray.size_append, h35]; omega
  have hL3 : ¬ 9223372036854775807 < s.size + 1 + t.size := by omega
  clear h35
  go_enter Tryd.func70, Tryd.ntmps70
  go_wp2_with fail
  refine (HS.out _).mono ?_
  rintro e w' ⟨rfl, rfl⟩
  go_wp2_with fail
  refine (HN.out _).mono ?_
  rintro e w' ⟨rfl, q, rfl⟩
  go_wp2_with fail
  go_ret
  exact ⟨by rw [HE.out]; rfl, q, rfl⟩

/-- sealing succeeds -/
def apB (s : ByteArray) : Bool := decide (s.size ≤ 4000) && !stB 35 s.data.toList && decide ((sealB s).size ≤ 4000)
def apV (s : ByteArray) : Value := if apB s = true then .tuple #[.string (sealB s), .bool true] else .tuple #[.string ⟨#[]⟩, .bool false]
theorem apV_no {s : ByteArray} (h : apB s = false) : apV s = .tuple #[.string ⟨#[]⟩, .bool false] := by simp [apV, h]
theorem apV_yes {s : ByteArray} (h : apB s = true) : apV s = .tuple #[.string (sealB s), .bool true] := by simp [apV, h]
theorem apB_long {s : ByteArray} (h : 4000 < s.size) : apB s = false := by simp [apB]; omega
theorem apB_st {s : ByteArray} (h : stB 35 s.data.toList = true) : apB s = false := by simp [apB, h]
theorem apB_big {s : ByteArray} (h : 4000 < (sealB s).size) : apB s = false := by
  have : decide ((sealB s).size ≤ 4000) = false := by simp; omega
  simp [apB, this]
theorem apB_ok {s : ByteArray} (h1 : s.size ≤ 4000) (h2 : stB 35 s.data.toList = false) (h3 : (sealB s).size ≤ 4000) : apB s = true := by simp [apB, h1, h2, h3]

theorem stands35 (s : ByteArray) (r : Bool) (w : World) (hs : s.size ≤ maxLen) (hr : stB 35 s.data.toList = r) :
    Calls Tryd.prog 69 #[.string s, .int .u8 35] w fun e w' => e = .returned (.bool r) ∧ w = w' :=
  (l1Stands_any s 35 w hs).mono fun _ _ ⟨he, hw⟩ => ⟨by rw [he, hr], hw⟩
theorem contains35 (s : ByteArray) (r : Bool) (w : World) (hr : stB 35 s.data.toList = r) :
    Calls Tryd.prog 68 #[.string s, .string ⟨#[35]⟩] w fun e w' => e = .returned (.bool r) ∧ w = w' :=
  (Tryd.strings_Contains_one s 35 w).mono fun _ _ ⟨he, hw⟩ => ⟨by rw [he, stB_index, hr], hw.symm⟩

set_option maxHeartbeats 1000000 in
theorem specAppend (s : ByteArray) (w : World) (hs : s.size ≤ maxLen) :
    Calls Tryd.prog 33 #[.string s] w fun e w' => e = .returned (apV s) ∧ ∃ q, w' = w.drewN q := by
  by_cases h4 : 4000 < s.size
  · have HE := Lib.hid (apV_no (apB_long h4))
    have hd : decide (4000 < (s.size : Int)) = true := by simp; omega
    go_enter Tryd.func33, Tryd.ntmps33
    go_wp2_with fail
    go_ret2
    exact ⟨by rw [HE.out]; rfl, 0, rfl⟩
  · have hd : decide (4000 < (s.size : Int)) = false := by simp; omega
    by_cases hst : stB 35 s.data.toList = true
    · have HE := Lib.hid (apV_no (apB_st hst))
      have HST := Lib.hid hst
      clear hst
      go_enter Tryd.func33, Tryd.ntmps33
      go_wp2_with fail
      refine (stands35 s true _ hs HST.out).mono ?_
      rintro e w' ⟨rfl, rfl⟩
      go_wp2_with fail
      go_ret2
      exact ⟨by rw [HE.out]; rfl, 0, rfl⟩
    · have HST : Hid (stB 35 s.data.toList = false) := Lib.hid (by simpa using hst)
      clear hst
      by_cases hbig : 4000 < (sealB s).size
      · have HE := Lib.hid (apV_no (apB_big hbig))
        go_enter Tryd.func33, Tryd.ntmps33
        go_wp2_with fail
        refine (stands35 s false _ hs HST.out).mono ?_
        rintro e w' ⟨rfl, rfl⟩
        go_wp2_with fail
        refine (l1Seal_any s _ (by omega)).mono ?_
        rintro e w' ⟨rfl, q, rfl⟩
        generalize sealB s = t at *
        go_wp2_with fail
        go_ret2
        exact ⟨by rw [HE.out]; rfl, q, rfl⟩
      · have HE := Lib.hid (apV_yes (apB_ok (by omega) HST.out (by omega)))
        have hle : (sealB s).size ≤ 4000 := by omega
        go_enter Tryd.func33, Tryd.ntmps33
        go_wp2_with fail
        refine (stands35 s false _ hs HST.out).mono ?_
        rintro e w' ⟨rfl, rfl⟩
        go_wp2_with fail
        refine (l1Seal_any s _ (by omega)).mono ?_
        rintro e w' ⟨rfl, q, rfl⟩
        have HI := Lib.hid (l1Seal_any s (w.drewN q) (by omega))
        generalize sealB s = t at *
        go_wp2_with fail
        refine HI.out.mono ?_
        rintro e w' ⟨rfl, q2, rfl⟩
        go_wp2_with fail
        go_ret2
        exact ⟨by rw [HE.out]; rfl, _, rfl⟩

theorem fmt_sum (s : ByteArray) : fmtV (ckSum s.data.toList) = .tuple #[.string (ba (Lib.itoa (ckSum s.data.toList))), .bool true] := by
  have := ckSum_bd s.data.toList
  exact if_pos (by omega)

set_option maxHeartbeats 1000000 in
theorem implAppend (s : ByteArray) (w : World) (ht : Tab w) :
    Calls Tryd.prog 32 #[.string s] w fun e w' => e = .returned (apV s) ∧ Below w.heap.size w w' := by
  have HT := Lib.hid ht
  clear ht
  by_cases h4 : 4000 < s.size
  · have HE := Lib.hid (apV_no (apB_long h4))
    go_enter Tryd.func32, Tryd.ntmps32
    go_wp2_with fail
    refine (Sum.checksum_no s _ h4).mono ?_
    rintro e w' ⟨rfl, rfl⟩
    go_wp2_with fail
    go_ret2
    exact ⟨by rw [HE.out]; rfl, Below.refl _ _⟩
  · have HS := Lib.hid (fun w => Sum.checksum_any s w (by omega))
    by_cases hst : stB 35 s.data.toList = true
    · have HE := Lib.hid (apV_no (apB_st hst))
      have HST := Lib.hid hst
      clear hst
      go_enter Tryd.func32, Tryd.ntmps32
      go_wp2_with fail
      refine (HS.out _).mono ?_
      rintro e w' ⟨rfl, rfl⟩
      go_wp2_with fail
      refine (contains35 s true _ HST.out).mono ?_
      rintro e w' ⟨rfl, rfl⟩
      go_wp2_with fail
      go_ret2
      exact ⟨by rw [HE.out]; rfl, Below.refl _ _⟩
    · have HST : Hid (stB 35 s.data.toList = false) := Lib.hid (by simpa using hst)
      clear hst
      have HF := Lib.hid (fmt_sum s)
      have HC := Lib.hid (fun w => contains35 s false w HST.out)
      have hb := seal_bd s
      have HQ : Hid (sealB s = s ++ ⟨#[35]⟩ ++ ba (Lib.itoa (ckSum s.data.toList))) := Lib.hid rfl
      have hsz : (sealB s).size = s.size + 1 + (ba (Lib.itoa (ckSum s.data.toList))).size := by rw [HQ.out, ByteArray.size_append, ByteArray.size_append, one35]
      have HA : Hid ((4000 < s.size + 1 + (ba (Lib.itoa (ckSum s.data.toList))).size ∧ apV s = .tuple #[.string ⟨#[]⟩, .bool false]) ∨ (¬ 4000 < s.size + 1 + (ba (Lib.itoa (ckSum s.data.toList))).size ∧ apV s = .tuple #[.string (sealB s), .bool true])) := by
        refine Lib.hid ?_
        rw [← hsz]
        by_cases hbig : 4000 < (sealB s).size
        · exact .inl ⟨hbig, apV_no (apB_big hbig)⟩
        · exact .inr ⟨hbig, apV_yes (apB_ok (by omega) HST.out (by omega))⟩
      clear hsz
      have HI := Lib.hid (implFormat (ckSum s.data.toList) w HT.out)
      generalize ckSum s.data.toList = n at *
      rw [HF.out] at HI
      generalize ba (Lib.itoa n) = t at *
      have h35 := one35
      have hL1 : ¬ 9223372036854775807 < s.size + (ByteArray.mk #[35]).size := by rw [h35]; omega
      have hL2 : ¬ 9223372036854775807 < (s ++ ByteArray.mk #[35]).size + t.size := by rw [ByteArray.size_append, h35]; omega
      have hL3 : ¬ 9223372036854775807 < s.size + 1 + t.size := by omega
      clear h35
      rcases HA.out with ⟨hbig, he⟩ | ⟨hbig, he⟩
      · have HE := Lib.hid he
        clear he HA
        go_enter Tryd.func32, Tryd.ntmps32
        go_wp2_with fail
        refine (HS.out _).mono ?_
        rintro e w' ⟨rfl, rfl⟩
        go_wp2_with fail
        refine (HC.out _).mono ?_
        rintro e w' ⟨rfl, rfl⟩
        go_wp2_with fail
        refine HI.out.mono ?_
        rintro e w2 ⟨rfl, b2⟩
        go_wp2_with fail
        go_ret2
        exact ⟨by rw [HE.out]; rfl, b2⟩
      · have HE := Lib.hid he
        clear he HA
        go_enter Tryd.func32, Tryd.ntmps32
        go_wp2_with fail
        refine (HS.out _).mono ?_
        rintro e w' ⟨rfl, rfl⟩
        go_wp2_with fail
        refine (HC.out _).mono ?_
        rintro e w' ⟨rfl, rfl⟩
        go_wp2_with fail
        refine HI.out.mono ?_
        rintro e w2 ⟨rfl, b2⟩
        go_wp2_with fail
        go_ret2
        exact ⟨by rw [HE.out, HQ.out]; rfl, b2⟩
end Go.Proofs.YtfnkaoobnhjlbaaDoor.Seal
