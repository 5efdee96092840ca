/-
  Contracts of strings.Cut at one byte: what stands before it and behind it.
-/
import Derived.Test.YteccmlpibbchbaaGreatDoorRows
import Derived.Test.YteccmlpibbchbaaGreatDoorPlain
import Derived.Test.YteccmlpibbchbaaGreatDoorGSp
import Derived.Test.YteccmlpibbchbaaGreatDoorShelf
import Derived.WalkKit
import Derived.Lib.Hide
import Derived.Deep.QuietTactic
import Derived.BigQuiet
import Derived.IntWalk
namespace Go.Proofs.YteccmlpibbchbaaGreatDoor.Cut
open Go.RowKit Pl Stands SplitPl

/-- what stands behind the first such byte -/
def rest (b : UInt8) (l : List UInt8) : List UInt8 := l.drop ((hd b l).length + 1)
theorem hd_rest {b : UInt8} {l : List UInt8} (h : stB b l = true) : l = hd b l ++ b :: rest b l := by
  have hi : 0 ≤ Lib.indexByte l b := by rw [← stB_index] at h; simpa using h
  obtain ⟨o, ho⟩ := Int.eq_ofNat_of_zero_le hi
  obtain ⟨h1, h2⟩ := Lib.indexByte_some ho
  have hlt : o < l.length := (List.getElem?_eq_some_iff.1 h1).1
  have hb : l[o] = b := (List.getElem?_eq_some_iff.1 h1).2
  have e := hd_index h1 h2
  have el : (hd b l).length = o := by rw [e, List.length_take]; omega
  unfold rest
  rw [el, e]
  conv => lhs; rw [← List.take_append_drop o l, List.drop_eq_getElem_cons hlt, hb]
theorem rest_len (b : UInt8) (l : List UInt8) : (rest b l).length ≤ l.length := by unfold rest; rw [List.length_drop]; omega

theorem extract_take (s : ByteArray) (o : Nat) : s.extract 0 o = ba (s.data.toList.take o) := by
  rw [extract_list]; simp
theorem extract_drop (s : ByteArray) (o : Nat) : s.extract o s.size = ba (s.data.toList.drop o) := by
  rw [extract_list, take_all s _ (Nat.le_refl _)]

set_option maxHeartbeats 1000000 in
theorem lite_yes (s : ByteArray) (b : UInt8) (w : World) (hs : s.size ≤ maxLen) (h : stB b s.data.toList = true) :
    Calls Tryz.prog 153 #[.string s, .string ⟨#[b]⟩] w fun e w' => e = .returned (.tuple #[.string (ba (hd b s.data.toList)), .string (ba (rest b s.data.toList)), .bool true]) ∧ ∃ q, w' = w.drewN q := by
  unfold maxLen at hs
  have hi : 0 ≤ Lib.indexByte s.data.toList b := by rw [← stB_index] at h; simpa using h
  obtain ⟨o, ho⟩ := Int.eq_ofNat_of_zero_le hi
  obtain ⟨h1, h2⟩ := Lib.indexByte_some ho
  have hlt : o < s.size := by have := (List.getElem?_eq_some_iff.1 h1).1; rwa [len_size] at this
  have HH : Hid (s.extract 0 o = ba (hd b s.data.toList)) := Lib.hid (by rw [extract_take, hd_index h1 h2])
  have HR : Hid (s.extract (o + 1) s.size = ba (rest b s.data.toList)) := Lib.hid (by
    rw [extract_drop]; unfold rest; rw [hd_index h1 h2, take_len s o (by omega)])
  have HI : Hid (Calls Tryz.prog 159 #[.string s, .string ⟨#[b]⟩] w fun e w' => e = .returned (.int .i64 (o : Int)) ∧ w' = w) := Lib.hid (by rw [← ho]; exact Tryz.stringslite_Index_one s b w)
  clear h hi ho h1 h2
  have hw1 : IntKind.i64.wrap ((o : Int) + 1) = (o : Int) + 1 := IntWalk.i64_in _ (by omega)
  go_enter Tryz.func153, Tryz.ntmps153
  go_wp2_with fail
  refine HI.out.mono ?_
  rintro e w' ⟨rfl, rfl⟩
  go_wp2_with fail
  go_quiet (fail)
  go_wp2_with fail
  go_ret3
  exact ⟨by rw [← HH.out, ← HR.out]; rfl, _, rfl⟩
set_option maxHeartbeats 1000000 in
theorem lite_no (s : ByteArray) (b : UInt8) (w : World) (h : stB b s.data.toList = false) :
    Calls Tryz.prog 153 #[.string s, .string ⟨#[b]⟩] w fun e w' => e = .returned (.tuple #[.string s, .string ⟨#[]⟩, .bool false]) ∧ w' = w := by
  have hge := Lib.indexByte_ge s.data.toList b
  have hm1 : Lib.indexByte s.data.toList b = -1 := by rw [← stB_index] at h; simp at h; omega
  have HI : Hid (Calls Tryz.prog 159 #[.string s, .string ⟨#[b]⟩] w fun e w' => e = .returned (.int .i64 (-1)) ∧ w' = w) := Lib.hid (by rw [← hm1]; exact Tryz.stringslite_Index_one s b w)
  clear h hge hm1
  go_enter Tryz.func153, Tryz.ntmps153
  go_wp2_with fail
  refine HI.out.mono ?_
  rintro e w' ⟨rfl, rfl⟩
  go_wp2_with fail
  go_ret3
  exact ⟨rfl, rfl⟩
theorem cut_yes (s : ByteArray) (b : UInt8) (w : World) (hs : s.size ≤ maxLen) (h : stB b s.data.toList = true) :
    Calls Tryz.prog 145 #[.string s, .string ⟨#[b]⟩] w fun e w' => e = .returned (.tuple #[.string (ba (hd b s.data.toList)), .string (ba (rest b s.data.toList)), .bool true]) ∧ ∃ q, w' = w.drewN q := by
  have HC := Lib.hid (lite_yes s b w hs h)
  clear h
  go_enter Tryz.func145, Tryz.ntmps145
  go_wp2_with fail
  refine HC.out.mono ?_
  rintro e w' ⟨rfl, q, rfl⟩
  go_wp2_with fail
  go_ret3
  exact ⟨rfl, q, rfl⟩
theorem cut_no (s : ByteArray) (b : UInt8) (w : World) (h : stB b s.data.toList = false) :
    Calls Tryz.prog 145 #[.string s, .string ⟨#[b]⟩] w fun e w' => e = .returned (.tuple #[.string s, .string ⟨#[]⟩, .bool false]) ∧ w' = w := by
  have HC := Lib.hid (lite_no s b w h)
  clear h
  go_enter Tryz.func145, Tryz.ntmps145
  go_wp2_with fail
  refine HC.out.mono ?_
  rintro e w' ⟨rfl, rfl⟩
  go_wp2_with fail
  go_ret3
  exact ⟨rfl, rfl⟩
end Go.Proofs.YteccmlpibbchbaaGreatDoor.Cut
