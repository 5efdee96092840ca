/-
  Contracts of TitleWords of both.
-/
import Derived.Test.YtobjfmchnlnohaaGreatDoorTi
import Derived.Test.YtobjfmchnlnohaaGreatDoorTw
import Derived.Test.YtobjfmchnlnohaaGreatDoorLw
import Derived.Test.YtobjfmchnlnohaaGreatDoorCs
import Derived.OwnWalk
namespace Go.Proofs.YtobjfmchnlnohaaGreatDoor.Wt
open Go.RowKit Pl NmPl TiPl Kt Ti Cs
set_option linter.unusedSimpArgs false
set_option linter.unusedVariables false

theorem cs_map (l : List (List UInt8)) : cs l = (l.map ba).map Value.string := by simp [cs]
/-- what both answer -/
def answer (l : List UInt8) : List ByteArray := if okT l = true then (words l).map ba else []
theorem answer_len (l : List UInt8) (h : l.length ≤ 1048576) : (answer l).length ≤ 2097152 := by
  unfold answer
  split
  · rw [List.length_map]; have := words_len l; omega
  · simp
/-- function f answers this list -/
def WordsTo (f : Nat) (s : ByteArray) (l : List ByteArray) (ok : Bool) : Prop :=
  ∀ w, ML w → Calls Tryz.prog f #[.string s] w fun e W' => ∃ v, e = .returned (.tuple #[v, .bool ok]) ∧ W'.ownsRow w.heap.size 9 1 v l.length (l.map Value.string) ∧ Below w.heap.size w W'

theorem implWords (s : ByteArray) (hs : s.size ≤ 1048576) : WordsTo 6 s (answer s.data.toList) (okT s.data.toList) := by
  intro w hm
  have HV := Lib.hid (fun r h => isValidT s r w hm hs h)
  have HP := Lib.hid (Tw.words_any s w hs)
  cases hr : okT s.data.toList with
  | true =>
    have HV' := Lib.hid (HV.out true hr)
    have HA : Hid (answer s.data.toList = (words s.data.toList).map ba) := Lib.hid (by rw [answer, if_pos hr])
    clear hr HV
    rw [HA.out]
    go_enter Tryz.func6, Tryz.ntmps6
    go_wp2_with fail
    refine HV'.out.mono ?_
    rintro e w' ⟨rfl, rfl⟩
    go_wp2_with fail
    refine HP.out.mono ?_
    rintro e w1 ⟨v, rfl, ho, b1⟩
    go_wp2_with fail
    go_ret2
    exact ⟨v, rfl, by rw [List.length_map, ← cs_map]; exact ho, b1⟩
  | false =>
    have HV' := Lib.hid (HV.out false hr)
    have HA : Hid (answer s.data.toList = []) := Lib.hid (by rw [answer, if_neg (by rw [hr]; decide)])
    clear hr HV
    rw [HA.out]
    go_enter Tryz.func6, Tryz.ntmps6
    go_wp2_with fail
    refine HV'.out.mono ?_
    rintro e w' ⟨rfl, rfl⟩
    go_wp2_with fail
    go_ret2
    exact ⟨_, rfl, World.ownsRow_lit w #[] 0 (Nat.le_refl _) (Nat.zero_le _) rfl, (Below.refl _ _).alloc (Nat.le_refl _) _⟩

theorem specWords (s : ByteArray) (hs : s.size ≤ 1048576) : WordsTo 7 s (answer s.data.toList) (okT s.data.toList) := by
  intro w hm
  have HV := Lib.hid (fun r h => l6Good_any s r w hs h)
  have HP := Lib.hid (Lw.l6Words_any s w hs)
  cases hr : okT s.data.toList with
  | true =>
    have HV' := Lib.hid (HV.out true hr)
    have HA : Hid (answer s.data.toList = (words s.data.toList).map ba) := Lib.hid (by rw [answer, if_pos hr])
    clear hr HV
    rw [HA.out]
    go_enter Tryz.func7, Tryz.ntmps7
    go_wp2_with fail
    refine HV'.out.mono ?_
    rintro e w' ⟨rfl, rfl⟩
    go_wp2_with fail
    refine HP.out.mono ?_
    rintro e w1 ⟨v, rfl, ho, b1⟩
    go_wp2_with fail
    go_ret2
    exact ⟨v, rfl, by rw [List.length_map, ← cs_map]; exact ho, b1⟩
  | false =>
    have HV' := Lib.hid (HV.out false hr)
    have HA : Hid (answer s.data.toList = []) := Lib.hid (by rw [answer, if_neg (by rw [hr]; decide)])
    clear hr HV
    rw [HA.out]
    go_enter Tryz.func7, Tryz.ntmps7
    go_wp2_with fail
    refine HV'.out.mono ?_
    rintro e w' ⟨rfl, rfl⟩
    go_wp2_with fail
    go_ret2
    exact ⟨_, rfl, World.ownsRow_lit w #[] 0 (Nat.le_refl _) (Nat.zero_le _) rfl, (Below.refl _ _).alloc (Nat.le_refl _) _⟩
end Go.Proofs.YtobjfmchnlnohaaGreatDoor.Wt
