/-
  Contracts of JoinTwo of both.
-/
import Derived.Test.YtnijmhhigkbddaaDoorMqJ
namespace Go.Proofs.YtnijmhhigkbddaaDoor.Mq
open Go.RowKit Pl NmPl MqPl
set_option linter.unusedSimpArgs false
set_option linter.unusedVariables false

/-- what JoinTwo answers -/
def jtV (a b : ByteArray) : Value := if okX a.data.toList = true ∧ okX b.data.toList = true then .tuple #[.string (jB a b), .bool true] else .tuple #[.string ⟨#[]⟩, .bool false]
theorem jtV_form (a b : ByteArray) : ∃ s r, jtV a b = .tuple #[.string s, .bool r] := by unfold jtV; split <;> exact ⟨_, _, rfl⟩
set_option maxHeartbeats 2000000 in
theorem jts_i (a b : ByteArray) (w : World) (ht : MarkTab w) (ha : a.size ≤ 1048576) (hb : b.size ≤ 1048576) :
    Calls Tryd.prog 6 #[.string a, .string b] w fun e w' => e = .returned (jtV a b) ∧ Below w.heap.size w w' := by
  have HA := Lib.hid (fun r h w => isPart_i a r w ha h)
  have HB := Lib.hid (fun r h w => isPart_i b r w hb h)
  have HJ := Lib.hid (joinTwo_i a b w ht ha hb)
  clear ht
  cases h1 : okX a.data.toList with
  | false =>
    have HE : Hid (jtV a b = .tuple #[.string ⟨#[]⟩, .bool false]) := Lib.hid (by unfold jtV; rw [if_neg (by simp [h1])])
    have HA' := Lib.hid (HA.out false h1)
    clear h1
    go_enter Tryd.func6, Tryd.ntmps6
    go_wp2_with fail
    refine (HA'.out _).mono ?_
    rintro e w' ⟨rfl, rfl⟩
    go_wp2_with fail
    go_ret2
    exact ⟨by rw [HE.out]; rfl, Below.refl _ _⟩
  | true =>
    have HA' := Lib.hid (HA.out true h1)
    cases h2 : okX b.data.toList with
    | false =>
      have HE : Hid (jtV a b = .tuple #[.string ⟨#[]⟩, .bool false]) := Lib.hid (by unfold jtV; rw [if_neg (by simp [h2])])
      have HB' := Lib.hid (HB.out false h2)
      clear h1 h2
      go_enter Tryd.func6, Tryd.ntmps6
      go_wp2_with fail
      refine (HA'.out _).mono ?_
      rintro e w' ⟨rfl, rfl⟩
      go_wp2_with fail
      refine (HB'.out _).mono ?_
      rintro e w' ⟨rfl, rfl⟩
      go_wp2_with fail
      go_ret2
      exact ⟨by rw [HE.out]; rfl, Below.refl _ _⟩
    | true =>
      have HE : Hid (jtV a b = .tuple #[.string (jB a b), .bool true]) := Lib.hid (by unfold jtV; rw [if_pos ⟨h1, h2⟩])
      have HB' := Lib.hid (HB.out true h2)
      clear h1 h2
      go_enter Tryd.func6, Tryd.ntmps6
      go_wp2_with fail
      refine (HA'.out _).mono ?_
      rintro e w' ⟨rfl, rfl⟩
      go_wp2_with fail
      refine (HB'.out _).mono ?_
      rintro e w' ⟨rfl, rfl⟩
      go_wp2_with fail
      refine HJ.out.mono ?_
      rintro e w1 ⟨rfl, b1⟩
      go_wp2_with fail
      go_ret2
      exact ⟨by rw [HE.out]; rfl, b1⟩
set_option maxHeartbeats 2000000 in
theorem jts_s (a b : ByteArray) (w : World) (ha : a.size ≤ 1048576) (hb : b.size ≤ 1048576) :
    Calls Tryd.prog 7 #[.string a, .string b] w fun e w' => e = .returned (jtV a b) ∧ Below w.heap.size w w' := by
  have HA := Lib.hid (fun r h w => text_s a r w ha h)
  have HB := Lib.hid (fun r h w => text_s b r w hb h)
  have HJ := Lib.hid (l11Two_s a b w ha hb)
  cases h1 : okX a.data.toList with
  | false =>
    have HE : Hid (jtV a b = .tuple #[.string ⟨#[]⟩, .bool false]) := Lib.hid (by unfold jtV; rw [if_neg (by simp [h1])])
    have HA' := Lib.hid (HA.out false h1)
    clear h1
    go_enter Tryd.func7, Tryd.ntmps7
    go_wp2_with fail
    refine (HA'.out _).mono ?_
    rintro e w' ⟨rfl, rfl⟩
    go_wp2_with fail
    go_ret2
    exact ⟨by rw [HE.out]; rfl, Below.refl _ _⟩
  | true =>
    have HA' := Lib.hid (HA.out true h1)
    cases h2 : okX b.data.toList with
    | false =>
      have HE : Hid (jtV a b = .tuple #[.string ⟨#[]⟩, .bool false]) := Lib.hid (by unfold jtV; rw [if_neg (by simp [h2])])
      have HB' := Lib.hid (HB.out false h2)
      clear h1 h2
      go_enter Tryd.func7, Tryd.ntmps7
      go_wp2_with fail
      refine (HA'.out _).mono ?_
      rintro e w' ⟨rfl, rfl⟩
      go_wp2_with fail
      refine (HB'.out _).mono ?_
      rintro e w' ⟨rfl, rfl⟩
      go_wp2_with fail
      go_ret2
      exact ⟨by rw [HE.out]; rfl, Below.refl _ _⟩
    | true =>
      have HE : Hid (jtV a b = .tuple #[.string (jB a b), .bool true]) := Lib.hid (by unfold jtV; rw [if_pos ⟨h1, h2⟩])
      have HB' := Lib.hid (HB.out true h2)
      clear h1 h2
      go_enter Tryd.func7, Tryd.ntmps7
      go_wp2_with fail
      refine (HA'.out _).mono ?_
      rintro e w' ⟨rfl, rfl⟩
      go_wp2_with fail
      refine (HB'.out _).mono ?_
      rintro e w' ⟨rfl, rfl⟩
      go_wp2_with fail
      refine HJ.out.mono ?_
      rintro e w1 ⟨rfl, b1⟩
      go_wp2_with fail
      go_ret2
      exact ⟨by rw [HE.out]; rfl, b1⟩
end Go.Proofs.YtnijmhhigkbddaaDoor.Mq
