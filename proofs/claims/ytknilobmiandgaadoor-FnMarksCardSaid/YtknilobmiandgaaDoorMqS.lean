/-
  StripMarks of both.
-/
import Derived.Test.YtknilobmiandgaaDoorMqJ
import Derived.Shelf.Strings.SlTrimAscii
import Derived.Shelf.Strings.IndexAnyAll
import Derived.ProofKit
import Derived.Deep.WholeRow
namespace Go.Proofs.YtknilobmiandgaaDoor.Mq
open Go.RowKit Pl NmPl MqPl
set_option linter.unusedSimpArgs false
set_option linter.unusedVariables false

/-- the marks and the space -/
def c7 : List UInt8 := [46, 44, 59, 58, 33, 63, 32]
def isMS (c : UInt8) : Bool := c7.contains c
theorem isMS_eq (c : UInt8) : isMS c = (decide (c = 32) || isM c) := by
  have h : ∀ n, n < 256 → isMS (UInt8.ofNat n) = (decide (UInt8.ofNat n = 32) || isM (UInt8.ofNat n)) := by decide +kernel
  have h2 := h c.toNat c.toNat_lt
  rwa [UInt8.ofNat_toNat] at h2
def dL (l : List UInt8) : List UInt8 := l.dropWhile (c7.contains ·)
def dR (l : List UInt8) : List UInt8 := (l.reverse.dropWhile (c7.contains ·)).reverse
theorem dL_hit (x : UInt8) (l : List UInt8) (h : isMS x = true) : dL (x :: l) = dL l := by unfold dL; rw [List.dropWhile_cons, if_pos (show c7.contains x = true from h)]
theorem dL_miss (x : UInt8) (l : List UInt8) (h : isMS x = false) : dL (x :: l) = x :: l := by unfold dL; rw [List.dropWhile_cons, if_neg (show ¬ c7.contains x = true from by rw [show c7.contains x = false from h]; decide)]
theorem dR_hit (x : UInt8) (l : List UInt8) (h : isMS x = true) : dR (l ++ [x]) = dR l := by
  unfold dR; rw [show (l ++ [x]).reverse = x :: l.reverse by simp, List.dropWhile_cons, if_pos (show c7.contains x = true from h)]
theorem dR_miss (x : UInt8) (l : List UInt8) (h : isMS x = false) : dR (l ++ [x]) = l ++ [x] := by
  unfold dR; rw [show (l ++ [x]).reverse = x :: l.reverse by simp, List.dropWhile_cons, if_neg (show ¬ c7.contains x = true from by rw [show c7.contains x = false from h]; decide)]; simp
theorem dR_cons (c : UInt8) (l : List UInt8) : dR (c :: l) = if dR l = [] ∧ isMS c = true then [] else c :: dR l := by
  induction l using snocInd with
  | h0 =>
    cases h : isMS c with
    | true => rw [if_pos ⟨rfl, rfl⟩]; exact dR_hit c [] h
    | false => rw [if_neg (by rintro ⟨-, e⟩; cases e)]; exact dR_miss c [] h
  | h1 l x ih =>
    cases h : isMS x with
    | true =>
      have e1 : dR (c :: (l ++ [x])) = dR (c :: l) := dR_hit x (c :: l) h
      rw [e1, dR_hit x l h, ih]
    | false =>
      have e1 : dR (c :: (l ++ [x])) = c :: (l ++ [x]) := dR_miss x (c :: l) h
      rw [e1, dR_miss x l h, if_neg (by simp)]
theorem d_comm (l : List UInt8) : dR (dL l) = dL (dR l) := by
  induction l with
  | nil => rfl
  | cons c l ih =>
    cases h : isMS c with
    | true =>
      rw [dL_hit c l h, ih, dR_cons, h]
      by_cases h2 : dR l = []
      · rw [if_pos ⟨h2, rfl⟩, h2]
      · rw [if_neg (fun e => h2 e.1), dL_hit c _ h]
    | false =>
      rw [dL_miss c l h, dR_cons, if_neg (by rw [h]; rintro ⟨-, e⟩; cases e), dL_miss c _ h]
theorem trimS_d (l : List UInt8) : Lib.trimS l c7 = dR (dL l) := by rw [d_comm]; rfl
/-- the stripped text -/
def stB (s : ByteArray) : ByteArray := ba (dR (dL s.data.toList))
theorem trimSet (s : ByteArray) (w : World) (hs : s.size ≤ 1048576) :
    Calls Tryd.prog 16 #[.string s, .string ⟨#[46, 44, 59, 58, 33, 63, 32]⟩] w fun e w' => e = .returned (.string (stB s)) ∧ Below w.heap.size w w' := by
  by_cases h0 : 0 < s.size
  · have hz : (Tryd.prog.info? 46).map (fun i => (i.zero, i.size)) = some (some (.agg (Array.replicate 256 (.bool false))), 256) := by kernel_rfl
    have h := Any.strings_Trim_set Tryd.lays160 (zero_of_info hz).1 (by kernel_rfl) s ⟨#[46, 44, 59, 58, 33, 63, 32]⟩ w (by decide) h0 (by omega) (by decide) (fun j b hj => by
      have h1 : ∀ b ∈ c7, b.toNat < 128 := by decide
      exact h1 b (List.mem_of_getElem? (l := c7) hj))
    refine Calls.mono (show Calls Tryd.prog 16 _ _ _ from h) ?_
    rintro e w' ⟨rfl, q, rfl⟩
    refine ⟨?_, below_drewN (((Below.refl _ w).alloc (Nat.le_refl _) _).alloc (by simp) _) q⟩
    show Ending.returned (Value.string (ba (Lib.trimS s.data.toList c7))) = _
    rw [trimS_d]; rfl
  · obtain rfl := Kt.nil_str h0
    have hE : stB ⟨#[]⟩ = ⟨#[]⟩ := rfl
    rw [hE]
    clear h0 hs
    go_enter Tryd.func16, Tryd.ntmps16
    go_wp2_with fail
    go_ret
    exact ⟨rfl, Below.refl _ _⟩
/-- what StripMarks answers -/
def stV (s : ByteArray) : Value := if okX s.data.toList = true then .tuple #[.string (stB s), .bool true] else .tuple #[.string ⟨#[]⟩, .bool false]
theorem stV_form (s : ByteArray) : ∃ t r, stV s = .tuple #[.string t, .bool r] := by unfold stV; split <;> exact ⟨_, _, rfl⟩
set_option maxHeartbeats 2000000 in
theorem strips_i (s : ByteArray) (w : World) (hs : s.size ≤ 1048576) :
    Calls Tryd.prog 9 #[.string s] w fun e w' => e = .returned (stV s) ∧ Below w.heap.size w w' := by
  have HA := Lib.hid (fun r h w => isPart_i s r w hs h)
  have HT := Lib.hid (fun w => trimSet s w hs)
  cases h1 : okX s.data.toList with
  | false =>
    have HE : Hid (stV s = .tuple #[.string ⟨#[]⟩, .bool false]) := Lib.hid (by unfold stV; rw [if_neg (by simp [h1])])
    have HA' := Lib.hid (HA.out false h1)
    clear h1 HA
    go_enter Tryd.func9, Tryd.ntmps9
    go_wp2_with fail
    refine (HA'.out _).mono ?_
    rintro e w' ⟨rfl, rfl⟩
    go_wp2_with fail
    go_ret2
    exact ⟨by rw [HE.out]; rfl, Below.refl _ _⟩
  | true =>
    have HE : Hid (stV s = .tuple #[.string (stB s), .bool true]) := Lib.hid (by unfold stV; rw [if_pos h1])
    have HA' := Lib.hid (HA.out true h1)
    clear h1 HA
    generalize stB s = T at *
    go_enter Tryd.func9, Tryd.ntmps9
    go_wp2_with fail
    refine (HA'.out _).mono ?_
    rintro e w' ⟨rfl, rfl⟩
    go_wp2_with fail
    refine (HT.out _).mono ?_
    rintro e w1 ⟨rfl, b1⟩
    go_wp2_with fail
    go_ret2
    exact ⟨by rw [HE.out]; rfl, b1⟩
theorem ext_k2 (t : ByteArray) (k : Nat) (h1 : t.size = k + 1) (hk : k < t.size) : t.data.toList = (t.extract 0 k).data.toList ++ [t[k]] := by
  rw [extract_list, toList_ba, List.drop_zero, ← take_snoc t k hk, take_all t _ (by omega)]
theorem ext_02 (t : ByteArray) (h : 0 < t.size) : t.data.toList = t[0] :: (t.extract 1 t.size).data.toList := by
  have e := drop_cons t 0 h
  rw [List.drop_zero] at e
  rw [extract_list, toList_ba, take_all t _ (Nat.le_refl _)]
  exact e
theorem ext_size2 (t : ByteArray) (k : Nat) (h : k ≤ t.size) : (t.extract 0 k).size = k := by rw [extract_list, ba_size, List.drop_zero, Pl.take_len t k h]
theorem ext1_size2 (t : ByteArray) : (t.extract 1 t.size).size = t.size - 1 := by rw [extract_list, ba_size, take_all t _ (Nat.le_refl _), List.length_drop, len_size]
end Go.Proofs.YtknilobmiandgaaDoor.Mq
