/-
  Drawing functions of chapter 11: a text with marks; DrawCleanText.
-/
import Derived.Test.YtnijmhhigkbddaaDoorCurOf
import Derived.Test.YtnijmhhigkbddaaDoorDraw0
import Derived.IntWalk
import Derived.Lib.TrimByte
namespace Go.Proofs.YtnijmhhigkbddaaDoor.Dm
open Go.RowKit Pl Cur Draw0
set_option linter.unusedVariables false
set_option linter.unusedSimpArgs false

theorem LeftC.trans {w w1 w2 : World} {g n c k k1 m m1 : Nat} {A : Option Addr} (hk : k1 ≤ k + m) (hg : w.grownBy w1 (some g)) (h2 : LeftC w1 g A n c k1 m1 w2) : LeftC w g A n c k (m + m1) w2 := by
  obtain ⟨⟨k', s', hk', hc'⟩, hg2⟩ := h2
  exact ⟨⟨k', s', by omega, hc'⟩, grown_trans hg hg2⟩
theorem LeftC.mono {w w1 : World} {g n c k m m1 : Nat} {A : Option Addr} (h : LeftC w g A n c k m w1) (hm : m ≤ m1) : LeftC w g A n c k m1 w1 := by
  obtain ⟨⟨k', s', hk', hc'⟩, hg2⟩ := h
  exact ⟨⟨k', s', by omega, hc'⟩, hg2⟩
def OneStr (m : Nat) (w : World) (e : Ending) (w' : World) : Prop := ∃ x : ByteArray, x.size ≤ m ∧ e = .returned (.string x) ∧ Below w.heap.size w w'
theorem rBig_any (A : Option Addr) (n c : Nat) (w : World) (r : Bool) (hr : decide (65536 < (n : Int)) = r) : Calls Tryd.prog 4 #[.slice A n c] w fun e w' => e = .returned (.bool r) ∧ w = w' := by
  subst hr
  go_enter Tryd.func4, Tryd.ntmps4
  go_wp2
  go_ret
  exact ⟨rfl, rfl⟩
def texts : List ByteArray := [⟨#[83, 109, 105, 116, 104]⟩, ⟨#[74, 46]⟩, ⟨#[44]⟩, ⟨#[46]⟩, ⟨#[32]⟩, ⟨#[32, 32]⟩, ⟨#[63]⟩, ⟨#[33]⟩, ⟨#[58]⟩, ⟨#[59]⟩, ⟨#[34]⟩, ⟨#[34, 97, 34]⟩, ⟨#[98]⟩, ⟨#[34, 46]⟩, ⟨#[34, 44]⟩]
def bad : List ByteArray := [⟨#[9]⟩, ⟨#[127]⟩]
set_option maxRecDepth 100000 in
set_option maxHeartbeats 4000000 in
theorem marked_any (g : Nat) (A : Option Addr) (n c k : Nat) (s : Int) (w : World) (hk : k ≤ 1040000) (hn : n ≤ 1048576) (hcur : IsCur w g A n c k s) (hr : RdB w A n) (ha : Apart A n g) :
    Calls Tryd.prog 17 #[.pointer (some ⟨g, 0, none⟩)] w (SomeStr (fun x => x.size ≤ 61) w g A n c k 200) := by
  have HR := Lib.hid hr
  have HA := Lib.hid ha
  clear hr ha
  go_enter Tryd.func17, Tryd.ntmps17
  go_wp2_with fail
  refine (pick_any 7 (by omega) (by omega) g A n c k s _ (by omega) hn hcur HR.out HA.out).mono ?_
  rintro e w1 ⟨r, rfl, hr0, hr1, hl⟩
  obtain ⟨q, rfl⟩ := Int.eq_ofNat_of_zero_le hr0
  have HL1 := Lib.hid hl
  clear hl hr0 hcur
  go_wp2_with fail
  go_loopw [3, 4] (fun v i wr => ∃ (t : ByteArray) (j : Nat), j ≤ 6 ∧ i = .int .i64 j ∧ v = .string t ∧ t.size + 5 * j ≤ 30 ∧ Hid (LeftC w g A n c k (2 + 2 * (6 - j)) wr)) (fun _ i _ => (intOf i).toNat)
  case atStart => exact ⟨⟨#[]⟩, q, by omega, rfl, rfl, by show 0 + 5 * q ≤ 30; omega, Lib.hid (LeftC.mono HL1.out (by omega))⟩
  case round =>
    obtain ⟨t, j, hj, rfl, rfl, hts, HL⟩ := hrel
    obtain ⟨⟨k1, s1, hk1, hc1⟩, hg1⟩ := HL.out
    have HR1 := Lib.hid (HR.out.grown HA.out hg1)
    have HG1 := Lib.hid hg1
    have HC1 := Lib.hid hc1
    clear hg1 hc1 HL1 HL
    by_cases hj0 : 0 < j
    · have hd : decide (0 < j) = true := by simpa using hj0
      obtain ⟨i, hi⟩ : ∃ i, j = i + 1 := ⟨j - 1, by omega⟩
      have hw1 : IntKind.i64.wrap ((j : Int) - 1) = (i : Int) := by rw [IntWalk.i64_in _ (by omega)]; omega
      have HI := Lib.hid hi
      clear hi
      go_wp2_with fail
      refine (of_any (fun x => x.size ≤ 5) _ _ 15 texts (by decide) rfl (by omega) (by omega) g (Nat.ne_of_gt HC1.out.lt) A n c k1 s1 _ (by omega) hn (HC1.out.alloc _) (HR1.out.alloc HA.out HC1.out.lt _) HA.out (Txt.lit (xs := texts) rfl)).mono ?_
      rintro e w2 ⟨x, hx, rfl, hl⟩
      have HL2 := Lib.hid (LeftC.trans hk1 HG1.out hl.alloc)
      have hz : (t ++ x).size = t.size + x.size := ByteArray.size_append
      have HZ := Lib.hid hz
      clear hl hz
      go_wp2_with fail
      go_roundw
      case rel => exact ⟨t ++ x, i, by have := HI.out; omega, by first | rfl | (have := HI.out; go_num), rfl, by rw [HZ.out]; have := HI.out; omega, Lib.hid (LeftC.mono HL2.out (by have := HI.out; omega))⟩
      case measure => simp [intOf]; have := HI.out; omega
    · have hd : decide (0 < j) = false := by simpa using hj0
      have hts30 : t.size ≤ 30 := by omega
      go_wp2_with fail
      refine (pick_any 40 (by omega) (by omega) g A n c k1 s1 _ (by omega) hn HC1.out HR1.out HA.out).mono ?_
      rintro e w2 ⟨r, rfl, hr0, hr1, hl⟩
      have HL2 := Lib.hid (LeftC.trans hk1 HG1.out hl)
      obtain ⟨r, rfl⟩ := Int.eq_ofNat_of_zero_le hr0
      clear hl hr0
      by_cases h0 : r = 0
      · subst h0
        obtain ⟨⟨k2, s2, hk2, hc2⟩, hg2⟩ := HL2.out
        have HR2 := Lib.hid (HR.out.grown HA.out hg2)
        have HC2 := Lib.hid hc2
        have HG2 := Lib.hid hg2
        clear hc2 hg2
        go_wp2_with fail
        refine (of_any (fun x => x.size ≤ 1) _ _ 2 bad (by decide) rfl (by omega) (by omega) g (Nat.ne_of_gt HC2.out.lt) A n c k2 s2 _ (by omega) hn (HC2.out.alloc _) (HR2.out.alloc HA.out HC2.out.lt _) HA.out (Txt.lit (xs := bad) rfl)).mono ?_
        rintro e w3 ⟨x, hx, rfl, hl⟩
        have HL3 := Lib.hid (LeftC.trans hk2 HG2.out hl.alloc)
        have HZ : Hid ((t ++ x).size ≤ 61) := Lib.hid (by rw [ByteArray.size_append]; omega)
        clear hl
        go_wp2_with fail
        go_ret
        exact ⟨t ++ x, HZ.out, rfl, LeftC.mono HL3.out (by omega)⟩
      · have h0' : ((r : Int) == 0) = false := by rw [beq_eq_false_iff_ne]; omega
        by_cases h1 : r = 1
        · subst h1
          clear h0
          go_wp2_with fail
          go_loopw [3] (fun v wr => ∃ t : ByteArray, v = .string t ∧ t.size ≤ 61 ∧ Hid (LeftC w g A n c k (20 + 2 * t.size) wr)) (fun v _ => 61 - Lib.strSize v)
          case atStart => exact ⟨t, rfl, by omega, Lib.hid (LeftC.mono HL2.out (by omega))⟩
          case round =>
            obtain ⟨t, rfl, htz, HL⟩ := hrel
            obtain ⟨⟨k3, s3, hk3, hc3⟩, hg3⟩ := HL.out
            have HR3 := Lib.hid (HR.out.grown HA.out hg3)
            have HC3 := Lib.hid hc3
            have HG3 := Lib.hid hg3
            clear hc3 hg3 HL
            go_wp2_with fail
            refine (pick_any 2 (by omega) (by omega) g A n c k3 s3 _ (by omega) hn HC3.out HR3.out HA.out).mono ?_
            rintro e w4 ⟨r, rfl, hr0, hr1', hl⟩
            have HL4 := Lib.hid (LeftC.trans hk3 HG3.out hl)
            obtain ⟨r, rfl⟩ := Int.eq_ofNat_of_zero_le hr0
            have hw1 : IntKind.i64.wrap ((60 : Int) + (r : Int)) = ((60 + r : Nat) : Int) := by rw [IntWalk.i64_in _ (by omega)]; omega
            have hz : (t ++ (⟨#[120]⟩ : ByteArray)).size = t.size + 1 := ByteArray.size_append
            have HZ := Lib.hid hz
            clear hl hr0 hz
            by_cases hlt : t.size < 60 + r
            · go_wp2_with fail
              go_roundw
              case rel => exact ⟨_, rfl, by rw [HZ.out]; omega, Lib.hid (LeftC.mono HL4.out (by rw [HZ.out]; omega))⟩
              case measure => rw [Lib.strSize_string, Lib.strSize_string, HZ.out]; omega
            · go_wp2_with fail
              go_ret
              exact ⟨t, htz, rfl, LeftC.mono HL4.out (by omega)⟩
        · have h1' : ((r : Int) == 1) = false := by rw [beq_eq_false_iff_ne]; omega
          clear h0 h1
          go_wp2_with fail
          go_ret
          exact ⟨t, by omega, rfl, LeftC.mono HL2.out (by omega)⟩
end Go.Proofs.YtnijmhhigkbddaaDoor.Dm
