/-
  Drawing functions of chapter 12: a text with marks; DrawPairMarks, DrawQuoteText, DrawUnquoteText.
-/
import Derived.Test.YtljbbmefemfjpaaCurOf
import Derived.Test.YtljbbmefemfjpaaDraw0
import Derived.Test.YtljbbmefemfjpaaDwS
import Derived.Test.YtljbbmefemfjpaaCur
import Derived.Test.YtljbbmefemfjpaaQtZ
import Derived.IntWalk
import Derived.Lib.TrimByte
namespace Go.Proofs.Ytljbbmefemfjpaa.QtDr
open Go.RowKit Pl Cur Draw0
open Dw (LeftC.trans LeftC.drew spoilt_any)
set_option linter.unusedVariables false
set_option linter.unusedSimpArgs false

def OneStr (m : Nat) (w : World) (e : Ending) (w' : World) : Prop := ∃ x : ByteArray, x.size ≤ m ∧ e = .returned (.string x) ∧ Below w.heap.size w w'
theorem rBig_any (A : Option Addr) (n c : Nat) (w : World) (r : Bool) (hr : decide (65536 < (n : Int)) = r) : Calls Try.prog 4 #[.slice A n c] w fun e w' => e = .returned (.bool r) ∧ w = w' := by
  subst hr
  go_enter Try.func4, Try.ntmps4
  go_wp2
  go_ret
  exact ⟨rfl, rfl⟩
theorem LeftC.mono {w w1 : World} {g n c k m m1 : Nat} {A : Option Addr} (h : LeftC w g A n c k m w1) (hm : m ≤ m1) : LeftC w g A n c k m1 w1 := by
  obtain ⟨⟨k', s', hk', hc'⟩, hg2⟩ := h
  exact ⟨⟨k', s', by omega, hc'⟩, hg2⟩
def texts : List ByteArray := [⟨#[34]⟩, ⟨#[39]⟩, ⟨#[97]⟩, ⟨#[32]⟩, ⟨#[100, 111, 110, 39, 116]⟩, ⟨#[34, 98, 34]⟩, ⟨#[39, 99, 39]⟩, ⟨#[120, 32, 121]⟩, ⟨#[39]⟩, ⟨#[34]⟩]
set_option maxRecDepth 100000 in
set_option maxHeartbeats 4000000 in
theorem quoted_any (g : Nat) (A : Option Addr) (n c k : Nat) (s : Int) (w : World) (hk : k ≤ 1040000) (hn : n ≤ 1048576) (hcur : IsCur w g A n c k s) (hr : RdB w A n) (ha : Apart A n g) :
    Calls Try.prog 35 #[.pointer (some ⟨g, 0, none⟩)] w (SomeStr (fun x => x.size ≤ 201) w g A n c k 480) := by
  have HR := Lib.hid hr
  have HA := Lib.hid ha
  clear hr ha
  go_enter Try.func35, Try.ntmps35
  go_wp2_with fail
  refine (pick_any 9 (by omega) (by omega) g A n c k s _ (by omega) hn hcur HR.out HA.out).mono ?_
  rintro e w1 ⟨r, rfl, hr0, hr1, hl⟩
  obtain ⟨q, rfl⟩ := Int.eq_ofNat_of_zero_le hr0
  have HL1 := Lib.hid hl
  clear hl hr0 hcur
  go_wp2_with fail
  go_loopw [3, 4] (fun v i wr => ∃ (t : ByteArray) (j : Nat), j ≤ 8 ∧ i = .int .i64 j ∧ v = .string t ∧ t.size + 5 * j ≤ 40 ∧ Hid (LeftC w g A n c k (2 + 2 * (8 - j)) wr)) (fun _ i _ => (intOf i).toNat)
  case atStart => exact ⟨⟨#[]⟩, q, by omega, rfl, rfl, by show 0 + 5 * q ≤ 40; omega, Lib.hid (LeftC.mono HL1.out (by omega))⟩
  case round =>
    obtain ⟨t, j, hj, rfl, rfl, hts, HL⟩ := hrel
    obtain ⟨⟨k1, s1, hk1, hc1⟩, hg1⟩ := HL.out
    have HR1 := Lib.hid (HR.out.grown HA.out hg1)
    have HG1 := Lib.hid hg1
    have HC1 := Lib.hid hc1
    clear hg1 hc1 HL1 HL
    by_cases hj0 : 0 < j
    · have hd : decide (0 < j) = true := by simpa using hj0
      obtain ⟨i, hi⟩ : ∃ i, j = i + 1 := ⟨j - 1, by omega⟩
      have hw1 : IntKind.i64.wrap ((j : Int) - 1) = (i : Int) := by rw [IntWalk.i64_in _ (by omega)]; omega
      have HI := Lib.hid hi
      clear hi
      go_wp2_with fail
      refine (of_any (fun x => x.size ≤ 5) _ _ 10 texts (by decide) rfl (by omega) (by omega) g (Nat.ne_of_gt HC1.out.lt) A n c k1 s1 _ (by omega) hn (HC1.out.alloc _) (HR1.out.alloc HA.out HC1.out.lt _) HA.out (Txt.lit (xs := texts) rfl)).mono ?_
      rintro e w2 ⟨x, hx, rfl, hl⟩
      have HL2 := Lib.hid (LeftC.trans hk1 HG1.out hl.alloc)
      have hz : (t ++ x).size = t.size + x.size := ByteArray.size_append
      have HZ := Lib.hid hz
      clear hl hz
      go_wp2_with fail
      go_roundw
      case rel => exact ⟨t ++ x, i, by have := HI.out; omega, by first | rfl | (have := HI.out; go_num), rfl, by rw [HZ.out]; have := HI.out; omega, Lib.hid (LeftC.mono HL2.out (by have := HI.out; omega))⟩
      case measure => simp [intOf]; have := HI.out; omega
    · have hd : decide (0 < j) = false := by simpa using hj0
      have hts30 : t.size ≤ 40 := by omega
      go_wp2_with fail
      refine (pick_any 40 (by omega) (by omega) g A n c k1 s1 _ (by omega) hn HC1.out HR1.out HA.out).mono ?_
      rintro e w2 ⟨r, rfl, hr0, hr1, hl⟩
      have HL2 := Lib.hid (LeftC.trans hk1 HG1.out hl)
      obtain ⟨r, rfl⟩ := Int.eq_ofNat_of_zero_le hr0
      clear hl hr0
      by_cases h0 : r = 0
      · subst h0
        have HZ : Hid ((t ++ (⟨#[10]⟩ : ByteArray)).size ≤ 201) := Lib.hid (by rw [ByteArray.size_append]; show t.size + 1 ≤ 201; omega)
        go_wp2_with fail
        go_ret
        exact ⟨_, HZ.out, rfl, LeftC.mono HL2.out (by omega)⟩
      · have h0' : ((r : Int) == 0) = false := by rw [beq_eq_false_iff_ne]; omega
        by_cases h1 : r = 1
        · subst h1
          clear h0
          go_wp2_with fail
          go_loopw [3] (fun v wr => ∃ t : ByteArray, v = .string t ∧ t.size ≤ 201 ∧ Hid (LeftC w g A n c k (30 + 2 * t.size) wr)) (fun v _ => 201 - Lib.strSize v)
          case atStart => exact ⟨t, rfl, by omega, Lib.hid (LeftC.mono HL2.out (by omega))⟩
          case round =>
            obtain ⟨t, rfl, htz, HL⟩ := hrel
            obtain ⟨⟨k3, s3, hk3, hc3⟩, hg3⟩ := HL.out
            have HR3 := Lib.hid (HR.out.grown HA.out hg3)
            have HC3 := Lib.hid hc3
            have HG3 := Lib.hid hg3
            clear hc3 hg3 HL
            go_wp2_with fail
            refine (pick_any 5 (by omega) (by omega) g A n c k3 s3 _ (by omega) hn HC3.out HR3.out HA.out).mono ?_
            rintro e w4 ⟨r, rfl, hr0, hr1', hl⟩
            have HL4 := Lib.hid (LeftC.trans hk3 HG3.out hl)
            obtain ⟨r, rfl⟩ := Int.eq_ofNat_of_zero_le hr0
            have hw1 : IntKind.i64.wrap ((197 : Int) + (r : Int)) = ((197 + r : Nat) : Int) := by rw [IntWalk.i64_in _ (by omega)]; omega
            have hz : (t ++ (⟨#[113]⟩ : ByteArray)).size = t.size + 1 := ByteArray.size_append
            have HZ := Lib.hid hz
            clear hl hr0 hz
            by_cases hlt : t.size < 197 + r
            · go_wp2_with fail
              go_roundw
              case rel => exact ⟨_, rfl, by rw [HZ.out]; omega, Lib.hid (LeftC.mono HL4.out (by rw [HZ.out]; omega))⟩
              case measure => rw [Lib.strSize_string, Lib.strSize_string, HZ.out]; omega
            · go_wp2_with fail
              go_ret
              exact ⟨t, htz, rfl, LeftC.mono HL4.out (by omega)⟩
        · have h1' : ((r : Int) == 1) = false := by rw [beq_eq_false_iff_ne]; omega
          clear h0 h1
          go_wp2_with fail
          go_ret
          exact ⟨t, by omega, rfl, LeftC.mono HL2.out (by omega)⟩
set_option maxHeartbeats 1000000 in
theorem drawPair_any (A : Option Addr) (n c : Nat) (w : World) (hn : n ≤ 65536) (hr : RdB w A n) (ha : Apart A n w.heap.size) :
    Calls Try.prog 22 #[.slice A n c] w (OneStr 201 w) := by
  have HR := Lib.hid (rdb_new hr ha (.cells #[.slice A n c, .int .i64 0, .int .u64 0] 62))
  have HA := Lib.hid ha
  have HC := Lib.hid (cur_new w A n c)
  clear hr ha
  go_enter Try.func22, Try.ntmps22
  go_wp2_with fail
  refine (quoted_any w.heap.size A n c 0 0 _ (by omega) (by omega) HC.out HR.out HA.out).mono ?_
  rintro e w1 ⟨x, hx, rfl, hl⟩
  have HB := Lib.hid (below_new hl.2)
  clear hl
  go_wp2_with fail
  go_ret
  exact ⟨x, hx, rfl, HB.out⟩
theorem drawQuote_any (A : Option Addr) (n c : Nat) (w : World) (hn : n ≤ 65536) (hr : RdB w A n) (ha : Apart A n w.heap.size) :
    Calls Try.prog 5 #[.slice A n c] w (OneStr 201 w) := by
  have H := Lib.hid (drawPair_any A n c w hn hr ha)
  clear hr ha
  go_enter Try.func5, Try.ntmps5
  go_wp2_with fail
  refine H.out.mono ?_
  rintro e w1 ⟨x, hx, rfl, hb⟩
  go_wp2_with fail
  go_ret
  exact ⟨x, hx, rfl, hb⟩
open QtZ (qtV fail2 quo_size exch_size quoteT_s)
theorem qtV_sz (s : ByteArray) : ∃ (u : ByteArray) (r : Bool), qtV s = .tuple #[.string u, .bool r] ∧ u.size ≤ s.size + 2 := by
  unfold qtV
  split
  · exact ⟨_, _, rfl, by rw [quo_size, exch_size]; exact Nat.le_refl _⟩
  · exact ⟨_, _, rfl, Nat.zero_le _⟩
theorem below_gr {w w' : World} (h : Below w.heap.size w w') (g : Option Nat) : w.grownBy w' g := ⟨h.os, h.tape, h.output, h.size, fun k hk _ => h.block k hk⟩
theorem left_below {w w1 w2 : World} {g n c k m : Nat} {A : Option Addr} (h : LeftC w g A n c k m w1) (hb : Below w1.heap.size w1 w2) : LeftC w g A n c k m w2 := by
  obtain ⟨⟨k1, s1, hk1, hc1⟩, hg1⟩ := h
  exact ⟨⟨k1, s1, hk1, (hb.block g hc1.lt).trans hc1⟩, grown_trans hg1 (below_gr hb _)⟩
set_option maxHeartbeats 2000000 in
theorem drawUnquote_any (A : Option Addr) (n c : Nat) (w : World) (hn : n ≤ 65536) (hr : RdB w A n) (ha : Apart A n w.heap.size) :
    Calls Try.prog 15 #[.slice A n c] w (OneStr 204 w) := by
  have HR := Lib.hid (rdb_new hr ha (.cells #[.slice A n c, .int .i64 0, .int .u64 0] 62))
  have HA := Lib.hid ha
  have HC := Lib.hid (cur_new w A n c)
  clear hr ha
  go_enter Try.func15, Try.ntmps15
  go_wp2_with fail
  refine (quoted_any w.heap.size A n c 0 0 _ (by omega) (by omega) HC.out HR.out HA.out).mono ?_
  rintro e w1 ⟨x, hx, rfl, hl⟩
  obtain ⟨u, r, hq, hu⟩ := qtV_sz x
  have HQ := Lib.hid (quoteT_s x w1 (by omega))
  rw [hq] at HQ
  have HL1 := Lib.hid hl
  clear hl hq
  go_wp2_with fail
  refine HQ.out.mono ?_
  rintro e w2 ⟨rfl, b2⟩
  have HL2 := Lib.hid (left_below HL1.out b2)
  clear b2 HQ
  cases r with
  | false =>
    obtain ⟨⟨k3, s3, hk3, hc3⟩, hg3⟩ := HL2.out
    have HR3 := Lib.hid (HR.out.grown HA.out hg3)
    have HC3 := Lib.hid hc3
    have HG3 := Lib.hid hg3
    clear hc3 hg3
    go_wp2_with fail
    refine (one_any 5 (by omega) (by omega) w.heap.size A n c k3 s3 _ (by omega) (by omega) HC3.out HR3.out HA.out).mono ?_
    rintro e w8 ⟨r8, rfl, hl8⟩
    have HL8 := Lib.hid (LeftC.trans hk3 HG3.out hl8)
    clear hl8
    cases r8 with
    | false =>
      have HB := Lib.hid (below_new HL8.out.2)
      go_wp2_with fail
      go_ret
      exact ⟨x, by omega, rfl, HB.out⟩
    | true =>
      obtain ⟨⟨k9, s9, hk9, hc9⟩, hg9⟩ := HL8.out
      have HR9 := Lib.hid (HR.out.grown HA.out hg9)
      have HC9 := Lib.hid hc9
      have HG9 := Lib.hid hg9
      clear hc9 hg9
      go_wp2_with fail
      refine (spoilt_any x ⟨#[34, 39, 97, 32]⟩ (by omega) (by decide) (by decide) w.heap.size A n c k9 s9 _ (by omega) (by omega) HC9.out HR9.out HA.out).mono ?_
      rintro e w10 ⟨z, hz, rfl, hl10⟩
      have HB := Lib.hid (below_new (grown_trans HG9.out hl10.2))
      clear hl10
      go_wp2_with fail
      go_ret
      exact ⟨z, by omega, rfl, HB.out⟩
  | true =>
    obtain ⟨⟨k2, s2, hk2, hc2⟩, hg2⟩ := HL2.out
    have HR2 := Lib.hid (HR.out.grown HA.out hg2)
    have HC2 := Lib.hid hc2
    have HG2 := Lib.hid hg2
    clear hc2 hg2
    go_wp2_with fail
    refine (one_any 4 (by omega) (by omega) w.heap.size A n c k2 s2 _ (by omega) (by omega) HC2.out HR2.out HA.out).mono ?_
    rintro e w3 ⟨r3, rfl, hl3⟩
    have HL3 := Lib.hid (LeftC.trans hk2 HG2.out hl3)
    clear hl3
    cases r3 with
    | false =>
      obtain ⟨⟨k3, s3, hk3, hc3⟩, hg3⟩ := HL3.out
      have HR3 := Lib.hid (HR.out.grown HA.out hg3)
      have HC3 := Lib.hid hc3
      have HG3 := Lib.hid hg3
      clear hc3 hg3
      go_wp2_with fail
      refine (one_any 5 (by omega) (by omega) w.heap.size A n c k3 s3 _ (by omega) (by omega) HC3.out HR3.out HA.out).mono ?_
      rintro e w8 ⟨r8, rfl, hl8⟩
      have HL8 := Lib.hid (LeftC.trans hk3 HG3.out hl8)
      clear hl8
      cases r8 with
      | false =>
        have HB := Lib.hid (below_new HL8.out.2)
        go_wp2_with fail
        go_ret
        exact ⟨u, by omega, rfl, HB.out⟩
      | true =>
        obtain ⟨⟨k9, s9, hk9, hc9⟩, hg9⟩ := HL8.out
        have HR9 := Lib.hid (HR.out.grown HA.out hg9)
        have HC9 := Lib.hid hc9
        have HG9 := Lib.hid hg9
        clear hc9 hg9
        go_wp2_with fail
        refine (spoilt_any u ⟨#[34, 39, 97, 32]⟩ (by omega) (by decide) (by decide) w.heap.size A n c k9 s9 _ (by omega) (by omega) HC9.out HR9.out HA.out).mono ?_
        rintro e w10 ⟨z, hz, rfl, hl10⟩
        have HB := Lib.hid (below_new (grown_trans HG9.out hl10.2))
        clear hl10
        go_wp2_with fail
        go_ret
        exact ⟨z, by omega, rfl, HB.out⟩
    | true =>
      obtain ⟨⟨k3, s3, hk3, hc3⟩, hg3⟩ := HL3.out
      have HR3 := Lib.hid (HR.out.grown HA.out hg3)
      have HC3 := Lib.hid hc3
      have HG3 := Lib.hid hg3
      clear hc3 hg3
      go_wp2_with fail
      refine (one_any 5 (by omega) (by omega) w.heap.size A n c k3 s3 _ (by omega) (by omega) HC3.out HR3.out HA.out).mono ?_
      rintro e w8 ⟨r8, rfl, hl8⟩
      have HL8 := Lib.hid (LeftC.trans hk3 HG3.out hl8)
      clear hl8
      cases r8 with
      | false =>
        have HB := Lib.hid (below_new HL8.out.2)
        go_wp2_with fail
        go_ret
        exact ⟨x, by omega, rfl, HB.out⟩
      | true =>
        obtain ⟨⟨k9, s9, hk9, hc9⟩, hg9⟩ := HL8.out
        have HR9 := Lib.hid (HR.out.grown HA.out hg9)
        have HC9 := Lib.hid hc9
        have HG9 := Lib.hid hg9
        clear hc9 hg9
        go_wp2_with fail
        refine (spoilt_any x ⟨#[34, 39, 97, 32]⟩ (by omega) (by decide) (by decide) w.heap.size A n c k9 s9 _ (by omega) (by omega) HC9.out HR9.out HA.out).mono ?_
        rintro e w10 ⟨z, hz, rfl, hl10⟩
        have HB := Lib.hid (below_new (grown_trans HG9.out hl10.2))
        clear hl10
        go_wp2_with fail
        go_ret
        exact ⟨z, by omega, rfl, HB.out⟩
end Go.Proofs.Ytljbbmefemfjpaa.QtDr
