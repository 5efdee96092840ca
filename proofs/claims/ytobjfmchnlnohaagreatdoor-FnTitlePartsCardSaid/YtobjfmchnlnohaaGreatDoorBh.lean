/-
  Contract of hasBrace at any bytes: strings.ContainsAny of "{}" over a text that need not be ASCII.
-/
import Derived.Test.YtobjfmchnlnohaaGreatDoorBr
import Derived.Test.YtobjfmchnlnohaaGreatDoorShelf
import Derived.Laws.Runes
import Derived.WalkMore
import Derived.Outline
import Derived.Laws.RangeAny
import Derived.Lib.OthersKept
import Derived.Lib.IndexMore
import Derived.Deep.RegionHeld3
import Derived.Shelf.Strings.IndexAnyAll
namespace Go.Proofs.YtobjfmchnlnohaaGreatDoor.Bh
open Go.RowKit Pl NmPl TiPl Br
set_option linter.unusedVariables false
set_option linter.unusedSimpArgs false

/-- what a rune's bytes behind its first are -/
theorem decode_cont (s : ByteArray) (pos k : Nat) (h0 : 0 < k) (hk : k < (Utf8.decode s pos).2) : pos + k < s.size ∧ 128 ≤ (s.get! (pos + k)).toNat := by
  have hc : ∀ j, (decide (pos + j < s.size) && (s.get! (pos + j)).toNat / 64 == 2) = true → pos + j < s.size ∧ 128 ≤ (s.get! (pos + j)).toNat := by
    intro j h
    simp only [Bool.and_eq_true, decide_eq_true_eq, beq_iff_eq] at h
    exact ⟨h.1, by omega⟩
  simp only [Utf8.decode] at hk
  split at hk
  · exact absurd hk (by show ¬ k < 1; omega)
  · split at hk
    · rename_i h2
      simp only [Bool.and_eq_true] at h2
      split at hk
      · obtain rfl : k = 1 := by have : k < 2 := hk; omega
        exact hc 1 (by simpa using h2.2)
      · exact absurd hk (by show ¬ k < 1; omega)
    · split at hk
      · rename_i h2
        simp only [Bool.and_eq_true] at h2
        split at hk
        · rcases (show k = 1 ∨ k = 2 by have : k < 3 := hk; omega) with rfl | rfl
          · exact hc 1 (by simpa using h2.1.2)
          · exact hc 2 (by simpa using h2.2)
        · exact absurd hk (by show ¬ k < 1; omega)
      · split at hk
        · rename_i h2
          simp only [Bool.and_eq_true] at h2
          split at hk
          · rcases (show k = 1 ∨ k = 2 ∨ k = 3 by have : k < 4 := hk; omega) with rfl | rfl | rfl
            · exact hc 1 (by simpa using h2.1.1.2)
            · exact hc 2 (by simpa using h2.1.2)
            · exact hc 3 (by simpa using h2.2)
          · exact absurd hk (by show ¬ k < 1; omega)
        · exact absurd hk (by show ¬ k < 1; omega)
theorem get_bang (s : ByteArray) (i : Nat) (h : i < s.size) : s.get! i = s[i] := by
  have := Go.get_at s i h
  rwa [Nat.add_zero] at this
theorem brc_high {c : UInt8} (h : 128 ≤ c.toNat) : brc c = false := by
  unfold brc
  rw [decide_eq_false (by omega), decide_eq_false (by omega)]; rfl
theorem take_high (s : ByteArray) (i d : Nat) (hn : (s.data.toList.take i).any brc = false) (h : ∀ k, k < d → i + k < s.size ∧ ∀ hk : i + k < s.size, 128 ≤ (s[i + k]'hk).toNat) : (s.data.toList.take (i + d)).any brc = false := by
  induction d with
  | zero => exact hn
  | succ d ih =>
    have hd := h d (by omega)
    have ih' := ih (fun k hk => h k (by omega))
    show (s.data.toList.take (i + d + 1)).any brc = false
    rw [take_snoc s (i + d) hd.1, List.any_append, ih']
    simp [brc_high (hd.2 hd.1)]

def bb : ByteArray := ⟨#[123, 125]⟩
theorem bb_at (i : Nat) (h : i < bb.size) : (bb[i]'h).toNat < 128 ∧ (bb[i]'h).toNat ≠ 65533 := by
  have : i = 0 ∨ i = 1 := by have : i < 2 := h; omega
  rcases this with rfl | rfl
  · show (123 : UInt8).toNat < 128 ∧ (123 : UInt8).toNat ≠ 65533
    decide
  · show (125 : UInt8).toNat < 128 ∧ (125 : UInt8).toNat ≠ 65533
    decide

set_option maxRecDepth 100000 in
set_option maxHeartbeats 2000000 in
theorem runeErr (w : World) :
    Calls Tryz.prog 87 #[.string bb, .int .i32 65533] w fun e w' => e = .returned (.int .i64 (-1)) ∧ Below w.heap.size w w' := by
  have HAt := Lib.hid bb_at
  generalize bb = b at *
  go_enter Tryz.func87, Tryz.ntmps87
  go_wp2_with fail
  go_loopg [5, 6] b.size (fun g _ _ wx => ∃ i : Nat, i + g = b.size ∧ wx = w.iter b i)
  case atStart => exact ⟨0, by omega, rfl⟩
  case round =>
    obtain ⟨i, hig, rfl⟩ := hrel
    cases gk with
    | zero =>
      obtain rfl : i = b.size := by omega
      have hnx := run_next_end (P := Tryz.prog) w b b.size
      go_wp2_with fail
      go_ret
      exact ⟨rfl, (Below.refl _ w).alloc (Nat.le_refl _) _⟩
    | succ g =>
      have hi : i < b.size := by omega
      obtain ⟨hx1, hx2⟩ := HAt.out i hi
      have hnx := fun ty => run_next_ascii (P := Tryz.prog) w b i ty hi hx1
      generalize (b[i]'hi).toNat = x at *
      have hne : ((x : Int) == 65533) = false := beq_eq_false_iff_ne.2 (by omega)
      go_wp2_with fail
      go_roundg g
      case measure => omega
      case rel => exact ⟨i + 1, by omega, rfl⟩

theorem valid_eq (r : Int) (h : Lib.validRune r = true) : Utf8.valid r = true := by
  have := of_decide_eq_true h
  unfold Utf8.valid
  rcases this with ⟨h1, h2⟩ | ⟨h1, h2⟩
  · simp [h1, h2]
  · have h3 : (0xE000 : Int) ≤ r := by omega
    simp [h3, h2]
theorem ib_nil (c : UInt8) : Lib.indexByte [] c = -1 := rfl
theorem ext_end (s : ByteArray) : (s.extract s.size s.size).data.toList = [] := by
  have : (s.extract s.size s.size).size = 0 := by rw [ByteArray.size_extract]; omega
  exact List.eq_nil_of_length_eq_zero (by rw [len_size]; exact this)

theorem bb_one (h : 1 < bb.size) : (bb[1]'h).toNat = 125 := rfl
theorem bb_end (m : Nat) : (bb.extract 2 m).data.toList = [] := by
  have : (bb.extract 2 m).size = 0 := by rw [ByteArray.size_extract]; have : bb.size = 2 := rfl; omega
  exact List.eq_nil_of_length_eq_zero (by rw [len_size]; exact this)
theorem ib_end (t : ByteArray) (c : Int) (w : World) (h : t.data.toList = []) : Calls Tryz.prog 99 #[.string t, .int .u8 c] w fun e w' => e = .returned (.int .i64 (-1)) ∧ w = w' := by
  refine (Tryz.strings_IndexByte t c w).mono ?_
  rintro e w' ⟨rfl, rfl⟩
  rw [h, ib_nil]
  exact ⟨rfl, rfl⟩
set_option maxRecDepth 100000 in
set_option maxHeartbeats 2000000 in
theorem runeHigh (r : Int) (w : World) (h0 : 128 ≤ r) (h1 : r ≤ 2147483647) :
    Calls Tryz.prog 87 #[.string bb, .int .i32 r] w fun e w' => e = .returned (.int .i64 (-1)) ∧ Below w.heap.size w w' := by
  have HB1 := Lib.hid bb_one
  have HEnd := Lib.hid bb_end
  have hbs : bb.size = 2 := rfl
  have HErr := Lib.hid runeErr
  generalize bb = b at *
  by_cases hre : r = 65533
  · subst hre; exact HErr.out w
  · have hre' : (r == 65533) = false := beq_eq_false_iff_ne.2 hre
    have hz : (0 : Int) ≤ r := by omega
    have hnl : ¬ (r < 128) := by omega
    have HV := Lib.hid (fun w => Tryz.utf8_ValidRune r w)
    cases hv : Lib.validRune r with
    | false =>
      rw [hv] at HV
      clear hv
      go_enter Tryz.func87, Tryz.ntmps87
      go_wp2_with fail
      refine (HV.out _).mono ?_
      rintro e w' ⟨rfl, rfl⟩
      go_wp2_with fail
      go_ret
      exact ⟨rfl, Below.refl _ _⟩
    | true =>
      rw [hv] at HV
      obtain ⟨hx2, hx4, hlast⟩ := encode_facts r (valid_eq r hv) h0
      have hcv := fun w => run_convert_int_string (P := Tryz.prog) w 21 9 .i32 r (by rw [Tryz.underlying21]; rfl) Tryz.underlying9
      clear hv
      generalize Utf8.encode r = x at *
      have hlt : x.size - 1 < x.size := by omega
      have hl := hlast hlt
      have hw1 : IntKind.i64.wrap ((x.size : Int) - 1) = ((x.size - 1 : Nat) : Int) := by rw [IntWalk.i64_in _ (by omega)]; omega
      go_enter Tryz.func87, Tryz.ntmps87
      go_wp2_with fail
      refine (HV.out _).mono ?_
      rintro e w' ⟨rfl, rfl⟩
      go_wp2_with fail
      have hc1 := hcv w'
      clear hcv HV
      go_step3
      go_wp2_with fail
      go_loop [9] (fun i => i = .int .i64 ((x.size - 1 : Nat) : Int)) (fun _ => 0)
      case atStart => rfl
      case round =>
        obtain rfl := hrel
        by_cases h3 : 2 ≤ x.size - 1
        · have hge : ¬ (((x.size - 1 : Nat) : Int) < 2) := by omega
          have hge' : ¬ (x.size - 1 < 2) := by omega
          go_wp2_with fail
          go_ret
          exact ⟨rfl, Below.refl _ _⟩
        · have h2 : x.size - 1 = 1 := by omega
          have hb2 : 1 < b.size := by rw [hbs]; decide
          have hb1 := HB1.out hb2
          have h1x : 1 < x.size := by omega
          have hl1 : 128 ≤ (x[1]'h1x).toNat := by
            have := hlast hlt
            simp only [h2] at this
            exact this
          have hne : ((125 : Int) == ((x[1]'h1x).toNat : Int)) = false := beq_eq_false_iff_ne.2 (by omega)
          clear hl hlast hlt hw1
          rw [h2]
          have hi1 : (1 : Int) < (x.size : Int) := by omega
          have HS2 : Hid (x.size = 2) := Lib.hid (by omega)
          clear h2 h3 hx2 hx4
          have HIB := Lib.hid (fun c w => ib_end ByteArray.empty c w rfl)
          go_wp2_with fail
          go_step3
          go_wp2_with fail
          go_quiet (fail)
          go_wp2_with fail
          have hsl1 : (0 : Int) ≤ 1 + 1 := by decide
          have hsl2 : (1 : Int) + 1 ≤ 2 := by decide
          have hsl3 : ((1 : Int) + 1).toNat = 2 := rfl
          go_region_with (go_at_call 99; with_reducible refine (HIB.out _ _).mono ?_; rintro e w7 ⟨rfl, rfl⟩)
          all_goals go_wp2_with fail
          all_goals simp +zetaDelta only [go_sem]
          all_goals go_ret
          all_goals exact ⟨rfl, ⟨rfl, rfl, rfl, Nat.le_refl _, fun _ _ => rfl⟩⟩

theorem ib_brc (c : UInt8) : decide (0 ≤ Lib.indexByte [123, 125] c) = brc c := by
  have e : ∀ a : UInt8, (a == c) = decide (c.toNat = a.toNat) := fun a => by
    rw [Bool.eq_iff_iff, beq_iff_eq, decide_eq_true_eq]
    exact ⟨fun h => by rw [h], fun h => UInt8.toNat_inj.1 h.symm⟩
  have := Lib.contains_iff_indexByte [123, 125] c
  rw [← this]
  unfold brc
  simp only [List.contains, List.elem, Bool.or_false]
  rw [show (c == 123) = decide (c.toNat = 123) from beqN c 123 (by decide), show (c == 125) = decide (c.toNat = 125) from beqN c 125 (by decide)]
  cases decide (c.toNat = 123) <;> cases decide (c.toNat = 125) <;> rfl
theorem runeLow (c : UInt8) (w : World) (h : c.toNat < 128) (r : Bool) (hr : brc c = r) :
    Calls Tryz.prog 87 #[.string bb, .int .i32 (c.toNat : Int)] w fun e w' => ∃ z : Int, e = .returned (.int .i64 z) ∧ decide (0 ≤ z) = r ∧ Below w.heap.size w w' := by
  refine (Tryz.strings_IndexRune_ascii bb (c.toNat : Int) w (by omega) (by omega)).mono ?_
  rintro e w' ⟨rfl, rfl⟩
  have hback : ((c.toNat : Int)).toNat.toUInt8 = c := by simp
  refine ⟨_, rfl, ?_, Below.refl _ _⟩
  rw [hback, ← hr]
  exact ib_brc c
theorem brB_hit (s : ByteArray) (i : Nat) (h : i < s.size) (hb : brc (s[i]'h) = true) : brB s.data.toList = true := by
  unfold brB
  rw [List.any_eq_true]
  exact ⟨_, List.getElem_mem (by rw [len_size]; exact h), hb⟩
theorem brB_none (s : ByteArray) (i : Nat) (h : s.size ≤ i) (hn : (s.data.toList.take i).any brc = false) : brB s.data.toList = false := by
  rwa [List.take_of_length_le (by rw [len_size]; exact h)] at hn
theorem bb_emp : bb.toList.isEmpty = false := by rw [Lib.toList_data]; rfl

set_option maxRecDepth 100000 in
set_option maxHeartbeats 4000000 in
theorem anyShort (s : ByteArray) (r : Bool) (w : World) (h8 : s.size ≤ 8) (hr : brB s.data.toList = r) :
    Calls Tryz.prog 71 #[.string s, .string bb] w fun e w' => ∃ z : Int, e = .returned (.int .i64 z) ∧ decide (0 ≤ z) = r ∧ Below w.heap.size w w' := by
  have HHi := Lib.hid runeHigh
  have HLo := Lib.hid runeLow
  have hbs : bb.size = 2 := rfl
  have hemp := bb_emp
  generalize bb = b at *
  have h8z : decide ((8 : Int) < (s.size : Int)) = false := decide_eq_false (by omega)
  have HU := Lib.hid (fun w => Tryz.strings_shouldUseASCIISet (s.size : Int) w)
  have HR := Lib.hid hr
  clear hr
  go_enter Tryz.func71, Tryz.ntmps71
  go_wp2_with fail
  refine (HU.out _).mono ?_
  rintro e w0 ⟨rfl, hw0⟩
  obtain rfl := hw0.symm
  rw [h8z]
  go_wp2_with fail
  go_loopg [9, 10] s.size (fun g _ _ wx => ∃ i : Nat, s.size ≤ i + g ∧ wx.heap[w.heap.size]? = some (.stringIter s i) ∧ Below w.heap.size w wx ∧ Hid ((s.data.toList.take i).any brc = false))
  case atStart => exact ⟨0, by omega, World.iter_heap _ _ _, (Below.refl _ _).alloc (Nat.le_refl _) _, Lib.hid rfl⟩
  case round =>
    obtain ⟨i, hig, hit, hbe, HN⟩ := hrel
    by_cases hi : i < s.size
    · have hc := get_bang s i hi
      have hnx := fun ty => Lib.run_next_any_at (P := Tryz.prog) wr w.heap.size s i ty hit hi
      have hz := Lib.iterAt_heap wr w.heap.size s i (i + (Utf8.decode s i).2) hit
      have hbz := Lib.below_iterAt hbe (Nat.le_refl w.heap.size) s (i + (Utf8.decode s i).2)
      have hsz := Lib.iterAt_size wr w.heap.size s (i + (Utf8.decode s i).2)
      have hcl := (s[i]'hi).toNat_lt
      by_cases h128 : (s[i]'hi).toNat < 128
      · have hd : Utf8.decode s i = ((s[i]'hi).toNat, 1) := decode_ascii s i hi h128
        rw [hd] at hnx hz hbz hsz
        clear hd
        have HL := Lib.hid (fun w r hr => HLo.out (s[i]'hi) w h128 r hr)
        cases hb : brc (s[i]'hi) with
        | true =>
          have HL' := Lib.hid (fun w => HL.out w true hb)
          have HF : Hid (decide ((0 : Int) ≤ (i : Int)) = r) := Lib.hid (by rw [← HR.out, brB_hit s i hi hb]; simp)
          clear HL hb HLo HHi
          generalize wr.iterAt w.heap.size s (i + 1) = wy at *
          generalize (s[i]'hi).toNat = c at *
          go_wp2_with fail
          refine (HL'.out _).mono ?_
          rintro e w1 ⟨z, rfl, hz0, b1⟩
          have hz1 := of_decide_eq_true hz0
          have hz2 : ¬ (z < 0) := by omega
          go_wp2_with fail
          go_ret
          exact ⟨_, rfl, HF.out, hbz.trans (b1.mono hbz.size)⟩
        | false =>
          have HL' := Lib.hid (fun w => HL.out w false hb)
          have HT : Hid ((s.data.toList.take (i + 1)).any brc = false) := Lib.hid (by rw [take_snoc s i hi, List.any_append, HN.out]; simp [hb])
          clear HL hb HLo HHi
          generalize wr.iterAt w.heap.size s (i + 1) = wy at *
          generalize (s[i]'hi).toNat = c at *
          go_wp2_with fail
          refine (HL'.out _).mono ?_
          rintro e w1 ⟨z, rfl, hz0, b1⟩
          have hz1 := of_decide_eq_false hz0
          have hz2 : z < 0 := by omega
          go_wp2_with fail
          go_roundg (gk - 1)
          case measure => omega
          case rel => exact ⟨i + 1, by omega, (b1.block _ (by have := hbz.size; have := (Array.getElem?_eq_some_iff.1 hz).1; omega)).trans hz, hbz.trans (b1.mono hbz.size), HT⟩
      · obtain ⟨hd1, hd2⟩ := decode_high s i hi (by omega)
        have hd3 := decode_le s i
        have HT : Hid ((s.data.toList.take (i + (Utf8.decode s i).2)).any brc = false) := Lib.hid (take_high s i _ HN.out (fun k hk => by
          rcases Nat.eq_zero_or_pos k with rfl | hk0
          · exact ⟨hi, fun _ => by show 128 ≤ (s[i]'hi).toNat; omega⟩
          · obtain ⟨h1, h2⟩ := decode_cont s i k hk0 hk
            exact ⟨h1, fun hk' => by rw [← get_bang s (i + k) hk']; exact h2⟩))
        generalize (Utf8.decode s i).2 = d at *
        generalize (Utf8.decode s i).1 = x at *
        have HL' := Lib.hid (fun w => HHi.out (x : Int) w (by omega) (by omega))
        clear HHi HLo hc
        generalize wr.iterAt w.heap.size s (i + d) = wy at *
        go_wp2_with fail
        refine (HL'.out _).mono ?_
        rintro e w1 ⟨rfl, b1⟩
        go_wp2_with fail
        go_roundg (gk - 1)
        case measure => omega
        case rel => exact ⟨i + d, by omega, (b1.block _ (by have := hbz.size; have := (Array.getElem?_eq_some_iff.1 hz).1; omega)).trans hz, hbz.trans (b1.mono hbz.size), HT⟩
    · have hnx := fun ty => Lib.run_next_end_at (P := Tryz.prog) wr w.heap.size s i ty hit hi
      have HF : Hid (decide ((0 : Int) ≤ -1) = r) := Lib.hid (by rw [← HR.out, brB_none s i (by omega) HN.out]; rfl)
      go_wp2_with fail
      go_ret
      exact ⟨_, rfl, HF.out, hbe⟩

/-- hasBrace at any bytes -/
theorem brace_all (s : ByteArray) (r : Bool) (w : World) (hs : s.size ≤ 1048576) (hr : brB s.data.toList = r) :
    Calls Tryz.prog 34 #[.string s] w fun e w' => e = .returned (.bool r) ∧ Below w.heap.size w w' := by
  have HA : Hid (∀ w, Calls Tryz.prog 71 #[.string s, .string bb] w fun e w' => ∃ z : Int, e = .returned (.int .i64 z) ∧ decide (0 ≤ z) = r ∧ Below w.heap.size w w') := Lib.hid (fun w => by
    by_cases h8 : s.size ≤ 8
    · exact anyShort s r w h8 hr
    · have hz : (Tryz.prog.info? 100).map (fun i => (i.zero, i.size)) = some (some (.agg (Array.replicate 256 (.bool false))), 256) := by kernel_rfl
      refine (Tryz.strings_IndexAny_long (zero_of_info hz).1 s bb w (Nat.le_refl _) (by omega) (by omega) (by decide) (fun j b hj => by
        match j, hj with
        | 0, hj => simp [bb] at hj; subst hj; decide
        | 1, hj => simp [bb] at hj; subst hj; decide)).mono ?_
      rintro e w' ⟨rfl, rfl⟩
      have e : bb.data.toList = [123, 125] := rfl
      refine ⟨_, rfl, ?_, ((Below.refl _ w).alloc (Nat.le_refl _) _).alloc (by simp) _⟩
      rw [e, ← hr, ← any_brB]
      rfl)
  clear hr
  go_enter Tryz.func34, Tryz.ntmps34
  go_wp2_with fail
  have HC : Hid (∀ w, Calls Tryz.prog 54 #[.string s, .string bb] w fun e w' => e = .returned (.bool r) ∧ Below w.heap.size w w') := Lib.hid (fun w => by
    go_enter Tryz.func54, Tryz.ntmps54
    go_wp2_with fail
    refine (HA.out _).mono ?_
    rintro e w1 ⟨z, rfl, hz0, b1⟩
    cases r with
    | true =>
      have hz1 := of_decide_eq_true hz0
      go_wp2_with fail
      go_ret
      exact ⟨rfl, b1⟩
    | false =>
      have hz1 := of_decide_eq_false hz0
      go_wp2_with fail
      go_ret
      exact ⟨rfl, b1⟩)
  refine (HC.out _).mono ?_
  rintro e w1 ⟨rfl, b1⟩
  go_wp2_with fail
  go_ret
  exact ⟨rfl, b1⟩
end Go.Proofs.YtobjfmchnlnohaaGreatDoor.Bh
