/-
  Contracts of the functions on letters and digits, of foldText, l8Fold and FoldText of both: they return the folded form of a text.
-/
import Derived.Test.YtmopncojgkmkpaaGreatDoorFoPl
import Derived.Test.YtmopncojgkmkpaaGreatDoorLetI
import Derived.Test.YtmopncojgkmkpaaGreatDoorLow
import Derived.Test.YtmopncojgkmkpaaGreatDoorBt
import Derived.Test.YtmopncojgkmkpaaGreatDoorShelf
import Derived.Lib.BufferOld
import Derived.OwnWalk
namespace Go.Proofs.YtmopncojgkmkpaaGreatDoor.Fo
open Go.RowKit Pl NmPl Word FoPl
set_option linter.unusedVariables false
set_option linter.unusedSimpArgs false

theorem row_base {w : World} {b b' : Nat} {e : TypeId} {size : Nat} {v : Value} {n : Nat} {xs : List Value} (h : b' ≤ b) (ho : w.ownsRow b e size v n xs) : w.ownsRow b' e size v n xs := by
  refine ⟨ho.1, ?_⟩
  rcases ho.2 with h' | ⟨g, cap, cur, e1, e2, e3⟩
  · exact .inl h'
  · exact .inr ⟨g, cap, cur, e1, Nat.le_trans h e2, e3⟩
theorem letter_i (c : UInt8) (r : Bool) (w : World) (hr : isLt c = r) :
    Calls Tryz.prog 85 #[.int .u8 c.toNat] w fun e w' => e = .returned (.bool r) ∧ w = w' := by
  have HL : Hid (r = (isUp c || isLo c)) := Lib.hid hr.symm
  clear hr
  have HU := Lib.hid (fun w r h => up_i c r w h)
  have HO := Lib.hid (fun w r h => lo_i c r w h)
  cases hu : isUp c with
  | true =>
    rw [hu] at HL
    have HU' := Lib.hid (HU.out w true hu)
    clear hu HU
    go_enter Tryz.func85, Tryz.ntmps85
    go_wp2_with fail
    refine HU'.out.mono ?_
    rintro e w' ⟨rfl, rfl⟩
    go_wp2_with fail
    go_ret
    exact ⟨by rw [HL.out]; rfl, rfl⟩
  | false =>
    rw [hu] at HL
    have HU' := Lib.hid (HU.out w false hu)
    clear hu HU
    obtain ⟨q, hq⟩ : ∃ q, isLo c = q := ⟨_, rfl⟩
    rw [hq] at HL
    have HO' := Lib.hid (HO.out w q hq)
    clear hq HO
    cases q with
    | true =>
      go_enter Tryz.func85, Tryz.ntmps85
      go_wp2_with fail
      refine HU'.out.mono ?_
      rintro e w' ⟨rfl, rfl⟩
      go_wp2_with fail
      refine HO'.out.mono ?_
      rintro e w' ⟨rfl, rfl⟩
      go_wp2_with fail
      go_ret
      exact ⟨by rw [HL.out]; rfl, rfl⟩
    | false =>
      go_enter Tryz.func85, Tryz.ntmps85
      go_wp2_with fail
      refine HU'.out.mono ?_
      rintro e w' ⟨rfl, rfl⟩
      go_wp2_with fail
      refine HO'.out.mono ?_
      rintro e w' ⟨rfl, rfl⟩
      go_wp2_with fail
      go_ret
      exact ⟨by rw [HL.out]; rfl, rfl⟩
theorem dig_i (c : UInt8) (r : Bool) (w : World) (hr : dg c = r) :
    Calls Tryz.prog 55 #[.int .u8 c.toNat] w fun e w' => e = .returned (.bool r) ∧ w = w' := by
  subst hr
  have HE := Lib.hid (show dg c = decide (48 ≤ c.toNat ∧ c.toNat ≤ 57) from rfl)
  go_enter Tryz.func55, Tryz.ntmps55
  go_wp2
  all_goals
    go_ret
    exact ⟨ret_bool (by rw [HE.out, Bool.eq_iff_iff]; simp; omega), rfl⟩
theorem dig_s (c : UInt8) (r : Bool) (w : World) (hr : dg c = r) :
    Calls Tryz.prog 77 #[.int .u8 c.toNat] w fun e w' => e = .returned (.bool r) ∧ w = w' := by
  subst hr
  have HE := Lib.hid (show dg c = decide (48 ≤ c.toNat ∧ c.toNat ≤ 57) from rfl)
  go_enter Tryz.func77, Tryz.ntmps77
  go_wp2
  all_goals
    go_ret
    exact ⟨ret_bool (by rw [HE.out, Bool.eq_iff_iff]; simp; omega), rfl⟩
theorem lower_asc (x : List UInt8) (h : ∀ c ∈ x, c.toNat < 128) (hl : x.length ≤ 1048576) (w : World) : Calls Tryz.prog 68 #[.string (ba x)] w fun e w' => e = .returned (.string (ba (x.map Lib.lowerB))) ∧ Below w.heap.size w w' := by
  have := Tryz.strings_ToLower_ascii (ba x) w (by rw [ba_size]; omega) (fun j b hj => by
    rw [toList_ba] at hj
    exact h b (List.mem_of_getElem? hj))
  rw [toList_ba] at this
  exact this
theorem bool_eq {a b : Bool} (h : a = b) : Value.bool a = .bool b := by rw [h]
theorem num_sp (c : UInt8) (b : Bool) (h : decide (c.toNat = 32) = b) : ((c.toNat : Int) == 32) = b := by
  subst h
  by_cases hc : c.toNat = 32
  · rw [decide_eq_true hc]; simp [hc]
  · rw [decide_eq_false hc]; simp; omega
set_option maxRecDepth 100000 in
set_option maxHeartbeats 8000000 in
theorem fold_i (s : ByteArray) (w : World) (hs : s.size ≤ 1048576) :
    Calls Tryz.prog 65 #[.string s] w fun e w' => e = .returned (.string (ba (fT s.data.toList))) ∧ Below w.heap.size w w' := by
  have HI0 := Lib.hid (Lib.fresh_isBuffer 86 5 w)
  have HB0 := Lib.hid ((Below.refl _ w).alloc (Nat.le_refl _) (.cells #[.slice none 0 0, .int .i64 0, .int .i8 0] 86))
  have HLo := Lib.hid (fun w => lower_asc (fA kp s.data.toList).2 (fA_asc _) (by have := fA_le kp s.data.toList; rw [len_size] at this; omega) w)
  go_enter Tryz.func65, Tryz.ntmps65
  go_wp2_with fail
  go_loopw [4, 8] (fun vs i wr => ∃ (k : Nat) (g : Bool) (o : List UInt8), k ≤ s.size ∧ i = .int .i64 k ∧ vs = .bool g ∧ Hid (fA kp (s.data.toList.take k) = (g, o)) ∧ o.length ≤ k ∧ Lib.IsBuffer 86 5 w.heap.size w.heap.size (Lib.byteCells o) wr ∧ Below w.heap.size w wr) (fun _ i _ => s.size - (intOf i).toNat)
  case atStart => exact ⟨0, false, [], Nat.zero_le _, rfl, rfl, Lib.hid (by simp [fA]), Nat.le_refl _, HI0.out, HB0.out⟩
  case round =>
    obtain ⟨k, g, o, hk, rfl, rfl, HA, hol, hI, hb⟩ := hrel
    by_cases hlt : k < s.size
    · have HN : Hid (fA kp (s.data.toList.take (k + 1)) = fS kp (g, o) s[k]) := Lib.hid (by rw [take_snoc s k hlt, fA_snoc, HA.out])
      have HL : Hid ((fS kp (g, o) s[k]).2.length ≤ k + 1) := Lib.hid (by rw [← HN.out]; have := fA_le kp (s.data.toList.take (k + 1)); rw [take_len s (k+1) hlt] at this; exact this)
      have hcl := s[k].toNat_lt
      have hbs := hb.size
      cases h1 : isLt s[k] with
      | true =>
        cases g with
        | true =>
          by_cases hop : 0 < o.length
          · have H1 := Lib.hid (fun w => letter_i s[k] true w h1)
            have HN' : Hid (fA kp (s.data.toList.take (k + 1)) = (false, o ++ [32] ++ [s[k]])) := Lib.hid (by rw [HN.out]; simp [fS, kp, h1, gapL, hop])
            have HL' : Hid ((o ++ [32] ++ [s[k]]).length ≤ k + 1) := Lib.hid (by have := HL.out; rw [← HN.out, HN'.out] at this; exact this)
            clear h1 HN HL
            have hdl : decide (0 < (Lib.byteCells o).length) = true := by rw [Lib.byteCells_length]; simpa using hop
            go_wp2_with fail
            refine (H1.out _).mono ?_
            rintro e w' ⟨rfl, rfl⟩
            go_wp2_with fail
            refine (Tryz.Buffer_Len w.heap.size w.heap.size _ _ hI).mono ?_
            rintro e W1 ⟨rfl, q1, rfl⟩
            have hI1 := hI.drewN q1
            have hb1 : Below w.heap.size w (wr.drewN q1) := hb.trans ⟨rfl, rfl, rfl, Nat.le_refl _, fun _ _ => rfl⟩
            have hbs1 := hb1.size
            go_wp2_with fail
            refine (Tryz.Buffer_WriteByte_k w.heap.size w.heap.size _ _ _ hI1 (by omega) (Lib.byteCells_one _) (by rw [Lib.byteCells_length]; simp <;> omega)).mono ?_
            rintro e W2 ⟨rfl, hI2, hb2, -⟩
            have hb12 := hb1.trans hb2
            have hbs2 := hb12.size
            rw [show (32 : Int) = ((32 : UInt8).toNat : Int) from rfl, Bt.bc_snoc] at hI2
            go_wp2_with fail
            refine (Tryz.Buffer_WriteByte_k w.heap.size w.heap.size _ _ _ hI2 (by omega) (Lib.byteCells_one _) (by rw [Lib.byteCells_length]; simp <;> omega)).mono ?_
            rintro e W3 ⟨rfl, hI3, hb3, -⟩
            rw [Bt.bc_snoc] at hI3
            go_wp2_with fail
            go_roundw
            case rel => exact ⟨k + 1, false, o ++ [32] ++ [s[k]], by omega, by go_num, rfl, HN', HL'.out, hI3, hb12.trans hb3⟩
            case measure => simp [intOf]; omega
          · have H1 := Lib.hid (fun w => letter_i s[k] true w h1)
            have HN' : Hid (fA kp (s.data.toList.take (k + 1)) = (false, o ++ [s[k]])) := Lib.hid (by rw [HN.out]; simp [fS, kp, h1, gapL, hop])
            have HL' : Hid ((o ++ [s[k]]).length ≤ k + 1) := Lib.hid (by have := HL.out; rw [← HN.out, HN'.out] at this; exact this)
            clear h1 HN HL
            have hdl : decide (0 < (Lib.byteCells o).length) = false := by rw [Lib.byteCells_length]; simpa using hop
            go_wp2_with fail
            refine (H1.out _).mono ?_
            rintro e w' ⟨rfl, rfl⟩
            go_wp2_with fail
            refine (Tryz.Buffer_Len w.heap.size w.heap.size _ _ hI).mono ?_
            rintro e W1 ⟨rfl, q1, rfl⟩
            have hI1 := hI.drewN q1
            have hb1 : Below w.heap.size w (wr.drewN q1) := hb.trans ⟨rfl, rfl, rfl, Nat.le_refl _, fun _ _ => rfl⟩
            have hbs1 := hb1.size
            go_wp2_with fail
            refine (Tryz.Buffer_WriteByte_k w.heap.size w.heap.size _ _ _ hI1 (by omega) (Lib.byteCells_one _) (by rw [Lib.byteCells_length]; simp <;> omega)).mono ?_
            rintro e W3 ⟨rfl, hI3, hb3, -⟩
            rw [Bt.bc_snoc] at hI3
            go_wp2_with fail
            go_roundw
            case rel => exact ⟨k + 1, false, o ++ [s[k]], by omega, by go_num, rfl, HN', HL'.out, hI3, hb1.trans hb3⟩
            case measure => simp [intOf]; omega
        | false =>
          have H1 := Lib.hid (fun w => letter_i s[k] true w h1)
          have HN' : Hid (fA kp (s.data.toList.take (k + 1)) = (false, o ++ [s[k]])) := Lib.hid (by rw [HN.out]; simp [fS, kp, h1, gapL])
          have HL' : Hid ((o ++ [s[k]]).length ≤ k + 1) := Lib.hid (by have := HL.out; rw [← HN.out, HN'.out] at this; exact this)
          clear h1 HN HL
          go_wp2_with fail
          refine (H1.out _).mono ?_
          rintro e w' ⟨rfl, rfl⟩
          go_wp2_with fail
          refine (Tryz.Buffer_WriteByte_k w.heap.size w.heap.size _ _ _ hI (by omega) (Lib.byteCells_one _) (by rw [Lib.byteCells_length]; simp <;> omega)).mono ?_
          rintro e W3 ⟨rfl, hI3, hb3, -⟩
          rw [Bt.bc_snoc] at hI3
          go_wp2_with fail
          go_roundw
          case rel => exact ⟨k + 1, false, o ++ [s[k]], by omega, by go_num, rfl, HN', HL'.out, hI3, hb.trans hb3⟩
          case measure => simp [intOf]; omega
      | false =>
        cases h2 : dg s[k] with
        | true =>
          cases g with
          | true =>
            by_cases hop : 0 < o.length
            · have H1 := Lib.hid (fun w => letter_i s[k] false w h1)
              have H2 := Lib.hid (fun w => dig_i s[k] true w h2)
              have HN' : Hid (fA kp (s.data.toList.take (k + 1)) = (false, o ++ [32] ++ [s[k]])) := Lib.hid (by rw [HN.out]; simp [fS, kp, h1, h2, gapL, hop])
              have HL' : Hid ((o ++ [32] ++ [s[k]]).length ≤ k + 1) := Lib.hid (by have := HL.out; rw [← HN.out, HN'.out] at this; exact this)
              clear h1 h2 HN HL
              have hdl : decide (0 < (Lib.byteCells o).length) = true := by rw [Lib.byteCells_length]; simpa using hop
              go_wp2_with fail
              refine (H1.out _).mono ?_
              rintro e w' ⟨rfl, rfl⟩
              go_wp2_with fail
              refine (H2.out _).mono ?_
              rintro e w' ⟨rfl, rfl⟩
              go_wp2_with fail
              refine (Tryz.Buffer_Len w.heap.size w.heap.size _ _ hI).mono ?_
              rintro e W1 ⟨rfl, q1, rfl⟩
              have hI1 := hI.drewN q1
              have hb1 : Below w.heap.size w (wr.drewN q1) := hb.trans ⟨rfl, rfl, rfl, Nat.le_refl _, fun _ _ => rfl⟩
              have hbs1 := hb1.size
              go_wp2_with fail
              refine (Tryz.Buffer_WriteByte_k w.heap.size w.heap.size _ _ _ hI1 (by omega) (Lib.byteCells_one _) (by rw [Lib.byteCells_length]; simp <;> omega)).mono ?_
              rintro e W2 ⟨rfl, hI2, hb2, -⟩
              have hb12 := hb1.trans hb2
              have hbs2 := hb12.size
              rw [show (32 : Int) = ((32 : UInt8).toNat : Int) from rfl, Bt.bc_snoc] at hI2
              go_wp2_with fail
              refine (Tryz.Buffer_WriteByte_k w.heap.size w.heap.size _ _ _ hI2 (by omega) (Lib.byteCells_one _) (by rw [Lib.byteCells_length]; simp <;> omega)).mono ?_
              rintro e W3 ⟨rfl, hI3, hb3, -⟩
              rw [Bt.bc_snoc] at hI3
              go_wp2_with fail
              go_roundw
              case rel => exact ⟨k + 1, false, o ++ [32] ++ [s[k]], by omega, by go_num, rfl, HN', HL'.out, hI3, hb12.trans hb3⟩
              case measure => simp [intOf]; omega
            · have H1 := Lib.hid (fun w => letter_i s[k] false w h1)
              have H2 := Lib.hid (fun w => dig_i s[k] true w h2)
              have HN' : Hid (fA kp (s.data.toList.take (k + 1)) = (false, o ++ [s[k]])) := Lib.hid (by rw [HN.out]; simp [fS, kp, h1, h2, gapL, hop])
              have HL' : Hid ((o ++ [s[k]]).length ≤ k + 1) := Lib.hid (by have := HL.out; rw [← HN.out, HN'.out] at this; exact this)
              clear h1 h2 HN HL
              have hdl : decide (0 < (Lib.byteCells o).length) = false := by rw [Lib.byteCells_length]; simpa using hop
              go_wp2_with fail
              refine (H1.out _).mono ?_
              rintro e w' ⟨rfl, rfl⟩
              go_wp2_with fail
              refine (H2.out _).mono ?_
              rintro e w' ⟨rfl, rfl⟩
              go_wp2_with fail
              refine (Tryz.Buffer_Len w.heap.size w.heap.size _ _ hI).mono ?_
              rintro e W1 ⟨rfl, q1, rfl⟩
              have hI1 := hI.drewN q1
              have hb1 : Below w.heap.size w (wr.drewN q1) := hb.trans ⟨rfl, rfl, rfl, Nat.le_refl _, fun _ _ => rfl⟩
              have hbs1 := hb1.size
              go_wp2_with fail
              refine (Tryz.Buffer_WriteByte_k w.heap.size w.heap.size _ _ _ hI1 (by omega) (Lib.byteCells_one _) (by rw [Lib.byteCells_length]; simp <;> omega)).mono ?_
              rintro e W3 ⟨rfl, hI3, hb3, -⟩
              rw [Bt.bc_snoc] at hI3
              go_wp2_with fail
              go_roundw
              case rel => exact ⟨k + 1, false, o ++ [s[k]], by omega, by go_num, rfl, HN', HL'.out, hI3, hb1.trans hb3⟩
              case measure => simp [intOf]; omega
          | false =>
            have H1 := Lib.hid (fun w => letter_i s[k] false w h1)
            have H2 := Lib.hid (fun w => dig_i s[k] true w h2)
            have HN' : Hid (fA kp (s.data.toList.take (k + 1)) = (false, o ++ [s[k]])) := Lib.hid (by rw [HN.out]; simp [fS, kp, h1, h2, gapL])
            have HL' : Hid ((o ++ [s[k]]).length ≤ k + 1) := Lib.hid (by have := HL.out; rw [← HN.out, HN'.out] at this; exact this)
            clear h1 h2 HN HL
            go_wp2_with fail
            refine (H1.out _).mono ?_
            rintro e w' ⟨rfl, rfl⟩
            go_wp2_with fail
            refine (H2.out _).mono ?_
            rintro e w' ⟨rfl, rfl⟩
            go_wp2_with fail
            refine (Tryz.Buffer_WriteByte_k w.heap.size w.heap.size _ _ _ hI (by omega) (Lib.byteCells_one _) (by rw [Lib.byteCells_length]; simp <;> omega)).mono ?_
            rintro e W3 ⟨rfl, hI3, hb3, -⟩
            rw [Bt.bc_snoc] at hI3
            go_wp2_with fail
            go_roundw
            case rel => exact ⟨k + 1, false, o ++ [s[k]], by omega, by go_num, rfl, HN', HL'.out, hI3, hb.trans hb3⟩
            case measure => simp [intOf]; omega
        | false =>
          cases g with
          | true =>
            have H1 := Lib.hid (fun w => letter_i s[k] false w h1)
            have H2 := Lib.hid (fun w => dig_i s[k] false w h2)
            have HN' : Hid (fA kp (s.data.toList.take (k + 1)) = (true || decide (s[k].toNat = 32), o)) := Lib.hid (by rw [HN.out]; simp [fS, kp, h1, h2])
            obtain ⟨q, hq⟩ : ∃ q, decide (s[k].toNat = 32) = q := ⟨_, rfl⟩
            have hq2 := num_sp s[k] q hq
            rw [hq] at HN'
            clear h1 h2 HN HL hq
            cases q with
            | true =>
              go_wp2_with fail
              refine (H1.out _).mono ?_
              rintro e w' ⟨rfl, rfl⟩
              go_wp2_with fail
              refine (H2.out _).mono ?_
              rintro e w' ⟨rfl, rfl⟩
              go_wp2_with fail
              go_roundw
              case rel => exact ⟨k + 1, true, o, by omega, by go_num, rfl, Lib.hid (by rw [HN'.out]; rfl), by omega, hI, hb⟩
              case measure => simp [intOf]; omega
            | false =>
              go_wp2_with fail
              refine (H1.out _).mono ?_
              rintro e w' ⟨rfl, rfl⟩
              go_wp2_with fail
              refine (H2.out _).mono ?_
              rintro e w' ⟨rfl, rfl⟩
              go_wp2_with fail
              go_roundw
              case rel => exact ⟨k + 1, true, o, by omega, by go_num, rfl, Lib.hid (by rw [HN'.out]; rfl), by omega, hI, hb⟩
              case measure => simp [intOf]; omega
          | false =>
            have H1 := Lib.hid (fun w => letter_i s[k] false w h1)
            have H2 := Lib.hid (fun w => dig_i s[k] false w h2)
            have HN' : Hid (fA kp (s.data.toList.take (k + 1)) = (false || decide (s[k].toNat = 32), o)) := Lib.hid (by rw [HN.out]; simp [fS, kp, h1, h2])
            obtain ⟨q, hq⟩ : ∃ q, decide (s[k].toNat = 32) = q := ⟨_, rfl⟩
            have hq2 := num_sp s[k] q hq
            rw [hq] at HN'
            clear h1 h2 HN HL hq
            cases q with
            | true =>
              go_wp2_with fail
              refine (H1.out _).mono ?_
              rintro e w' ⟨rfl, rfl⟩
              go_wp2_with fail
              refine (H2.out _).mono ?_
              rintro e w' ⟨rfl, rfl⟩
              go_wp2_with fail
              go_roundw
              case rel => exact ⟨k + 1, true, o, by omega, by go_num, rfl, Lib.hid (by rw [HN'.out]; rfl), by omega, hI, hb⟩
              case measure => simp [intOf]; omega
            | false =>
              go_wp2_with fail
              refine (H1.out _).mono ?_
              rintro e w' ⟨rfl, rfl⟩
              go_wp2_with fail
              refine (H2.out _).mono ?_
              rintro e w' ⟨rfl, rfl⟩
              go_wp2_with fail
              go_roundw
              case rel => exact ⟨k + 1, false, o, by omega, by go_num, rfl, Lib.hid (by rw [HN'.out]; rfl), by omega, hI, hb⟩
              case measure => simp [intOf]; omega
    · have HAl := Lib.hid (take_all s k (by omega))
      rw [HAl.out] at HA
      have HO : Hid (o = (fA kp s.data.toList).2) := Lib.hid (by rw [HA.out])
      rw [HO.out] at hI
      go_wp2_with fail
      refine (Tryz.Buffer_String w.heap.size w.heap.size _ _ hI).mono ?_
      rintro e W2 ⟨rfl, q, rfl⟩
      go_wp2_with fail
      refine (HLo.out _).mono ?_
      rintro e W3 ⟨rfl, b3⟩
      go_wp2_with fail
      go_ret
      have hbq : Below w.heap.size w (wr.drewN q) := hb.trans ⟨rfl, rfl, rfl, Nat.le_refl _, fun _ _ => rfl⟩
      exact ⟨rfl, hbq.trans (b3.mono hbq.size)⟩

theorem lo_num (b : UInt8) : True := trivial
theorem own_form {w : World} {b : Nat} {e : TypeId} {sz : Nat} {v : Value} {n : Nat} {xs : List Value} (h : w.ownsRow b e sz v n xs) : ∃ A c, v = .slice A n c := by
  rcases h.2 with ⟨rfl, rfl⟩ | ⟨g, cap, cur, rfl, _⟩
  · exact ⟨none, 0, rfl⟩
  · exact ⟨_, _, rfl⟩
theorem own_below {w w1 : World} {base : Nat} {e : TypeId} {size : Nat} {v : Value} {n : Nat} {xs : List Value} (h : w.ownsRow base e size v n xs) (hb : Below w.heap.size w w1) : w1.ownsRow base e size v n xs := by
  refine ⟨h.1, ?_⟩
  rcases h.2 with h' | ⟨g, cap, cur, e1, e2, e3, e4⟩
  · exact .inl h'
  · refine .inr ⟨g, cap, cur, e1, e2, ?_, e4⟩
    have hg : g < w.heap.size := by
      rcases Nat.lt_or_ge g w.heap.size with hlt | hge
      · exact hlt
      · rw [Array.getElem?_eq_none hge] at e3; cases e3
    exact (hb.block g hg).trans e3
set_option maxRecDepth 100000 in
set_option maxHeartbeats 8000000 in
theorem fold_s (s : ByteArray) (w : World) (hs : s.size ≤ 1048576) :
    Calls Tryz.prog 51 #[.string s] w fun e w' => e = .returned (.string (ba (fT s.data.toList))) ∧ Below w.heap.size w w' := by
  obtain ⟨j0, hj, hy0, hy1, hy2⟩ := info_parts Bt.infoByte
  have HLow := Lib.hid (fun w => Low.l2Low s w hs)
  have hT : Hid ((ba (Lib.toLowerA s.data.toList)).data.toList = s.data.toList.map Lib.lowerB) := Lib.hid (by rw [toList_ba]; rfl)
  have hZ : (ba (Lib.toLowerA s.data.toList)).size = s.size := by rw [ba_size, Lib.toLowerA, List.length_map, len_size]
  change Hid (∀ w, Calls _ _ _ w fun e w' => e = .returned (.string (ba (Lib.toLowerA s.data.toList))) ∧ _) at HLow
  generalize ba (Lib.toLowerA s.data.toList) = t at *
  go_enter Tryz.func51, Tryz.ntmps51
  go_wp2_with fail
  refine (HLow.out _).mono ?_
  rintro e w1 ⟨rfl, b1⟩
  have hb1 : Below w.heap.size w w1 := ((Below.refl _ w).alloc (Nat.le_refl _) _).trans (b1.mono (by simp))
  have ho1 := own_below (World.ownsRow_lit (e := 5) (size := 1) w #[] 0 (Nat.le_refl _) (Nat.zero_le _) rfl) b1
  clear b1
  go_wp2_with fail
  go_loopw [3, 4, 6] (fun vc vs i wr => ∃ (k : Nat) (g : Bool) (o : List UInt8), k ≤ s.size ∧ i = .int .i64 k ∧ vs = .bool g ∧ Hid (fA kl (t.data.toList.take k) = (g, o)) ∧ o.length ≤ k ∧ wr.ownsRow w.heap.size 5 1 vc o.length (Lib.byteCells o) ∧ Below w.heap.size w wr) (fun _ _ i _ => s.size - (intOf i).toNat)
  case atStart => exact ⟨0, false, [], Nat.zero_le _, rfl, rfl, Lib.hid (by simp [fA]), Nat.le_refl _, ho1, hb1⟩
  case round =>
    obtain ⟨k, g, o, hk, rfl, rfl, HA, hol, hcur, hb⟩ := hrel
    have hbs := hb.size
    by_cases hlt : k < s.size
    · have hltt : k < t.size := by omega
      have hdlt : decide (k < t.size) = true := by simpa using hltt
      have HN : Hid (fA kl (t.data.toList.take (k + 1)) = fS kl (g, o) t[k]) := Lib.hid (by rw [take_snoc t k hltt, fA_snoc, HA.out])
      have HL : Hid ((fS kl (g, o) t[k]).2.length ≤ k + 1) := Lib.hid (by rw [← HN.out]; have := fA_le kl (t.data.toList.take (k + 1)); rw [take_len t (k+1) hltt] at this; exact this)
      have hcl := t[k].toNat_lt
      cases h1 : isLo t[k] with
      | true =>
        cases g with
        | true =>
          by_cases hop : 0 < o.length
          · have H1 := Lib.hid (fun w => lo_s t[k] true w h1)
            have HN' : Hid (fA kl (t.data.toList.take (k + 1)) = (false, o ++ [32] ++ [t[k]])) := Lib.hid (by rw [HN.out]; simp [fS, kl, h1, gapL, hop])
            have HL' : Hid ((o ++ [32] ++ [t[k]]).length ≤ k + 1) := Lib.hid (by have := HL.out; rw [← HN.out, HN'.out] at this; exact this)
            clear h1 HN HL
            obtain ⟨Ac, cc, rfl⟩ := own_form hcur
            have hdl : decide (0 < o.length) = true := by simpa using hop
            go_wp2_with fail
            refine (H1.out _).mono ?_
            rintro e w' ⟨rfl, rfl⟩
            go_wp2_with (first | (at_builtin; refine wpList_append_own _ rfl _ _ 79 rfl w.heap.size 5 j0 (.int .u8 0) 1 1 Tryz.underlying79 hj hy0 hy1 hy2 rfl (by decide) _ _ _ rfl (hcur'.alloc _) ⟨w9.heap.size, 0, none⟩ 1 1 [.int .u8 t[k].toNat] rfl rfl (cell_one_new _ _ _) (by simp [Value.oneCell']) (by unfold maxLen; omega) (by omega) (by simp; omega) ?_; intro v'' w10 hcur'' hgrow2 _) | (at_builtin; refine wpList_append_own _ rfl _ _ 79 rfl w.heap.size 5 j0 (.int .u8 0) 1 1 Tryz.underlying79 hj hy0 hy1 hy2 rfl (by decide) _ _ _ rfl (hcur.alloc _) ⟨wr.heap.size, 0, none⟩ 1 1 [.int .u8 32] rfl rfl (cell_one_new _ _ _) (by simp [Value.oneCell']) (by unfold maxLen; omega) (by omega) (by simp; omega) ?_; intro v' w9 hcur' hgrow _; obtain ⟨Ad, cd, rfl⟩ := own_form hcur'; have hb9 : Below w.heap.size w w9 := (hb.alloc hbs _).grown hgrow (by simp; omega) (fun g hg => (hcur.lt g hg).1); have hbs9 := hb9.size) | go_in)
            have hb10 : Below w.heap.size w w10 := (hb9.alloc hbs9 _).grown hgrow2 (by simp; omega) (fun g hg => (hcur'.lt g hg).1)
            go_roundw
            case rel => exact ⟨k + 1, false, o ++ [32] ++ [t[k]], by omega, by go_num, rfl, HN', HL'.out, by rw [List.length_append, ← Bt.bc_snoc, List.length_append, ← Bt.bc_snoc]; exact hcur'', hb10⟩
            case measure => simp [intOf]; omega
          · have H1 := Lib.hid (fun w => lo_s t[k] true w h1)
            have HN' : Hid (fA kl (t.data.toList.take (k + 1)) = (false, o ++ [t[k]])) := Lib.hid (by rw [HN.out]; simp [fS, kl, h1, gapL, hop])
            have HL' : Hid ((o ++ [t[k]]).length ≤ k + 1) := Lib.hid (by have := HL.out; rw [← HN.out, HN'.out] at this; exact this)
            clear h1 HN HL
            obtain ⟨Ac, cc, rfl⟩ := own_form hcur
            have hdl : decide (0 < o.length) = false := by simpa using hop
            go_wp2_with fail
            refine (H1.out _).mono ?_
            rintro e w' ⟨rfl, rfl⟩
            go_wp2_with (first | (at_builtin; refine wpList_append_own _ rfl _ _ 79 rfl w.heap.size 5 j0 (.int .u8 0) 1 1 Tryz.underlying79 hj hy0 hy1 hy2 rfl (by decide) _ _ _ rfl (hcur.alloc _) ⟨wr.heap.size, 0, none⟩ 1 1 [.int .u8 t[k].toNat] rfl rfl (cell_one_new _ _ _) (by simp [Value.oneCell']) (by unfold maxLen; omega) (by omega) (by simp; omega) ?_; intro v' w9 hcur' hgrow _) | go_in)
            have hb9 : Below w.heap.size w w9 := (hb.alloc hbs _).grown hgrow (by simp; omega) (fun g hg => (hcur.lt g hg).1)
            go_roundw
            case rel => exact ⟨k + 1, false, o ++ [t[k]], by omega, by go_num, rfl, HN', HL'.out, by rw [List.length_append, ← Bt.bc_snoc]; exact hcur', hb9⟩
            case measure => simp [intOf]; omega
        | false =>
          have H1 := Lib.hid (fun w => lo_s t[k] true w h1)
          have HN' : Hid (fA kl (t.data.toList.take (k + 1)) = (false, o ++ [t[k]])) := Lib.hid (by rw [HN.out]; simp [fS, kl, h1, gapL])
          have HL' : Hid ((o ++ [t[k]]).length ≤ k + 1) := Lib.hid (by have := HL.out; rw [← HN.out, HN'.out] at this; exact this)
          clear h1 HN HL
          obtain ⟨Ac, cc, rfl⟩ := own_form hcur
          go_wp2_with fail
          refine (H1.out _).mono ?_
          rintro e w' ⟨rfl, rfl⟩
          go_wp2_with (first | (at_builtin; refine wpList_append_own _ rfl _ _ 79 rfl w.heap.size 5 j0 (.int .u8 0) 1 1 Tryz.underlying79 hj hy0 hy1 hy2 rfl (by decide) _ _ _ rfl (hcur.alloc _) ⟨wr.heap.size, 0, none⟩ 1 1 [.int .u8 t[k].toNat] rfl rfl (cell_one_new _ _ _) (by simp [Value.oneCell']) (by unfold maxLen; omega) (by omega) (by simp; omega) ?_; intro v' w9 hcur' hgrow _) | go_in)
          have hb9 : Below w.heap.size w w9 := (hb.alloc hbs _).grown hgrow (by simp; omega) (fun g hg => (hcur.lt g hg).1)
          go_roundw
          case rel => exact ⟨k + 1, false, o ++ [t[k]], by omega, by go_num, rfl, HN', HL'.out, by rw [List.length_append, ← Bt.bc_snoc]; exact hcur', hb9⟩
          case measure => simp [intOf]; omega
      | false =>
        cases h2 : dg t[k] with
        | true =>
          cases g with
          | true =>
            by_cases hop : 0 < o.length
            · have H1 := Lib.hid (fun w => lo_s t[k] false w h1)
              have H2 := Lib.hid (fun w => dig_s t[k] true w h2)
              have HN' : Hid (fA kl (t.data.toList.take (k + 1)) = (false, o ++ [32] ++ [t[k]])) := Lib.hid (by rw [HN.out]; simp [fS, kl, h1, h2, gapL, hop])
              have HL' : Hid ((o ++ [32] ++ [t[k]]).length ≤ k + 1) := Lib.hid (by have := HL.out; rw [← HN.out, HN'.out] at this; exact this)
              clear h1 h2 HN HL
              obtain ⟨Ac, cc, rfl⟩ := own_form hcur
              have hdl : decide (0 < o.length) = true := by simpa using hop
              go_wp2_with fail
              refine (H1.out _).mono ?_
              rintro e w' ⟨rfl, rfl⟩
              go_wp2_with fail
              refine (H2.out _).mono ?_
              rintro e w' ⟨rfl, rfl⟩
              go_wp2_with (first | (at_builtin; refine wpList_append_own _ rfl _ _ 79 rfl w.heap.size 5 j0 (.int .u8 0) 1 1 Tryz.underlying79 hj hy0 hy1 hy2 rfl (by decide) _ _ _ rfl (hcur'.alloc _) ⟨w9.heap.size, 0, none⟩ 1 1 [.int .u8 t[k].toNat] rfl rfl (cell_one_new _ _ _) (by simp [Value.oneCell']) (by unfold maxLen; omega) (by omega) (by simp; omega) ?_; intro v'' w10 hcur'' hgrow2 _) | (at_builtin; refine wpList_append_own _ rfl _ _ 79 rfl w.heap.size 5 j0 (.int .u8 0) 1 1 Tryz.underlying79 hj hy0 hy1 hy2 rfl (by decide) _ _ _ rfl (hcur.alloc _) ⟨wr.heap.size, 0, none⟩ 1 1 [.int .u8 32] rfl rfl (cell_one_new _ _ _) (by simp [Value.oneCell']) (by unfold maxLen; omega) (by omega) (by simp; omega) ?_; intro v' w9 hcur' hgrow _; obtain ⟨Ad, cd, rfl⟩ := own_form hcur'; have hb9 : Below w.heap.size w w9 := (hb.alloc hbs _).grown hgrow (by simp; omega) (fun g hg => (hcur.lt g hg).1); have hbs9 := hb9.size) | go_in)
              have hb10 : Below w.heap.size w w10 := (hb9.alloc hbs9 _).grown hgrow2 (by simp; omega) (fun g hg => (hcur'.lt g hg).1)
              go_roundw
              case rel => exact ⟨k + 1, false, o ++ [32] ++ [t[k]], by omega, by go_num, rfl, HN', HL'.out, by rw [List.length_append, ← Bt.bc_snoc, List.length_append, ← Bt.bc_snoc]; exact hcur'', hb10⟩
              case measure => simp [intOf]; omega
            · have H1 := Lib.hid (fun w => lo_s t[k] false w h1)
              have H2 := Lib.hid (fun w => dig_s t[k] true w h2)
              have HN' : Hid (fA kl (t.data.toList.take (k + 1)) = (false, o ++ [t[k]])) := Lib.hid (by rw [HN.out]; simp [fS, kl, h1, h2, gapL, hop])
              have HL' : Hid ((o ++ [t[k]]).length ≤ k + 1) := Lib.hid (by have := HL.out; rw [← HN.out, HN'.out] at this; exact this)
              clear h1 h2 HN HL
              obtain ⟨Ac, cc, rfl⟩ := own_form hcur
              have hdl : decide (0 < o.length) = false := by simpa using hop
              go_wp2_with fail
              refine (H1.out _).mono ?_
              rintro e w' ⟨rfl, rfl⟩
              go_wp2_with fail
              refine (H2.out _).mono ?_
              rintro e w' ⟨rfl, rfl⟩
              go_wp2_with (first | (at_builtin; refine wpList_append_own _ rfl _ _ 79 rfl w.heap.size 5 j0 (.int .u8 0) 1 1 Tryz.underlying79 hj hy0 hy1 hy2 rfl (by decide) _ _ _ rfl (hcur.alloc _) ⟨wr.heap.size, 0, none⟩ 1 1 [.int .u8 t[k].toNat] rfl rfl (cell_one_new _ _ _) (by simp [Value.oneCell']) (by unfold maxLen; omega) (by omega) (by simp; omega) ?_; intro v' w9 hcur' hgrow _) | go_in)
              have hb9 : Below w.heap.size w w9 := (hb.alloc hbs _).grown hgrow (by simp; omega) (fun g hg => (hcur.lt g hg).1)
              go_roundw
              case rel => exact ⟨k + 1, false, o ++ [t[k]], by omega, by go_num, rfl, HN', HL'.out, by rw [List.length_append, ← Bt.bc_snoc]; exact hcur', hb9⟩
              case measure => simp [intOf]; omega
          | false =>
            have H1 := Lib.hid (fun w => lo_s t[k] false w h1)
            have H2 := Lib.hid (fun w => dig_s t[k] true w h2)
            have HN' : Hid (fA kl (t.data.toList.take (k + 1)) = (false, o ++ [t[k]])) := Lib.hid (by rw [HN.out]; simp [fS, kl, h1, h2, gapL])
            have HL' : Hid ((o ++ [t[k]]).length ≤ k + 1) := Lib.hid (by have := HL.out; rw [← HN.out, HN'.out] at this; exact this)
            clear h1 h2 HN HL
            obtain ⟨Ac, cc, rfl⟩ := own_form hcur
            go_wp2_with fail
            refine (H1.out _).mono ?_
            rintro e w' ⟨rfl, rfl⟩
            go_wp2_with fail
            refine (H2.out _).mono ?_
            rintro e w' ⟨rfl, rfl⟩
            go_wp2_with (first | (at_builtin; refine wpList_append_own _ rfl _ _ 79 rfl w.heap.size 5 j0 (.int .u8 0) 1 1 Tryz.underlying79 hj hy0 hy1 hy2 rfl (by decide) _ _ _ rfl (hcur.alloc _) ⟨wr.heap.size, 0, none⟩ 1 1 [.int .u8 t[k].toNat] rfl rfl (cell_one_new _ _ _) (by simp [Value.oneCell']) (by unfold maxLen; omega) (by omega) (by simp; omega) ?_; intro v' w9 hcur' hgrow _) | go_in)
            have hb9 : Below w.heap.size w w9 := (hb.alloc hbs _).grown hgrow (by simp; omega) (fun g hg => (hcur.lt g hg).1)
            go_roundw
            case rel => exact ⟨k + 1, false, o ++ [t[k]], by omega, by go_num, rfl, HN', HL'.out, by rw [List.length_append, ← Bt.bc_snoc]; exact hcur', hb9⟩
            case measure => simp [intOf]; omega
        | false =>
          cases g with
          | true =>
            have H1 := Lib.hid (fun w => lo_s t[k] false w h1)
            have H2 := Lib.hid (fun w => dig_s t[k] false w h2)
            have HN' : Hid (fA kl (t.data.toList.take (k + 1)) = (true || decide (t[k].toNat = 32), o)) := Lib.hid (by rw [HN.out]; simp [fS, kl, h1, h2])
            clear h1 h2 HN HL
            go_wp2_with fail
            refine (H1.out _).mono ?_
            rintro e w' ⟨rfl, rfl⟩
            go_wp2_with fail
            refine (H2.out _).mono ?_
            rintro e w' ⟨rfl, rfl⟩
            go_wp2_with fail
            go_roundw
            case rel => exact ⟨k + 1, true, o, by omega, by go_num, rfl, Lib.hid (by rw [HN'.out]; rfl), by omega, hcur, hb⟩
            case measure => simp [intOf]; omega
          | false =>
            have H1 := Lib.hid (fun w => lo_s t[k] false w h1)
            have H2 := Lib.hid (fun w => dig_s t[k] false w h2)
            have HN' : Hid (fA kl (t.data.toList.take (k + 1)) = (false || decide (t[k].toNat = 32), o)) := Lib.hid (by rw [HN.out]; simp [fS, kl, h1, h2])
            obtain ⟨q, hq⟩ : ∃ q, decide (t[k].toNat = 32) = q := ⟨_, rfl⟩
            have hq2 := num_sp t[k] q hq
            rw [hq] at HN'
            clear h1 h2 HN HL hq
            go_wp2_with fail
            refine (H1.out _).mono ?_
            rintro e w' ⟨rfl, rfl⟩
            go_wp2_with fail
            refine (H2.out _).mono ?_
            rintro e w' ⟨rfl, rfl⟩
            go_wp2_with fail
            go_roundw
            case rel => exact ⟨k + 1, q, o, by omega, by go_num, by rw [← hq2], Lib.hid (by rw [HN'.out]; rfl), by omega, hcur, hb⟩
            case measure => simp [intOf]; omega
    · have hdlt : decide (k < t.size) = false := by simp; omega
      have HAl := Lib.hid (take_all t k (by omega))
      rw [HAl.out, hT.out] at HA
      have HO : Hid (o = fT s.data.toList) := Lib.hid (by rw [← fT_low, HA.out])
      have hst := Bt.own_str hcur
      go_wp2_with fail
      go_ret
      exact ⟨by rw [← HO.out]; rfl, hb⟩

def foV (s : ByteArray) : Value := if s.size ≤ 4000 then .tuple #[.string (ba (fT s.data.toList)), .bool true] else .tuple #[.string ⟨#[]⟩, .bool false]
theorem fo_form (s : ByteArray) : ∃ t r, foV s = .tuple #[.string t, .bool r] := by unfold foV; split <;> exact ⟨_, _, rfl⟩
end Go.Proofs.YtmopncojgkmkpaaGreatDoor.Fo
