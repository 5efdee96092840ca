/-
  MoveIntoQuotes of both.
-/
import Derived.Test.YtknilobmiandgaaDoorMqQ
import Derived.Test.YtknilobmiandgaaDoorRowB
namespace Go.Proofs.YtknilobmiandgaaDoor.Mq
open Go.RowKit Pl NmPl MqPl RowB
set_option linter.unusedSimpArgs false
set_option linter.unusedVariables false

/-- what MoveIntoQuotes answers -/
def mvV (s : ByteArray) : Value := if okX s.data.toList = true then .tuple #[.string (ba (mvA s.data.toList)), .bool true] else .tuple #[.string ⟨#[]⟩, .bool false]
theorem mvV_form (s : ByteArray) : ∃ t r, mvV s = .tuple #[.string t, .bool r] := by unfold mvV; split <;> exact ⟨_, _, rfl⟩
theorem ext_one (s : ByteArray) (k : Nat) (h : k < s.size) : s.extract k (k + 1) = ba [s[k]] := by
  rw [extract_list, take_snoc s k h, List.drop_left' (Pl.take_len s k (by omega))]
theorem okX_small {s : ByteArray} (h : okX s.data.toList = true) : s.size ≤ 60 := by
  unfold okX at h
  simp only [Bool.and_eq_true, decide_eq_true_eq] at h
  rw [len_size] at h
  exact h.1
set_option maxHeartbeats 4000000 in
theorem moves_i (s : ByteArray) (w : World) (hs : s.size ≤ 1048576) :
    Calls Tryd.prog 12 #[.string s] w fun e w' => e = .returned (mvV s) ∧ w = w' := by
  have HA := Lib.hid (fun r h w => isPart_i s r w hs h)
  cases h1 : okX s.data.toList with
  | false =>
    have HE : Hid (mvV s = .tuple #[.string ⟨#[]⟩, .bool false]) := Lib.hid (by unfold mvV; rw [if_neg (by simp [h1])])
    have HA' := Lib.hid (HA.out false h1)
    clear h1 HA
    go_enter Tryd.func12, Tryd.ntmps12
    go_wp2_with fail
    refine (HA'.out _).mono ?_
    rintro e w' ⟨rfl, rfl⟩
    go_wp2_with fail
    go_ret2
    exact ⟨by rw [HE.out]; rfl, rfl⟩
  | true =>
    have HE : Hid (mvV s = .tuple #[.string (ba (mvA s.data.toList)), .bool true]) := Lib.hid (by unfold mvV; rw [if_pos h1])
    have hsm := okX_small h1
    have HA' := Lib.hid (HA.out true h1)
    clear h1 HA
    go_enter Tryd.func12, Tryd.ntmps12
    go_wp2_with fail
    refine (HA'.out _).mono ?_
    rintro e w' ⟨rfl, hw⟩
    subst hw
    go_wp2_with fail
    go_loop [4, 11] (fun v i => ∃ k : Nat, k ≤ s.size ∧ i = .int .i64 k ∧ v = .string (ba (mvA (s.data.toList.take k)))) (fun _ i => s.size - (intOf i).toNat)
    case atStart => exact ⟨0, Nat.zero_le _, rfl, rfl⟩
    case round =>
      obtain ⟨k, hk, rfl, rfl⟩ := hrel
      by_cases hlt : k < s.size
      · have HX := Lib.hid (ext_one s k hlt)
        have HN : Hid (mvA (s.data.toList.take (k + 1)) = bqS (mvA (s.data.toList.take k)) s[k]) := Lib.hid (by rw [take_snoc s k hlt, mvA_snoc])
        have hz : (ba (mvA (s.data.toList.take k))).size ≤ 1000000 := by rw [ba_size, mvA_len, Pl.take_len s k (by omega)]; omega
        have HC := Lib.hid (fun w => behind_i (ba (mvA (s.data.toList.take k))) s[k] w hz)
        rw [toList_ba, ← HN.out, ← HX.out] at HC
        obtain ⟨j, hj⟩ : ∃ j, j = k + 1 := ⟨_, rfl⟩
        have HJ := Lib.hid hj
        have hji : (k : Int) + 1 = (j : Int) := by omega
        have hjs : (j : Int) ≤ (s.size : Int) := by omega
        have hkj : (k : Int) ≤ (j : Int) := by omega
        have hk2 : (k : Int) ≤ (s.size : Int) := by omega
        rw [← hj] at HC
        clear hj HN HX hz
        generalize ba (mvA (s.data.toList.take k)) = U at *
        generalize hT : ba (mvA (s.data.toList.take j)) = T at *
        have HTe := Lib.hid hT
        clear hT
        go_wp2_with fail
        refine (HC.out _).mono ?_
        rintro e w' ⟨rfl, hw⟩
        subst hw
        go_wp2_with fail
        go_round
        case rel => exact ⟨j, by omega, rfl, by rw [HTe.out]⟩
        case measure => simp [intOf]; omega
      · have HK : Hid (ba (mvA (s.data.toList.take k)) = ba (mvA s.data.toList)) := Lib.hid (by rw [take_all s k (by omega)])
        go_wp2_with fail
        go_ret2
        exact ⟨by rw [HE.out, ← HK.out]; rfl, rfl⟩
/-- the row of the model at place k -/
def rwL (s : List UInt8) (k : Nat) : List UInt8 := mvA (s.take (k + 1)) ++ s.drop (k + 1)
theorem rwL_len (s : List UInt8) (k : Nat) : (rwL s k).length = s.length := by
  unfold rwL; rw [List.length_append, mvA_len, List.length_take, List.length_drop]; omega
theorem rwL_0 (s : List UInt8) : rwL s 0 = s := by
  cases s with
  | nil => rfl
  | cons a l =>
    show mvA [a] ++ l = a :: l
    have : mvA [a] = [a] := by show bqS [] a = [a]; unfold bqS; rw [if_neg (by rintro ⟨h, -⟩; cases h)]; rfl
    rw [this]; rfl
theorem rwL_end (s : List UInt8) (k : Nat) (h : s.length ≤ k + 1) : rwL s k = mvA s := by
  unfold rwL; rw [List.take_of_length_le h, List.drop_eq_nil_of_le h, List.append_nil]
theorem rw_split (s : ByteArray) (k : Nat) (hk : k + 1 < s.size) : ∃ (P D : List UInt8) (x c : UInt8), rwL s.data.toList k = P ++ x :: c :: D ∧ P.length = k ∧
    rwL s.data.toList (k + 1) = (if x = 34 ∧ (c = 46 ∨ c = 44) ∧ lastM P = false then P ++ c :: 34 :: D else P ++ x :: c :: D) := by
  have hl := mvA_len (s.data.toList.take (k + 1))
  rw [Pl.take_len s _ (by omega)] at hl
  have hd := drop_cons s (k + 1) hk
  have ht := take_snoc s (k + 1) hk
  rcases List.eq_nil_or_concat (mvA (s.data.toList.take (k + 1))) with h | ⟨P, x, h⟩
  · rw [h] at hl; simp at hl
  · rw [List.concat_eq_append] at h
    refine ⟨P, s.data.toList.drop (k + 1 + 1), x, s[k + 1], ?_, ?_, ?_⟩
    · unfold rwL; rw [h, hd]; simp
    · rw [h] at hl; simp at hl; exact hl
    · unfold rwL
      rw [ht, mvA_snoc, h]
      unfold bqS
      have e1 : (P ++ [x]).getLast? = some x := by simp
      have e2 : (P ++ [x]).dropLast = P := by simp
      rw [e1, e2]
      by_cases h34 : x = 34 ∧ (s[k + 1] = 46 ∨ s[k + 1] = 44) ∧ lastM P = false
      · rw [if_pos ⟨by rw [h34.1], h34.2⟩, if_pos h34]; simp
      · rw [if_neg (fun e => h34 ⟨Option.some.inj e.1, e.2⟩), if_neg h34]; simp
theorem at_P {P D : List UInt8} {x c : UInt8} {k : Nat} (h : P.length = k) : (P ++ x :: c :: D)[k]? = some x ∧ (P ++ x :: c :: D)[k + 1]? = some c := by
  subst h
  constructor
  · rw [List.getElem?_append_right (Nat.le_refl _)]; simp
  · rw [List.getElem?_append_right (by omega)]; simp
theorem set_P {P D : List UInt8} {x c : UInt8} {k : Nat} (h : P.length = k) : ((P ++ x :: c :: D).set k c).set (k + 1) 34 = P ++ c :: 34 :: D := by
  subst h
  rw [List.set_append_right _ _ (Nat.le_refl _), Nat.sub_self, List.set_cons_zero, List.set_append_right _ _ (by omega)]
  simp
theorem prev_P {P D : List UInt8} {x c : UInt8} {i : Nat} (h : P.length = i + 1) : ∃ y, (P ++ x :: c :: D)[i]? = some y ∧ lastM P = isM y := by
  rcases List.eq_nil_or_concat P with rfl | ⟨Q, y, rfl⟩
  · simp at h
  · rw [List.concat_eq_append] at h ⊢
    have hq : Q.length = i := by simp at h; exact h
    refine ⟨y, ?_, lastM_snoc Q y⟩
    rw [List.append_assoc, List.getElem?_append_right (by omega), hq, Nat.sub_self]; rfl
set_option maxHeartbeats 8000000 in
set_option maxRecDepth 100000 in
theorem moves_s (s : ByteArray) (w : World) (hs : s.size ≤ 1048576) :
    Calls Tryd.prog 13 #[.string s] w fun e w' => e = .returned (mvV s) ∧ Below w.heap.size w w' := by
  have HA := Lib.hid (fun r h w => text_s s r w hs h)
  cases h1 : okX s.data.toList with
  | false =>
    have HE : Hid (mvV s = .tuple #[.string ⟨#[]⟩, .bool false]) := Lib.hid (by unfold mvV; rw [if_neg (by simp [h1])])
    have HA' := Lib.hid (HA.out false h1)
    clear h1 HA
    go_enter Tryd.func13, Tryd.ntmps13
    go_wp2_with fail
    refine (HA'.out _).mono ?_
    rintro e w' ⟨rfl, rfl⟩
    go_wp2_with fail
    go_ret2
    exact ⟨by rw [HE.out]; rfl, Below.refl _ _⟩
  | true =>
    have HE : Hid (mvV s = .tuple #[.string (ba (mvA s.data.toList)), .bool true]) := Lib.hid (by unfold mvV; rw [if_pos h1])
    have hsm := okX_small h1
    have HA' := Lib.hid (HA.out true h1)
    have hcv := Go.Lib.run_convert_string_bytes (P := Tryd.prog) w 9 22 5 s Tryd.underlying9 Tryd.underlying22 Tryd.underlying5
    have HR := Lib.hid (row_new w s)
    have HB := Lib.hid (below_bytes w s)
    have HL := Lib.hid (len_size s)
    generalize Lib.bytesWorld w 5 s = W1 at *
    generalize grownCap w s.size 0 5 = cap at *
    obtain ⟨n, HN⟩ : ∃ n, Hid (n = s.size) := ⟨_, Lib.hid rfl⟩
    rw [← HN.out] at hcv hs hsm
    clear h1 HA
    go_enter Tryd.func13, Tryd.ntmps13
    go_wp2_with fail
    refine (HA'.out _).mono ?_
    rintro e w' ⟨rfl, hw⟩
    subst hw
    go_wp2_with fail
    clear hcv
    go_loopw [5] (fun i wr => ∃ k : Nat, k ≤ n ∧ i = .int .i64 k ∧ Hid (RowB wr w.heap.size (rwL s.data.toList k)) ∧ Below w.heap.size w wr) (fun i _ => n - (intOf i).toNat)
    case atStart => exact ⟨0, Nat.zero_le _, rfl, Lib.hid (by rw [rwL_0]; exact HR.out), HB.out⟩
    case round =>
      obtain ⟨k, hk, rfl, HRk, hb⟩ := hrel
      by_cases hlt : k + 1 < n
      · obtain ⟨P, D, x, c, hL, hP, hN⟩ := rw_split s k (by rw [← HN.out]; exact hlt)
        rw [hL] at HRk
        obtain ⟨hx1, hx2⟩ := at_P (D := D) (x := x) (c := c) hP
        obtain ⟨hcx, hfx⟩ := HRk.out k x hx1
        obtain ⟨hcc, hfc⟩ := HRk.out (k + 1) c hx2
        have hbs := Lib.hid hb.size
        obtain ⟨j, hj⟩ : ∃ j, j = k + 1 := ⟨_, rfl⟩
        have HJ := Lib.hid hj
        have hji : (k : Int) + 1 = (j : Int) := by omega
        have hjn : j < n := by omega
        have hkn : k < n := by omega
        rw [← hj] at hcc hfc
        have HSet : Hid (RowB ((wr.setCell ⟨w.heap.size, k, none⟩ (.int .u8 c.toNat)).setCell ⟨w.heap.size, j, none⟩ (.int .u8 34)) w.heap.size (P ++ c :: 34 :: D)) := Lib.hid (by
          rw [hj, ← set_P (x := x) hP]
          have h1 := HRk.out.set (k := k) (by rw [List.length_append]; simp; omega) c
          exact h1.set (k := k + 1) (by rw [List.length_set, List.length_append]; simp; omega) 34)
        have HBel : Hid (Below w.heap.size w ((wr.setCell ⟨w.heap.size, k, none⟩ (.int .u8 c.toNat)).setCell ⟨w.heap.size, j, none⟩ (.int .u8 34))) := Lib.hid ((hb.setCell (p := ⟨w.heap.size, k, none⟩) (Nat.le_refl _) _).setCell (p := ⟨w.heap.size, j, none⟩) (Nat.le_refl _) _)
        have hcj : (wr.setCell ⟨w.heap.size, k, none⟩ (.int .u8 c.toNat)).frozen? ⟨w.heap.size, j, none⟩ = false := by rw [World.frozen?_setCell]; exact hfc
        have HNo : Hid (∀ (h : ¬ (x = 34 ∧ (c = 46 ∨ c = 44) ∧ lastM P = false)), RowB wr w.heap.size (rwL s.data.toList j)) := Lib.hid (fun h => by rw [hj, hN, if_neg h]; exact HRk.out)
        have HYes : Hid (∀ (h : x = 34 ∧ (c = 46 ∨ c = 44) ∧ lastM P = false), rwL s.data.toList j = P ++ c :: 34 :: D) := Lib.hid (fun h => by rw [hj, hN, if_pos h])
        have HPk := Lib.hid hP
        have HPr : Hid (∀ i, k = i + 1 → ∃ y, wr.cell? ⟨w.heap.size, i, none⟩ = some (.int .u8 y.toNat) ∧ lastM P = isM y) := Lib.hid (fun i hi => by
          obtain ⟨y, hy1, hy2⟩ := prev_P (D := D) (x := x) (c := c) (hP.trans hi)
          exact ⟨y, (HRk.out i y hy1).1, hy2⟩)
        clear hx1 hx2 hL hN hP hj
        by_cases h34 : x = 34
        · have b34 : ((x.toNat : Int) != 34) = false := by rw [h34]; rfl
          have hc : ((c.toNat : Int) != 46) = false ∧ (c = 46 ∨ c = 44) ∨ ((c.toNat : Int) != 46) = true ∧ ((c.toNat : Int) != 44) = false ∧ (c = 46 ∨ c = 44) ∨ ((c.toNat : Int) != 46) = true ∧ ((c.toNat : Int) != 44) = true ∧ ¬ (c = 46 ∨ c = 44) := by
            by_cases q1 : c = 46
            · exact .inl ⟨by rw [q1]; rfl, .inl q1⟩
            · have e1 : ((c.toNat : Int) != 46) = true := by rw [bne, show ((c.toNat : Int) == 46) = false from u8_ne (c := 46) q1]; rfl
              by_cases q2 : c = 44
              · exact .inr (.inl ⟨e1, by rw [q2]; rfl, .inr q2⟩)
              · exact .inr (.inr ⟨e1, by rw [bne, show ((c.toNat : Int) == 44) = false from u8_ne (c := 44) q2]; rfl, fun h => h.elim q1 q2⟩)
          rcases hc with ⟨b46, hcc2⟩ | ⟨b46, b44, hcc2⟩ | ⟨b46, b44, hcc2⟩
          · skip
            by_cases hk0 : k = 0
            · have HY := Lib.hid (HYes.out ⟨h34, hcc2, by have := HPk.out; rw [hk0] at this; rw [List.length_eq_zero_iff.1 this]; rfl⟩)
              have hdk : decide (0 < k) = false := by simp; omega
              clear hk0 h34 hcc2
              go_wp2_with fail
              go_roundw
              case rel => exact ⟨j, by omega, by first | rfl | go_num, Lib.hid (by rw [HY.out]; exact HSet.out), HBel.out⟩
              case measure => simp [intOf]; have := HJ.out; omega
            · obtain ⟨i, hi⟩ : ∃ i, k = i + 1 := ⟨k - 1, by omega⟩
              obtain ⟨y, hcy, hly⟩ := HPr.out i hi
              have hdk : decide (0 < k) = true := by simp; omega
              have hw1 : IntKind.i64.wrap ((k : Int) - 1) = (i : Int) := by rw [IntWalk.i64_in _ (by omega)]; omega
              have hin : i < n := by omega
              clear hk0 hi
              cases hm : isM y with
              | true =>
                have HR2 := Lib.hid (HNo.out (by rintro ⟨-, -, h⟩; rw [hly, hm] at h; cases h))
                obtain ⟨z, hz, hd⟩ := isM_z (c := y) hm
                have HM := Lib.hid (fun w => mark_s y z w hz)
                have hg : decide (0 ≤ z) = true := by simp at hd ⊢; omega
                clear hm hz hd h34 hcc2 hly
                go_wp2_with fail
                refine (HM.out _).mono ?_
                rintro e w' ⟨rfl, hw⟩
                subst hw
                go_wp2_with fail
                go_roundw
                case rel => exact ⟨j, by omega, by first | rfl | go_num, Lib.hid HR2.out, hb⟩
                case measure => simp [intOf]; have := HJ.out; omega
              | false =>
                have HY := Lib.hid (HYes.out ⟨h34, hcc2, by rw [hly, hm]⟩)
                obtain ⟨z, hz, hd⟩ := isM_z (c := y) hm
                have HM := Lib.hid (fun w => mark_s y z w hz)
                have hg : decide (0 ≤ z) = false := by simp at hd ⊢; omega
                clear hm hz hd h34 hcc2 hly
                go_wp2_with fail
                refine (HM.out _).mono ?_
                rintro e w' ⟨rfl, hw⟩
                subst hw
                go_wp2_with fail
                go_roundw
                case rel => exact ⟨j, by omega, by first | rfl | go_num, Lib.hid (by rw [HY.out]; exact HSet.out), HBel.out⟩
                case measure => simp [intOf]; have := HJ.out; omega
          · skip
            by_cases hk0 : k = 0
            · have HY := Lib.hid (HYes.out ⟨h34, hcc2, by have := HPk.out; rw [hk0] at this; rw [List.length_eq_zero_iff.1 this]; rfl⟩)
              have hdk : decide (0 < k) = false := by simp; omega
              clear hk0 h34 hcc2
              go_wp2_with fail
              go_roundw
              case rel => exact ⟨j, by omega, by first | rfl | go_num, Lib.hid (by rw [HY.out]; exact HSet.out), HBel.out⟩
              case measure => simp [intOf]; have := HJ.out; omega
            · obtain ⟨i, hi⟩ : ∃ i, k = i + 1 := ⟨k - 1, by omega⟩
              obtain ⟨y, hcy, hly⟩ := HPr.out i hi
              have hdk : decide (0 < k) = true := by simp; omega
              have hw1 : IntKind.i64.wrap ((k : Int) - 1) = (i : Int) := by rw [IntWalk.i64_in _ (by omega)]; omega
              have hin : i < n := by omega
              clear hk0 hi
              cases hm : isM y with
              | true =>
                have HR2 := Lib.hid (HNo.out (by rintro ⟨-, -, h⟩; rw [hly, hm] at h; cases h))
                obtain ⟨z, hz, hd⟩ := isM_z (c := y) hm
                have HM := Lib.hid (fun w => mark_s y z w hz)
                have hg : decide (0 ≤ z) = true := by simp at hd ⊢; omega
                clear hm hz hd h34 hcc2 hly
                go_wp2_with fail
                refine (HM.out _).mono ?_
                rintro e w' ⟨rfl, hw⟩
                subst hw
                go_wp2_with fail
                go_roundw
                case rel => exact ⟨j, by omega, by first | rfl | go_num, Lib.hid HR2.out, hb⟩
                case measure => simp [intOf]; have := HJ.out; omega
              | false =>
                have HY := Lib.hid (HYes.out ⟨h34, hcc2, by rw [hly, hm]⟩)
                obtain ⟨z, hz, hd⟩ := isM_z (c := y) hm
                have HM := Lib.hid (fun w => mark_s y z w hz)
                have hg : decide (0 ≤ z) = false := by simp at hd ⊢; omega
                clear hm hz hd h34 hcc2 hly
                go_wp2_with fail
                refine (HM.out _).mono ?_
                rintro e w' ⟨rfl, hw⟩
                subst hw
                go_wp2_with fail
                go_roundw
                case rel => exact ⟨j, by omega, by first | rfl | go_num, Lib.hid (by rw [HY.out]; exact HSet.out), HBel.out⟩
                case measure => simp [intOf]; have := HJ.out; omega
          · have HR2 := Lib.hid (HNo.out (fun h => hcc2 h.2.1))
            clear hcc2 h34
            go_wp2_with fail
            go_roundw
            case rel => exact ⟨j, by omega, by first | rfl | go_num, Lib.hid HR2.out, hb⟩
            case measure => simp [intOf]; have := HJ.out; omega
        · have b34 : ((x.toNat : Int) != 34) = true := by rw [bne, show ((x.toNat : Int) == 34) = false from u8_ne (c := 34) h34]; rfl
          have HR2 := Lib.hid (HNo.out (fun h => h34 h.1))
          clear h34
          go_wp2_with fail
          go_roundw
          case rel => exact ⟨j, by omega, by first | rfl | go_num, Lib.hid HR2.out, hb⟩
          case measure => simp [intOf]; have := HJ.out; omega
      · have HEn : Hid (rwL s.data.toList k = mvA s.data.toList) := Lib.hid (rwL_end _ _ (by rw [HL.out, ← HN.out]; omega))
        have hst := row_str (cap := cap) HRk.out (n := n) (by rw [rwL_len, HL.out, HN.out])
        rw [nums_str, HEn.out] at hst
        obtain ⟨j, hj⟩ : ∃ j, j = k + 1 := ⟨_, rfl⟩
        have hji : (k : Int) + 1 = (j : Int) := by omega
        have hjs : ¬ j < n := by omega
        change (convert 22 9 (.slice (some ⟨w.heap.size, 0, none⟩) n cap)).run Tryd.prog wr = .ok (.string (ba (mvA s.data.toList))) wr at hst
        generalize ba (mvA s.data.toList) = T at *
        clear hj
        go_wp2_with fail
        go_ret2
        exact ⟨by rw [HE.out]; rfl, hb⟩
end Go.Proofs.YtknilobmiandgaaDoor.Mq
