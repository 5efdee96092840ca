/-
  Contract of the model's EndWith.
-/
import Derived.Test.YtnijmhhigkbddaaDoorMqE
namespace Go.Proofs.YtnijmhhigkbddaaDoor.Mq
open Go.RowKit Pl NmPl MqPl
set_option linter.unusedSimpArgs false
set_option linter.unusedVariables false

theorem ext_k (t : ByteArray) (k : Nat) (h1 : t.size = k + 1) (hk : k < t.size) : t.data.toList = (t.extract 0 k).data.toList ++ [t[k]] := by
  rw [extract_list, toList_ba, List.drop_zero, ← take_snoc t k hk, take_all t _ (by omega)]
theorem eqL_k (t : ByteArray) (k : Nat) (h1 : t.size = k + 2) (hk : k < t.size) (hk1 : k + 1 < t.size) : eqL t.data.toList = ((34 == t[k + 1]) && ((46 == t[k]) || (33 == t[k]) || (63 == t[k]))) := by
  have e1 := take_snoc t (k + 1) hk1
  rw [take_all t _ (by omega), take_snoc t k hk] at e1
  rw [e1, eqL_two]
theorem eqL_1 (t : ByteArray) (h1 : t.size = 1) (hk : 0 < t.size) : eqL t.data.toList = false := by
  have e1 := take_snoc t 0 hk
  rw [take_all t _ (by omega)] at e1
  rw [e1]
  exact eqL_one _
theorem beq_c (n c : UInt8) : (n == c) = ((c.toNat : Int) == (n.toNat : Int)) := by
  rw [Bool.eq_iff_iff, beq_iff_eq, beq_iff_eq]
  constructor
  · rintro rfl; rfl
  · intro h; exact UInt8.toNat_inj.1 (by omega)
set_option maxHeartbeats 8000000 in
theorem ends_s (s : ByteArray) (c : UInt8) (w : World) (hs : s.size ≤ 1048576) :
    Calls Tryd.prog 13 #[.string s, .int .u8 c.toNat] w fun e w' => e = .returned (ewV s c) ∧ Below w.heap.size w w' := by
  have HA := Lib.hid (fun r h w => text_s s r w hs h)
  obtain ⟨zc, hzc, hdc⟩ := isM_z (c := c) rfl
  have HB := Lib.hid (fun w => mark_s c zc w hzc)
  clear hzc
  cases h1 : okX s.data.toList with
  | false =>
    have HE : Hid (ewV s c = .tuple #[.string ⟨#[]⟩, .bool false]) := Lib.hid (by unfold ewV; rw [if_neg (by simp [h1])])
    have HA' := Lib.hid (HA.out false h1)
    clear h1 HA hdc
    go_enter Tryd.func13, Tryd.ntmps13
    go_wp2_with fail
    refine (HA'.out _).mono ?_
    rintro e w' ⟨rfl, rfl⟩
    go_wp2_with fail
    go_ret2
    exact ⟨by rw [HE.out]; rfl, Below.refl _ _⟩
  | true =>
    have HA' := Lib.hid (HA.out true h1)
    cases h2 : isM c with
    | false =>
      have HE : Hid (ewV s c = .tuple #[.string ⟨#[]⟩, .bool false]) := Lib.hid (by unfold ewV; rw [if_neg (by simp [h2])])
      rw [h2] at hdc
      simp only [Bool.not_false] at hdc
      clear h1 h2 HA
      go_enter Tryd.func13, Tryd.ntmps13
      go_wp2_with fail
      refine (HA'.out _).mono ?_
      rintro e w' ⟨rfl, rfl⟩
      go_wp2_with fail
      refine (HB.out _).mono ?_
      rintro e w' ⟨rfl, rfl⟩
      go_wp2_with fail
      go_ret2
      exact ⟨by rw [HE.out]; rfl, Below.refl _ _⟩
    | true =>
      have HE0 : Hid (ewV s c = if c = 46 ∧ eqL (trB s).data.toList = true then .tuple #[.string (trB s), .bool true] else .tuple #[.string (jB (trB s) (ba [c])), .bool true]) := Lib.hid (by unfold ewV; rw [if_pos ⟨h1, h2⟩])
      have hco := one_str c
      have hcs : (ba [c]).size ≤ 1048576 := by rw [ba_size]; show 1 ≤ 1048576; omega
      have HJ := Lib.hid (fun (t : ByteArray) w (h : t.size ≤ 1048576) => l11Two_s t (ba [c]) w h hcs)
      rw [h2] at hdc
      simp only [Bool.not_true] at hdc
      clear h1 h2 HA hcs
      go_enter Tryd.func13, Tryd.ntmps13
      go_wp2_with fail
      refine (HA'.out _).mono ?_
      rintro e w' ⟨rfl, rfl⟩
      go_wp2_with fail
      refine (HB.out _).mono ?_
      rintro e w' ⟨rfl, rfl⟩
      go_wp2_with fail
      go_loop [0] (fun v => ∃ t : ByteArray, v = .string t ∧ t.size ≤ s.size ∧ Hid (Lib.trimRightB t.data.toList 32 = Lib.trimRightB s.data.toList 32)) (fun v => Lib.strSize v)
      case atStart => exact ⟨s, rfl, Nat.le_refl _, Lib.hid rfl⟩
      case round =>
        obtain ⟨t, rfl, hts, HR⟩ := hrel
        have hts2 : t.size ≤ 1048576 := by omega
        have HJt := Lib.hid (fun w => HJ.out t w hts2)
        by_cases h0 : 0 < t.size
        · obtain ⟨k, hk⟩ : ∃ k, t.size = k + 1 := ⟨t.size - 1, by omega⟩
          have hkt : k < t.size := by omega
          have hw1 : IntKind.i64.wrap ((t.size : Int) - 1) = (k : Int) := by rw [IntWalk.i64_in _ (by omega)]; omega
          have hk2 : (k : Int) ≤ (t.size : Int) := by omega
          have HX := Lib.hid (ext_k t k hk hkt)
          obtain ⟨e1, e2⟩ := Kt.ne_str h0
          have HK := Lib.hid hk
          by_cases h32 : t[k] = 32
          · have hb : ((t[k].toNat : Int) == 32) = true := by rw [h32]; rfl
            have HR2 : Hid (Lib.trimRightB (t.extract 0 k).data.toList 32 = Lib.trimRightB s.data.toList 32) := Lib.hid (by
              rw [← HR.out, HX.out, h32, tr_hit])
            have HZ : Hid ((t.extract 0 k).size = k) := Lib.hid (by rw [extract_list, ba_size, List.drop_zero, take_len t k (by omega)])
            clear h32 hk
            go_wp2_with fail
            go_round
            case rel => exact ⟨_, rfl, by rw [HZ.out]; omega, HR2⟩
            case measure => rw [Lib.strSize_string, Lib.strSize_string, HZ.out, HK.out]; omega
          · have hb : ((t[k].toNat : Int) == 32) = false := u8_ne (c := 32) h32
            have HT : Hid (trB s = t) := Lib.hid (by unfold trB; rw [← HR.out, HX.out, tr_miss _ h32, ← HX.out, ba_toList])
            rw [HT.out] at HE0
            clear h32 hk
            rcases k with _ | j
            · have h1 : t.size = 1 := HK.out
              have HE : Hid (ewV s c = .tuple #[.string (jB t (ba [c])), .bool true]) := Lib.hid (by rw [HE0.out, if_neg (by rw [eqL_1 t h1 hkt]; simp)])
              have hg : decide ((1 : Int) < (t.size : Int)) = false := by simp; omega
              clear h1
              go_wp2_with fail
              refine (HJt.out _).mono ?_
              rintro e w1 ⟨rfl, b1⟩
              go_wp2_with fail
              go_ret2
              exact ⟨by rw [HE.out]; rfl, Below.trans ((Below.refl _ w).alloc (Nat.le_refl _) _) (b1.mono (by simp))⟩
            · have hjt : j < t.size := by omega
              have hw2 : IntKind.i64.wrap ((t.size : Int) - 2) = (j : Int) := by rw [IntWalk.i64_in _ (by have := HK.out; omega)]; have := HK.out; omega
              have hg : decide ((1 : Int) < (t.size : Int)) = true := by have := HK.out; simp; omega
              have HQ := Lib.hid (eqL_k t j HK.out hjt hkt)
              rw [beq_c, beq_c, beq_c, beq_c] at HQ
              have HC : Hid (∀ q : Bool, ((c.toNat : Int) == 46) = q → (c = 46 ↔ q = true)) := Lib.hid (fun q hq => by
                have e : ((46 : UInt8) == c) = q := (beq_c 46 c).trans hq
                rw [← e, beq_iff_eq]; exact ⟨fun h => h.symm, fun h => h.symm⟩)
              change Hid (eqL t.data.toList = (((t[j + 1].toNat : Int) == 34) && (((t[j].toNat : Int) == 46) || ((t[j].toNat : Int) == 33) || ((t[j].toNat : Int) == 63)))) at HQ
              cases q1 : ((t[j + 1].toNat : Int) == 34)
              case false =>
                have HE : Hid (ewV s c = .tuple #[.string (jB t (ba [c])), .bool true]) := Lib.hid (by rw [HE0.out, if_neg (by rw [HQ.out, q1]; simp)])
                go_wp2_with fail
                refine (HJt.out _).mono ?_
                rintro e w1 ⟨rfl, b1⟩
                go_wp2_with fail
                go_ret2
                exact ⟨by rw [HE.out]; rfl, Below.trans ((Below.refl _ w).alloc (Nat.le_refl _) _) (b1.mono (by simp))⟩
              case true =>
                cases q2 : ((c.toNat : Int) == 46)
                case false =>
                  have HE : Hid (ewV s c = .tuple #[.string (jB t (ba [c])), .bool true]) := Lib.hid (by rw [HE0.out, if_neg (fun h => by have := (HC.out _ q2).1 h.1; cases this)])
                  go_wp2_with fail
                  refine (HJt.out _).mono ?_
                  rintro e w1 ⟨rfl, b1⟩
                  go_wp2_with fail
                  go_ret2
                  exact ⟨by rw [HE.out]; rfl, Below.trans ((Below.refl _ w).alloc (Nat.le_refl _) _) (b1.mono (by simp))⟩
                case true =>
                  have hc46 := (HC.out _ q2).2 rfl
                  cases q3 : ((t[j].toNat : Int) == 46)
                  case true =>
                    have HE : Hid (ewV s c = .tuple #[.string t, .bool true]) := Lib.hid (by rw [HE0.out, if_pos ⟨hc46, by rw [HQ.out, q1, q3]; rfl⟩])
                    clear hc46
                    go_wp2_with fail
                    go_ret2
                    exact ⟨by rw [HE.out]; rfl, Below.refl _ _⟩
                  case false =>
                    cases q4 : ((t[j].toNat : Int) == 33)
                    case true =>
                      have HE : Hid (ewV s c = .tuple #[.string t, .bool true]) := Lib.hid (by rw [HE0.out, if_pos ⟨hc46, by rw [HQ.out, q1, q3, q4]; rfl⟩])
                      clear hc46
                      go_wp2_with fail
                      go_ret2
                      exact ⟨by rw [HE.out]; rfl, Below.refl _ _⟩
                    case false =>
                      cases q5 : ((t[j].toNat : Int) == 63)
                      case true =>
                        have HE : Hid (ewV s c = .tuple #[.string t, .bool true]) := Lib.hid (by rw [HE0.out, if_pos ⟨hc46, by rw [HQ.out, q1, q3, q4, q5]; rfl⟩])
                        clear hc46
                        go_wp2_with fail
                        go_ret2
                        exact ⟨by rw [HE.out]; rfl, Below.refl _ _⟩
                      case false =>
                        have HE : Hid (ewV s c = .tuple #[.string (jB t (ba [c])), .bool true]) := Lib.hid (by rw [HE0.out, if_neg (by rw [HQ.out, q1, q3, q4, q5]; simp)])
                        clear hc46
                        go_wp2_with fail
                        refine (HJt.out _).mono ?_
                        rintro e w1 ⟨rfl, b1⟩
                        go_wp2_with fail
                        go_ret2
                        exact ⟨by rw [HE.out]; rfl, Below.trans ((Below.refl _ w).alloc (Nat.le_refl _) _) (b1.mono (by simp))⟩
        · obtain rfl := Kt.nil_str h0
          have HT : Hid (trB s = ⟨#[]⟩) := Lib.hid (by unfold trB; rw [← HR.out]; rfl)
          rw [HT.out] at HE0
          have HE : Hid (ewV s c = .tuple #[.string (jB ⟨#[]⟩ (ba [c])), .bool true]) := Lib.hid (by rw [HE0.out, if_neg (fun h => absurd h.2 (by decide))])
          go_wp2_with fail
          refine (HJt.out _).mono ?_
          rintro e w1 ⟨rfl, b1⟩
          go_wp2_with fail
          go_ret2
          exact ⟨by rw [HE.out]; rfl, Below.trans ((Below.refl _ w).alloc (Nat.le_refl _) _) (b1.mono (by simp))⟩
end Go.Proofs.YtnijmhhigkbddaaDoor.Mq
