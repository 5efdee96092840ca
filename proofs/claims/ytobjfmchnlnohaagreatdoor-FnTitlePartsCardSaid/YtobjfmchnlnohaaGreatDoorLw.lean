/-
  Contract of l6Words of the model: the words of a title.
-/
import Derived.Test.YtobjfmchnlnohaaGreatDoorRows
import Derived.Test.YtobjfmchnlnohaaGreatDoorWdPl
import Derived.Test.YtobjfmchnlnohaaGreatDoorCs
import Derived.WalkKit
import Derived.LoopTactic
import Derived.Lib.Hide
import Derived.Maps.AppendAt
import Derived.RangeFuncBox
namespace Go.Proofs.YtobjfmchnlnohaaGreatDoor.Lw
open Go.RowKit Pl TiPl Cs
set_option linter.unusedVariables false
set_option linter.unusedSimpArgs false

theorem row_hit {w : World} {base : Nat} {e : TypeId} {v : Value} (s : ByteArray) (k f : Nat) (hk : k ≤ s.size) (hf : f + (wdC (s.data.toList.take k)).length = k)
    (h : w.ownsRow base e 1 v ((wdD (s.data.toList.take k)).length + 1) (cs (wdD (s.data.toList.take k)) ++ [.string (s.extract f k)])) {l : List (List UInt8)} (hl : l = wdD (s.data.toList.take k) ++ [wdC (s.data.toList.take k)]) :
    w.ownsRow base e 1 v l.length (cs l) := by
  rw [wdC_extract s k f hk hf, ← cs_snoc] at h
  subst hl
  simpa using h

set_option maxHeartbeats 4000000 in
theorem l6Words_any (s : ByteArray) (w : World) (hs : s.size ≤ 1048576) :
    Calls Tryz.prog 24 #[.string s] w fun e w' => ∃ v, e = .returned v ∧ w'.ownsRow w.heap.size 9 1 v (words s.data.toList).length (cs (words s.data.toList)) ∧ Below w.heap.size w w' := by
  obtain ⟨i0, hi, hz0, hz1, hz2⟩ := info_parts infoStr
  go_enter Tryz.func24, Tryz.ntmps24
  go_wp2
  go_loopw [3, 4, 5, 6] (fun v fr p i wr => ∃ (k f : Nat) (q : Bool), k ≤ s.size ∧ i = .int .i64 k ∧ fr = .int .i64 f ∧ p = .bool q ∧ f ≤ k ∧ Hid (q = st false (s.data.toList.take k)) ∧ Hid (f + (wdC (s.data.toList.take k)).length = k) ∧
      wr.ownsRow w.heap.size 9 1 v (wdD (s.data.toList.take k)).length (cs (wdD (s.data.toList.take k))) ∧ Below w.heap.size w wr) (fun _ _ _ i _ => s.size - (intOf i).toNat)
  case atStart => exact ⟨0, 0, false, Nat.zero_le _, rfl, rfl, rfl, Nat.le_refl _, Lib.hid rfl, Lib.hid rfl, World.ownsRow_lit w #[] 0 (Nat.le_refl _) (Nat.zero_le _) rfl, (Below.refl _ _).alloc (Nat.le_refl _) _⟩
  case round =>
    obtain ⟨k, f, q, hk, rfl, rfl, rfl, hf, HQ, HF, hown, hbe⟩ := hrel
    have hbs := hbe.size
    have hle := wdC_le (s.data.toList.take k)
    rw [take_len s k hk] at hle
    by_cases hlt : k < s.size
    · have HT := Lib.hid (take_snoc s k hlt)
      have hcl := s[k].toNat_lt
      have HS := Lib.hid (st_snoc false (s.data.toList.take k) s[k])
      by_cases h1 : s[k].toNat = 123
      · have HX := Lib.hid h1
        have hb1 : ((s[k].toNat : Int) == 123) = true := by simp [h1]
        clear h1
        go_wp2_with fail
        go_roundw
        case rel =>
          have e : s.data.toList.take (k + 1) = s.data.toList.take k ++ [s[k]] := HT.out
          obtain ⟨e1, e2⟩ := wd_miss (l := s.data.toList.take k) (c := s[k]) (fun h => by have := h.2; have := HX.out; omega)
          refine ⟨k + 1, f, true, by omega, by go_num, rfl, rfl, by omega, Lib.hid (by rw [e, HS.out, stp_open HX.out]), Lib.hid (by have := HF.out; rw [e, e2]; simp; omega), ?_, hbe⟩
          rw [e, e1]; exact hown
        case measure => simp [intOf]; omega
      · have hb1 : ((s[k].toNat : Int) == 123) = false := by simp; omega
        by_cases h3 : s[k].toNat = 125
        · have HX := Lib.hid h3
          have HN := Lib.hid h1
          have hb3 : ((s[k].toNat : Int) == 125) = true := by simp [h3]
          clear h1 h3
          go_wp2_with fail
          go_roundw
          case rel =>
            have e : s.data.toList.take (k + 1) = s.data.toList.take k ++ [s[k]] := HT.out
            obtain ⟨e1, e2⟩ := wd_miss (l := s.data.toList.take k) (c := s[k]) (fun h => by have := h.2; have := HX.out; omega)
            refine ⟨k + 1, f, false, by omega, by go_num, rfl, rfl, by omega, Lib.hid (by rw [e, HS.out, stp_shut HX.out]), Lib.hid (by have := HF.out; rw [e, e2]; simp; omega), ?_, hbe⟩
            rw [e, e1]; exact hown
          case measure => simp [intOf]; omega
        · have hb3 : ((s[k].toNat : Int) == 125) = false := by simp; omega
          have HP : Hid (stp (st false (s.data.toList.take k)) s[k] = st false (s.data.toList.take k)) := Lib.hid (stp_else h1 h3)
          clear h1 h3
          by_cases h2 : s[k].toNat = 32
          · have HX := Lib.hid h2
            have hb2 : ((s[k].toNat : Int) == 32) = true := by simp [h2]
            clear h2
            cases q with
            | true =>
              go_wp2_with fail
              go_roundw
              case rel =>
                have e : s.data.toList.take (k + 1) = s.data.toList.take k ++ [s[k]] := HT.out
                obtain ⟨e1, e2⟩ := wd_miss (l := s.data.toList.take k) (c := s[k]) (fun h => by have := HQ.out; rw [h.1] at this; cases this)
                refine ⟨k + 1, f, true, by omega, by go_num, rfl, rfl, by omega, Lib.hid (by rw [e, HS.out, HP.out]; exact HQ.out), Lib.hid (by have := HF.out; rw [e, e2]; simp; omega), ?_, hbe⟩
                rw [e, e1]; exact hown
              case measure => simp [intOf]; omega
            | false =>
              go_wp2_with (first | (at_builtin; refine wpList_append_own _ rfl _ _ 26 rfl w.heap.size 9 i0 (.string ByteArray.empty) 1 16 Tryz.underlying26 hi hz0 hz1 hz2 rfl (by decide) _ _ _ rfl (hown.alloc _) ⟨wr.heap.size, 0, none⟩ 1 1 [.string (s.extract f k)] rfl rfl (cell_one_new _ _ _) (by simp [Value.oneCell']) (by unfold maxLen; omega) (by omega) (by simp; omega) ?_; intro v' w1 hown' hgrow _) | go_in)
              go_roundw
              case rel =>
                have e : s.data.toList.take (k + 1) = s.data.toList.take k ++ [s[k]] := HT.out
                obtain ⟨e1, e2⟩ := wd_hit (l := s.data.toList.take k) (c := s[k]) HQ.out.symm HX.out
                refine ⟨k + 1, k + 1, false, by omega, by go_num, by go_num, rfl, Nat.le_refl _, Lib.hid (by rw [e, HS.out, HP.out]; exact HQ.out), Lib.hid (by rw [e, e2]; rfl), ?_, ?_⟩
                · exact row_hit s k f hk HF.out hown' (by rw [e, e1])
                · exact (hbe.alloc hbs _).grown hgrow (by simp; omega) (fun g hg => (hown.lt g hg).1)
              case measure => simp [intOf]; omega
          · have HX := Lib.hid h2
            have hb2 : ((s[k].toNat : Int) == 32) = false := by simp; omega
            clear h2
            go_wp2_with fail
            go_roundw
            case rel =>
              have e : s.data.toList.take (k + 1) = s.data.toList.take k ++ [s[k]] := HT.out
              obtain ⟨e1, e2⟩ := wd_miss (l := s.data.toList.take k) (c := s[k]) (fun h => HX.out h.2)
              refine ⟨k + 1, f, q, by omega, by go_num, rfl, rfl, by omega, Lib.hid (by rw [e, HS.out, HP.out]; exact HQ.out), Lib.hid (by have := HF.out; rw [e, e2]; simp; omega), ?_, hbe⟩
              rw [e, e1]; exact hown
            case measure => simp [intOf]; omega
    · have HE := Lib.hid (take_all s k (by omega))
      obtain rfl : k = s.size := by omega
      go_wp2_with (first | (at_builtin; refine wpList_append_own _ rfl _ _ 26 rfl w.heap.size 9 i0 (.string ByteArray.empty) 1 16 Tryz.underlying26 hi hz0 hz1 hz2 rfl (by decide) _ _ _ rfl (hown.alloc _) ⟨wr.heap.size, 0, none⟩ 1 1 [.string (s.extract f s.size)] rfl rfl (cell_one_new _ _ _) (by simp [Value.oneCell']) (by unfold maxLen; omega) (by omega) (by simp; omega) ?_; intro v' w1 hown' hgrow _) | go_in)
      go_ret
      refine ⟨_, rfl, ?_, (hbe.alloc hbs _).grown hgrow (by simp; omega) (fun g hg => (hown.lt g hg).1)⟩
      exact row_hit s s.size f hk HF.out hown' (by rw [HE.out]; rfl)
end Go.Proofs.YtobjfmchnlnohaaGreatDoor.Lw
