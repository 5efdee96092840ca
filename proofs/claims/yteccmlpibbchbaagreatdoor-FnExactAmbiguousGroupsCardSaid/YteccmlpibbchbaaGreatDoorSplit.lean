/-
  Contracts of spec.l1Split and spec.SplitString.
-/
import Derived.Test.YteccmlpibbchbaaGreatDoorRows
import Derived.Test.YteccmlpibbchbaaGreatDoorPlain
import Derived.WalkKit
import Derived.LoopTactic
import Derived.Lib.Hide
import Derived.Maps.AppendAt
import Derived.RangeFuncBox
namespace Go.Proofs.YteccmlpibbchbaaGreatDoor.Split
open Go.RowKit Pl

theorem infoStr : (Tryz.prog.info? 9).map (fun i => (i.zero, i.size, i.bytes)) = some (some (.string ByteArray.empty), 1, 16) := by kernel_rfl

/-- strings as cells -/
def cs (l : List (List UInt8)) : List Value := l.map fun x => .string (ba x)

theorem cs_snoc (l : List (List UInt8)) (x : List UInt8) : cs (l ++ [x]) = cs l ++ [.string (ba x)] := by simp [cs]
theorem cut_of (b : UInt8) (s : ByteArray) (k f : Nat) (hk : k ≤ s.size) (hf : f + (spC b (s.data.toList.take k)).length = k) : s.extract f k = ba (spC b (s.data.toList.take k)) := by
  have := spC_extract b s k hk
  rwa [show k - (spC b (s.data.toList.take k)).length = f from by omega] at this
theorem row_hit {w : World} {base : Nat} {e : TypeId} {v : Value} (b : UInt8) (s : ByteArray) (k f : Nat) (hk : k ≤ s.size) (hf : f + (spC b (s.data.toList.take k)).length = k)
    (h : w.ownsRow base e 1 v ((spD b (s.data.toList.take k)).length + 1) (cs (spD b (s.data.toList.take k)) ++ [.string (s.extract f k)])) {l : List (List UInt8)} (hl : l = spD b (s.data.toList.take k) ++ [spC b (s.data.toList.take k)]) :
    w.ownsRow base e 1 v l.length (cs l) := by
  rw [cut_of b s k f hk hf, ← cs_snoc] at h
  subst hl
  simpa using h

set_option maxHeartbeats 1000000 in
theorem l1Split_any (s : ByteArray) (b : UInt8) (w : World) (hs : s.size ≤ 1073741824) :
    Calls Tryz.prog 128 #[.string s, .int .u8 b.toNat] w fun e w' => ∃ v, e = .returned v ∧ w'.ownsRow w.heap.size 9 1 v (split b s.data.toList).length (cs (split b s.data.toList)) ∧ Below w.heap.size w w' := by
  obtain ⟨i0, hi, hz0, hz1, hz2⟩ := info_parts infoStr
  have hbb := b.toNat_lt
  go_enter Tryz.func128, Tryz.ntmps128
  go_wp2
  go_loopw [5, 6, 7] (fun v fr i wr => ∃ k f : Nat, k ≤ s.size ∧ i = .int .i64 k ∧ fr = .int .i64 f ∧ f ≤ k ∧ Hid (f + (spC b (s.data.toList.take k)).length = k) ∧
      wr.ownsRow w.heap.size 9 1 v (spD b (s.data.toList.take k)).length (cs (spD b (s.data.toList.take k))) ∧ Below w.heap.size w wr) (fun _ _ i _ => s.size - (intOf i).toNat)
  case atStart => exact ⟨0, 0, Nat.zero_le _, rfl, rfl, Nat.le_refl _, Lib.hid rfl, World.ownsRow_lit w #[] 0 (Nat.le_refl _) (Nat.zero_le _) rfl, (Below.refl _ _).alloc (Nat.le_refl _) _⟩
  case round =>
    obtain ⟨k, f, hk, rfl, rfl, hf, HF, hown, hbe⟩ := hrel
    have hbs := hbe.size
    have hle := spC_le b (s.data.toList.take k)
    rw [take_len s k hk] at hle
    by_cases hlt : k < s.size
    · have HT := Lib.hid (take_snoc s k hlt)
      by_cases hx : s[k] = b
      · have HX := Lib.hid hx
        have hq : ((s[k].toNat : Int) == (b.toNat : Int)) = true := by simp [hx]
        clear hx
        go_wp2_with (first
          | (at_builtin; refine wpList_append_own _ rfl _ _ 61 rfl w.heap.size 9 i0 (.string ByteArray.empty) 1 16 Tryz.underlying61 hi hz0 hz1 hz2 rfl (by decide) _ _ _ rfl (hown.alloc _) ⟨wr.heap.size, 0, none⟩ 1 1 [.string (s.extract f k)] rfl rfl (cell_one_new _ _ _) (by simp [Value.oneCell']) (by unfold maxLen; omega) (by omega) (by simp; omega) ?_; intro v' w1 hown' hgrow _)
          | go_in)
        go_roundw
        case rel =>
          have e : s.data.toList.take (k + 1) = s.data.toList.take k ++ [s[k]] := HT.out
          refine ⟨k + 1, k + 1, by omega, by go_num, by go_num, Nat.le_refl _, Lib.hid ?_, ?_, ?_⟩
          · rw [e, spC_hit b _ HX.out]; rfl
          · exact row_hit b s k f hk HF.out hown' (by rw [e, spD_hit b _ HX.out])
          · exact (hbe.alloc hbs _).grown hgrow (by simp; omega) (fun g hg => (hown.lt g hg).1)
        case measure => simp [intOf]; omega
      · have HX := Lib.hid hx
        have hq : ((s[k].toNat : Int) == (b.toNat : Int)) = false := by
          rw [beq_eq_false_iff_ne]; intro h; exact hx (UInt8.toNat_inj.1 (by omega))
        clear hx
        go_wp2
        go_roundw
        case rel =>
          have e : s.data.toList.take (k + 1) = s.data.toList.take k ++ [s[k]] := HT.out
          refine ⟨k + 1, f, by omega, by go_num, rfl, by omega, Lib.hid ?_, ?_, hbe⟩
          · have := HF.out; rw [e, spC_miss b _ HX.out]; simp; omega
          · rw [e, spD_miss b _ HX.out]; exact hown
        case measure => simp [intOf]; omega
    · have HE := Lib.hid (take_all s k (by omega))
      obtain rfl : k = s.size := by omega
      go_wp2_with (first
        | (at_builtin; refine wpList_append_own _ rfl _ _ 61 rfl w.heap.size 9 i0 (.string ByteArray.empty) 1 16 Tryz.underlying61 hi hz0 hz1 hz2 rfl (by decide) _ _ _ rfl (hown.alloc _) ⟨wr.heap.size, 0, none⟩ 1 1 [.string (s.extract f s.size)] rfl rfl (cell_one_new _ _ _) (by simp [Value.oneCell']) (by unfold maxLen; omega) (by omega) (by simp; omega) ?_; intro v' w1 hown' hgrow _)
        | go_in)
      go_ret
      refine ⟨_, rfl, ?_, (hbe.alloc hbs _).grown hgrow (by simp; omega) (fun g hg => (hown.lt g hg).1)⟩
      exact row_hit b s s.size f hk HF.out hown' (by rw [HE.out]; rfl)

end Go.Proofs.YteccmlpibbchbaaGreatDoor.Split
