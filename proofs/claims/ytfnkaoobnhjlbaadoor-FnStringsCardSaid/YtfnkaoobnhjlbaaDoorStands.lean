/-
  Contract of spec.l1Stands.
-/
import Derived.Test.YtfnkaoobnhjlbaaDoorRows
import Derived.Test.YtfnkaoobnhjlbaaDoorPlain
import Derived.Test.YtfnkaoobnhjlbaaDoorStPl
import Derived.WalkKit
import Derived.LoopTactic
import Derived.Lib.Hide
import Derived.Lib.IndexLaws
import Derived.Lib.Bytealg
namespace Go.Proofs.YtfnkaoobnhjlbaaDoor.Stands
open Go.RowKit Pl

set_option maxHeartbeats 400000 in
theorem l1Stands_any (s : ByteArray) (b : UInt8) (w : World) (hs : s.size ≤ maxLen) :
    Calls Tryd.prog 69 #[.string s, .int .u8 b.toNat] w fun e w' => e = .returned (.bool (stB b s.data.toList)) ∧ w = w' := by
  unfold maxLen at hs
  go_enter Tryd.func69, Tryd.ntmps69
  go_wp2
  go_loop [5] (fun i => ∃ k : Nat, k ≤ s.size ∧ i = .int .i64 k ∧ Hid (stB b (s.data.toList.take k) = false)) (fun i => s.size - (intOf i).toNat)
  case atStart => exact ⟨0, Nat.zero_le _, rfl, Lib.hid rfl⟩
  case round =>
    obtain ⟨k, hk, rfl, HF⟩ := hrel
    by_cases hlt : k < s.size
    · have HT := Lib.hid (take_snoc s k hlt)
      by_cases hx : s[k] = b
      · have hq : ((s[k].toNat : Int) == (b.toNat : Int)) = true := by simp [hx]
        have HE : Hid (stB b s.data.toList = true) := by
          refine Lib.hid ?_
          unfold stB
          rw [List.contains_iff_mem, ← hx]
          exact Array.mem_toList_iff.2 (Array.getElem_mem (xs := s.data) hlt)
        clear hx
        go_wp2
        go_ret
        exact ⟨by rw [HE.out]; rfl, rfl⟩
      · have HX := Lib.hid hx
        have hq : ((s[k].toNat : Int) == (b.toNat : Int)) = false := by
          rw [beq_eq_false_iff_ne]; intro h; exact hx (UInt8.toNat_inj.1 (by omega))
        clear hx
        go_wp2
        go_round
        case rel => exact ⟨k + 1, by omega, by go_num, Lib.hid (by rw [HT.out, stB_snoc, HF.out]; simpa using HX.out)⟩
        case measure => simp [intOf]; omega
    · have HE : Hid (stB b s.data.toList = false) := by rw [← take_all s k (by omega)]; exact HF
      go_wp2
      go_ret
      exact ⟨by rw [HE.out]; rfl, rfl⟩
end Go.Proofs.YtfnkaoobnhjlbaaDoor.Stands
