/-
  Contract of spec.ParseDate.
-/
import Derived.Test.YtjdnkjobccnmlaaDoorPds
namespace Go.Proofs.YtjdnkjobccnmlaaDoor.Pd
open Go.RowKit Pl Stands SplitPl NmPl ReadPl DtPl Dt DtTx PdPl Num DtF _root_.Go.Proofs.YtjdnkjobccnmlaaDoor.Read
set_option linter.unusedSimpArgs false
set_option linter.unusedVariables false

set_option maxHeartbeats 1000000 in
theorem specParse (s : ByteArray) (w : World) (hs : s.size ≤ 1048576) :
    Calls Tryd.prog 12 #[.string s] w fun e w' => ∃ v, AnsD s v ∧ e = .returned v ∧ Below w.heap.size w w' := by
  have HB := Lib.hid (box_below w (.cells #[.int .i64 0, .int .i64 0, .int .i64 0, .bool false] 23))
  have HZ := Lib.hid (D4F.new w 0 0 0 false 23)
  have HM := Lib.hid (fun w => modelParse s w hs)
  clear hs
  go_enter Tryd.func12, Tryd.ntmps12
  go_wp2_with fail
  refine (HM.out _).mono ?_
  rintro e w1 ⟨v, hv, rfl, b1⟩
  obtain ⟨y, m, d, c, r, rfl⟩ := hv.form
  have HV := Lib.hid hv
  have k1 := HB.out.trans (b1.mono HB.out.size)
  obtain ⟨⟨hl, z0, z1, z2, z3⟩, f0, f1, f2, f3⟩ := D4F.below b1 HZ.out
  clear b1 hv
  go_wp2_with fail
  exact bodyPost_ret (v := .tuple #[dtV y m d c, .bool r]) (by simp [results, Tryd.results12, go_sem, *]) rfl ⟨_, HV.out, rfl, set4 k1 (Nat.le_refl _)⟩
end Go.Proofs.YtjdnkjobccnmlaaDoor.Pd
