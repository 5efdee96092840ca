/-
  Contract of the model's ParseInverse.
-/
import Derived.Test.YtdnccgnploifkaaPs
namespace Go.Proofs.Ytdnccgnploifkaa.Pi
open Go.RowKit Pl Strs Help Name Stands SplitPl NmPl Word Part NGood Forms
set_option linter.unusedSimpArgs false
set_option linter.unusedVariables false

set_option maxRecDepth 100000 in
set_option maxHeartbeats 4000000 in
theorem specPi (s : ByteArray) (w : World) (hs : s.size ≤ 1048576) :
    Calls Try.prog 4 #[.string s] w (Ans s w) := by
  have HB := Lib.hid ((Below.refl _ w).alloc (Nat.le_refl _) (.cells #[.slice none 0 0, .string ⟨#[]⟩, .string ⟨#[]⟩, .string ⟨#[]⟩] 24))
  have HX := Lib.hid (C4.new w (.slice none 0 0) ⟨#[]⟩ ⟨#[]⟩ ⟨#[]⟩ 24)
  have HZ := Lib.hid (Nz.new w #[.slice none 0 0, .string ⟨#[]⟩, .string ⟨#[]⟩, .string ⟨#[]⟩] 24)
  have HS := Lib.hid (fun w => l2Parse s w hs)
  unfold Ans
  go_enter Try.func4, Try.ntmps4
  go_wp2_with fail
  generalize w.alloc (.cells #[.slice none 0 0, .string ⟨#[]⟩, .string ⟨#[]⟩, .string ⟨#[]⟩] 24) = w0 at HB HX HZ ⊢
  refine (HS.out _).mono ?_
  rintro e w1 ⟨v, xs, p, f, u, r, rfl, hpi, ho, hb⟩
  have HX1 := HX.out.below hb
  have HZ1 := HZ.out.below hb
  have k1 := HB.out.trans (hb.mono HB.out.size)
  have h0 : w.heap.size + 1 ≤ w0.heap.size := HX.out.1
  have o1 := row_le' h0 ho
  obtain ⟨A, c, rfl, -, -, -⟩ := Strs.own_rds o1
  clear HS HX HZ HB hb ho h0
  obtain ⟨r0, x0, x1, x2, x3⟩ := HX1
  have g0 := HZ1.frozen 0 none
  have g1' := HZ1.frozen 1 none
  have g2' := HZ1.frozen 2 none
  have g3 := HZ1.frozen 3 none
  go_wp2_with fail
  exact bodyPost_ret (v := .tuple #[.agg #[.slice A xs.length c, .string p, .string f, .string u], .bool r]) (by simp [results, Try.results4, go_sem, *]) rfl ⟨_, xs, p, f, u, r, rfl, hpi, row_le' (Nat.le_succ _) (own4 o1 (Nat.lt_succ_self _)), bel4 k1 (Nat.le_refl _)⟩
end Go.Proofs.Ytdnccgnploifkaa.Pi
