/-
  Contracts of NormalizeSpans, of the program and of the model.
-/
import Derived.Test.YthahgejgkjcebaaSpNs
import Derived.Test.YthahgejgkjcebaaSpNi
import Derived.Test.YthahgejgkjcebaaSpG
namespace Go.Proofs.Ythahgejgkjcebaa.SpN
open Go.RowKit SpPl Sp SpA SpG SpNs SpNi
set_option linter.unusedSimpArgs false
set_option linter.unusedVariables false

/-- what NormalizeSpans answers -/
def nrm (z : Bool) (L : List Sp1) : List Sp1 := if z then nmL L else []
theorem own_nil0 (w : World) : (w.alloc (.cells #[] 38)).ownsRow w.heap.size 38 3 (.slice (some ⟨w.heap.size, 0, none⟩) 0 0) 0 (pcells []) :=
  World.ownsRow_lit (base := w.heap.size) (e := 38) (size := 3) w #[] 0 (Nat.le_refl _) (by decide) (by simp)
theorem nrm_len {z : Bool} {L R : List Sp1} (hr : nrm z L = R) : R.length ≤ L.length := by
  cases z with
  | false => rw [← hr]; exact Nat.zero_le _
  | true => rw [← hr]; exact (nm_facts L).2

set_option maxHeartbeats 1000000 in
theorem norms_i (A : Option Addr) (c N : Nat) (L : List Sp1) (z : Bool) (R : List Sp1) (w : World) (h : RdSp w A L) (hn : L.length = N) (hN : N ≤ 1048576) (hs : szL L ≤ 1048576) (hz : okS L = z) (hr : nrm z L = R) :
    Calls Try.prog 8 #[.slice A N c] w fun e w' => ∃ v, e = .returned (.tuple #[v, .bool z]) ∧ w'.ownsRow w.heap.size 38 3 v R.length (pcells R) ∧ Below w.heap.size w w' := by
  have HG := Lib.hid (good_i A c N L z w h hn hN hs hz)
  cases z with
  | false =>
    obtain rfl : R = [] := hr.symm
    clear h hz hr
    go_enter Try.func8, Try.ntmps8
    go_wp2_with fail
    refine HG.out.mono ?_
    rintro e w1 ⟨rfl, b1⟩
    have ho := row_base' b1.size (own_nil0 w1)
    have hb := b1.trans ((box_below w1 (.cells #[] 38)).mono b1.size)
    go_wp2_with fail
    go_ret2
    exact ⟨_, rfl, ho, hb⟩
  | true =>
    have HR : Hid (nmL L = R) := Lib.hid hr
    have HM := Lib.hid (fun w' (hb : Below w.heap.size w w') => normal_i A c N L w' (h.below hb) hn hN hs)
    rw [HR.out] at HM
    clear h hz hr
    go_enter Try.func8, Try.ntmps8
    go_wp2_with fail
    refine HG.out.mono ?_
    rintro e w1 ⟨rfl, b1⟩
    go_wp2_with fail
    refine (HM.out _ b1).mono ?_
    rintro e w2 ⟨v, rfl, o2, b2⟩
    have hb := b1.trans (b2.mono b1.size)
    have ho := row_base' b1.size o2
    obtain ⟨A2, c2, rfl, _, _, _⟩ := own_rdp o2
    clear b1 b2 o2
    go_wp2_with fail
    go_ret2
    exact ⟨_, rfl, ho, hb⟩

set_option maxHeartbeats 1000000 in
theorem norms_s (A : Option Addr) (c N : Nat) (L : List Sp1) (z : Bool) (R : List Sp1) (w : World) (h : RdSp w A L) (hn : L.length = N) (hN : N ≤ 1048576) (hs : szL L ≤ 1048576) (hz : okS L = z) (hr : nrm z L = R) :
    Calls Try.prog 6 #[.slice A N c] w fun e w' => ∃ v, e = .returned (.tuple #[v, .bool z]) ∧ w'.ownsRow w.heap.size 38 3 v R.length (pcells R) ∧ Below w.heap.size w w' := by
  have HG := Lib.hid (good_s A c N L z w h hn hN hs hz)
  cases z with
  | false =>
    obtain rfl : R = [] := hr.symm
    clear h hz hr
    go_enter Try.func6, Try.ntmps6
    go_wp2_with fail
    refine HG.out.mono ?_
    rintro e w1 ⟨rfl, rfl⟩
    have ho := own_nil0 w
    have hb := box_below w (.cells #[] 38)
    go_wp2_with fail
    go_ret2
    exact ⟨_, rfl, ho, hb⟩
  | true =>
    have HR : Hid (nmL L = R) := Lib.hid hr
    have HM := Lib.hid (normal_s A c N L w h hn hN hs)
    rw [HR.out] at HM
    clear h hz hr
    go_enter Try.func6, Try.ntmps6
    go_wp2_with fail
    refine HG.out.mono ?_
    rintro e w1 ⟨rfl, rfl⟩
    go_wp2_with fail
    refine HM.out.mono ?_
    rintro e w2 ⟨v, rfl, o2, b2⟩
    obtain ⟨A2, c2, rfl, _, _, _⟩ := own_rdp o2
    have ho := o2
    clear o2
    go_wp2_with fail
    go_ret2
    exact ⟨_, rfl, ho, b2⟩
end Go.Proofs.Ythahgejgkjcebaa.SpN
