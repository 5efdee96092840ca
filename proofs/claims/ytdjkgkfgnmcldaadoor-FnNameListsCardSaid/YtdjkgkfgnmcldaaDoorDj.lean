/-
  Drawing functions of chapter 2: DrawJoinNames.
-/
import Derived.Test.YtdjkgkfgnmcldaaDoorDnL2
import Derived.Test.YtdjkgkfgnmcldaaDoorAmong
namespace Go.Proofs.YtdjkgkfgnmcldaaDoor.StN
open Go.RowKit Pl Cur Draw0 Strs Help Name Nms
set_option linter.unusedVariables false
set_option linter.unusedSimpArgs false

/-- a list of names and a number -/
def DrawnL (w : World) (e : Ending) (w' : World) : Prop :=
  ∃ (Av : Option Addr) (nL cv : Nat) (L : List Nm) (z : Int), e = .returned (.tuple #[.slice Av nL cv, .int .i64 z]) ∧ nL = L.length ∧ GvL w' w.heap.size (.slice Av nL cv) L ∧ nL ≤ 5 ∧ (∀ x ∈ L, SmN x) ∧ 0 ≤ z ∧ z ≤ 5 ∧ Below w.heap.size w w'
theorem GvL.base {W : World} {B B' : Nat} {v : Value} {L : List Nm} (h : GvL W B v L) (hb : B' ≤ B) : GvL W B' v L := by
  have key : ∀ {e : TypeId} {s n : Nat} {v : Value} {xs : List Value}, W.ownsRow B e s v n xs → W.ownsRow B' e s v n xs := fun h => by
    refine ⟨h.1, ?_⟩
    rcases h.2 with h' | ⟨g, cap, cur, e1, e2, e3⟩
    · exact .inl h'
    · exact .inr ⟨g, cap, cur, e1, Nat.le_trans hb e2, e3⟩
  exact ⟨key h.1, fun x hx => ⟨(h.2 x hx).1, key (h.2 x hx).2⟩⟩
set_option maxHeartbeats 4000000 in
theorem drawJoin_any (A : Option Addr) (n c : Nat) (w : World) (hn : n ≤ 65536) (hr : RdB w A n) (ha : Apart A n w.heap.size) :
    Calls Tryd.prog 5 #[.slice A n c] w (DrawnL w) := by
  have HR := Lib.hid (rdb_new hr ha (.cells #[.slice A n c, .int .i64 0, .int .u64 0] 36))
  have HA := Lib.hid ha
  have HC := Lib.hid (cur_new w A n c)
  have HNs := Lib.hid (anyNames_any w.heap.size A n c 0 0 (w.alloc (.cells #[.slice A n c, .int .i64 0, .int .u64 0] 36)) (by omega) (by omega) HC.out HR.out HA.out)
  have hz0 : (w.alloc (.cells #[.slice A n c, .int .i64 0, .int .u64 0] 36)).heap.size = w.heap.size + 1 := by simp
  have HS0 := Lib.hid (St.start HC.out HR.out HA.out)
  clear hr ha HC HR
  go_enter Tryd.func5, Tryd.ntmps5
  go_wp2_with fail
  refine HNs.out.mono ?_
  rintro e w1 ⟨v, L, rfl, hG, hL, hX, hl⟩
  have HS1 := Lib.hid (HS0.out.call (Nat.le_refl _) hl)
  obtain ⟨Av, cv, rfl⟩ := form4 hG.1
  have HG1 := Lib.hid hG
  have HX := Lib.hid hX
  obtain ⟨nL, hnL⟩ : ∃ nL, L.length = nL := ⟨_, rfl⟩
  have HnL := Lib.hid hnL.symm
  rw [hnL] at HG1 hL ⊢
  obtain ⟨k1, s1, hk1, hc1⟩ := HS1.out.cur
  have HC1 := Lib.hid hc1
  clear hl hG hX hnL HS0 HNs hc1
  go_wp2_with fail
  refine (Among.among_in _ _ 8 [1, 2, 3, 4, 2, 3, 0, 5] rfl (by omega) (by omega) w.heap.size (by have := HC1.out.lt; omega) A n c k1 s1 _ (by omega) (by omega) (HC1.out.alloc _) (HS1.out.rd.alloc HA.out HC1.out.lt _) HA.out (Among.Its.lit rfl)).mono ?_
  rintro e w2 ⟨z, hz, rfl, hl⟩
  have HL2 := Lib.hid (below_new (Cur.grown_trans HS1.out.gr hl.alloc.2))
  have HG2 := Lib.hid ((GvL.kept (HG1.out.alloc _) hl.2 (fun j hj => by cases hj; omega)).base (show w.heap.size ≤ (w.alloc (.cells #[.slice A n c, .int .i64 0, .int .u64 0] 36)).heap.size by omega))
  have hz' : 0 ≤ z ∧ z ≤ 5 := by simp at hz; omega
  clear hl hz
  go_wp2_with fail
  go_ret2
  exact ⟨Av, nL, cv, L, z, rfl, HnL.out, HG2.out, hL, HX.out, hz'.1, hz'.2, HL2.out⟩
end Go.Proofs.YtdjkgkfgnmcldaaDoor.StN
