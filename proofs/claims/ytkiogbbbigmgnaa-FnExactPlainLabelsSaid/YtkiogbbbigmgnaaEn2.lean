/-
  Contract of the laws' helper eqEntry.
-/
import Derived.Test.YtkiogbbbigmgnaaEn
import Derived.Test.YtkiogbbbigmgnaaOpenD
namespace Go.Proofs.Ytkiogbbbigmgnaa.Ens
open Go.RowKit Pl Strs Help Name Stands SplitPl NmPl Word Part NGood Nms
set_option linter.unusedSimpArgs false
set_option linter.unusedVariables false

set_option maxRecDepth 100000 in
set_option maxHeartbeats 8000000 in
/-- two entries that say the same -/
theorem eqEntry_same (key : ByteArray) (kind : Int) (auA : Option Addr) (auN auc : Nat) (auL : List Nm) (edA : Option Addr) (edN edc : Nat) (edL : List Nm) (ti : ByteArray) (co : ByteArray) (pu : ByteArray) (y : Int) (m : Int) (d : Int) (ci : Bool) (vol : Int) (pa : ByteArray) (cr : ByteArray) (auB edB : Option Addr) (aud edd : Nat) (auM edM : List Nm) (w : World) (hr : (⟨key, kind, auA, auN, auc, auL, edA, edN, edc, edL, ti, co, pu, y, m, d, ci, vol, pa, cr⟩ : En).Rd w) (hr' : (⟨key, kind, auB, auN, aud, auM, edB, edN, edd, edM, ti, co, pu, y, m, d, ci, vol, pa, cr⟩ : En).Rd w) (ka : auL.map Nm.key = auM.map Nm.key) (ke : edL.map Nm.key = edM.map Nm.key) (ha : auN ≤ 1048576) (he : edN ≤ 1048576) (la : ∀ x ∈ auL, x.n ≤ 1048576) (le : ∀ x ∈ edL, x.n ≤ 1048576) :
    Calls Try.prog 43 #[.agg #[.string key, .int .i64 kind, .slice auA auN auc, .slice edA edN edc, .string ti, .string co, .string pu, .int .i64 y, .int .i64 m, .int .i64 d, .bool ci, .int .i64 vol, .string pa, .string cr], .agg #[.string key, .int .i64 kind, .slice auB auN aud, .slice edB edN edd, .string ti, .string co, .string pu, .int .i64 y, .int .i64 m, .int .i64 d, .bool ci, .int .i64 vol, .string pa, .string cr]] w fun e w' => e = .returned (.bool true) ∧ Below w.heap.size w w' := by
  obtain ⟨W0, hW0⟩ : ∃ W0, W0 = (w.alloc (.cells #[.string key, .int .i64 kind, .slice auA auN auc, .slice edA edN edc, .string ti, .string co, .string pu, .int .i64 y, .int .i64 m, .int .i64 d, .bool ci, .int .i64 vol, .string pa, .string cr] 68)).alloc (.cells #[.string key, .int .i64 kind, .slice auB auN aud, .slice edB edN edd, .string ti, .string co, .string pu, .int .i64 y, .int .i64 m, .int .i64 d, .bool ci, .int .i64 vol, .string pa, .string cr] 68) := ⟨_, rfl⟩
  have HB : Hid (Below w.heap.size w W0) := Lib.hid (by rw [hW0]; exact ((Below.refl _ w).alloc (Nat.le_refl _) _).alloc (by simp) _)
  have H1 := Lib.hid (hr.below HB.out)
  have H2 := Lib.hid (hr'.below HB.out)
  have HE1 : Hid (E14 W0 w.heap.size ⟨key, kind, auA, auN, auc, auL, edA, edN, edc, edL, ti, co, pu, y, m, d, ci, vol, pa, cr⟩) := Lib.hid (by rw [hW0]; exact (E14.new w ⟨key, kind, auA, auN, auc, auL, edA, edN, edc, edL, ti, co, pu, y, m, d, ci, vol, pa, cr⟩ 68).below ((Below.refl _ _).alloc (Nat.le_refl _) _))
  have HE2 : Hid (E14 W0 (w.heap.size + 1) ⟨key, kind, auB, auN, aud, auM, edB, edN, edd, edM, ti, co, pu, y, m, d, ci, vol, pa, cr⟩) := Lib.hid (by
    rw [hW0]
    have := E14.new (w.alloc (.cells #[.string key, .int .i64 kind, .slice auA auN auc, .slice edA edN edc, .string ti, .string co, .string pu, .int .i64 y, .int .i64 m, .int .i64 d, .bool ci, .int .i64 vol, .string pa, .string cr] 68)) ⟨key, kind, auB, auN, aud, auM, edB, edN, edd, edM, ti, co, pu, y, m, d, ci, vol, pa, cr⟩ 68
    simpa using this)
  have HA := Lib.hid (fun w' (hk : Below W0.heap.size W0 w') => eqNameS_same auA auB auc aud auN auL auM w' (H1.out.1.below hk) (H2.out.1.below hk) H1.out.2.1 ka ha la)
  have HD := Lib.hid (fun w' (hk : Below W0.heap.size W0 w') => eqNameS_same edA edB edc edd edN edL edM w' (H1.out.2.2.1.below hk) (H2.out.2.2.1.below hk) H1.out.2.2.2 ke he le)
  have HW0 := Lib.hid hW0
  clear hr hr' ka ke la le hW0
  go_enter Try.func43, Try.ntmps43
  go_wp2_with fail
  rw [← HW0.out]
  refine (HA.out _ (Below.refl _ _)).mono ?_
  rintro e w1 ⟨rfl, b1⟩
  have G1 := Lib.hid (HE1.out.below b1)
  have G2 := Lib.hid (HE2.out.below b1)
  obtain ⟨hl, c0, c1, c2, c3, c4, c5, c6, c7, c8, c9, c10, c11, c12, c13⟩ := G1.out
  obtain ⟨hl', d0, d1, d2, d3, d4, d5, d6, d7, d8, d9, d10, d11, d12, d13⟩ := G2.out
  dsimp only at c0 c1 c2 c3 c4 c5 c6 c7 c8 c9 c10 c11 c12 c13 d0 d1 d2 d3 d4 d5 d6 d7 d8 d9 d10 d11 d12 d13
  go_wp2_with fail
  refine (HD.out _ b1).mono ?_
  rintro e w2 ⟨rfl, b2⟩
  have b02 := b1.trans (b2.mono b1.size)
  clear hl c0 c1 c2 c3 c4 c5 c6 c7 c8 c9 c10 c11 c12 c13 hl' d0 d1 d2 d3 d4 d5 d6 d7 d8 d9 d10 d11 d12 d13 G1 G2
  have G1 := Lib.hid (HE1.out.below b02)
  have G2 := Lib.hid (HE2.out.below b02)
  obtain ⟨hl, c0, c1, c2, c3, c4, c5, c6, c7, c8, c9, c10, c11, c12, c13⟩ := G1.out
  obtain ⟨hl', d0, d1, d2, d3, d4, d5, d6, d7, d8, d9, d10, d11, d12, d13⟩ := G2.out
  dsimp only at c0 c1 c2 c3 c4 c5 c6 c7 c8 c9 c10 c11 c12 c13 d0 d1 d2 d3 d4 d5 d6 d7 d8 d9 d10 d11 d12 d13
  go_wp2_with fail
  refine (OpenD.eqDate y m d ci _).mono ?_
  rintro e w3 ⟨rfl, b3⟩
  have b03 := b02.trans (b3.mono b02.size)
  clear hl c0 c1 c2 c3 c4 c5 c6 c7 c8 c9 c10 c11 c12 c13 hl' d0 d1 d2 d3 d4 d5 d6 d7 d8 d9 d10 d11 d12 d13 G1 G2
  have G1 := Lib.hid (HE1.out.below b03)
  have G2 := Lib.hid (HE2.out.below b03)
  obtain ⟨hl, c0, c1, c2, c3, c4, c5, c6, c7, c8, c9, c10, c11, c12, c13⟩ := G1.out
  obtain ⟨hl', d0, d1, d2, d3, d4, d5, d6, d7, d8, d9, d10, d11, d12, d13⟩ := G2.out
  dsimp only at c0 c1 c2 c3 c4 c5 c6 c7 c8 c9 c10 c11 c12 c13 d0 d1 d2 d3 d4 d5 d6 d7 d8 d9 d10 d11 d12 d13
  go_wp2_with fail
  go_ret
  exact ⟨rfl, HB.out.trans (b03.mono HB.out.size)⟩
end Go.Proofs.Ytkiogbbbigmgnaa.Ens
