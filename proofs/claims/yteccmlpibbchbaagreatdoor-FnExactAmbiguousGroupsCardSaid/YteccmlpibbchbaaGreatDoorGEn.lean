/-
  Several texts of one claim in one file: En2, En3.
-/
import Derived.Test.YteccmlpibbchbaaGreatDoorEn
import Derived.Test.YteccmlpibbchbaaGreatDoorOpenD
import Derived.Deep.DeepCutAuto
/-
  Contract of the laws' helper eqEntry.
-/
namespace Go.Proofs.YteccmlpibbchbaaGreatDoor.Ens
open Go.RowKit Pl Strs Help Name Stands SplitPl NmPl Word Part NGood Nms
set_option linter.unusedSimpArgs false
set_option linter.unusedVariables false

set_option maxRecDepth 100000 in
set_option maxHeartbeats 8000000 in
/-- two entries that say the same -/
theorem eqEntry_same (key : ByteArray) (kind : Int) (auA : Option Addr) (auN auc : Nat) (auL : List Nm) (edA : Option Addr) (edN edc : Nat) (edL : List Nm) (ti : ByteArray) (co : ByteArray) (pu : ByteArray) (y : Int) (m : Int) (d : Int) (ci : Bool) (vol : Int) (pa : ByteArray) (cr : ByteArray) (auB edB : Option Addr) (aud edd : Nat) (auM edM : List Nm) (w : World) (hr : (⟨key, kind, auA, auN, auc, auL, edA, edN, edc, edL, ti, co, pu, y, m, d, ci, vol, pa, cr⟩ : En).Rd w) (hr' : (⟨key, kind, auB, auN, aud, auM, edB, edN, edd, edM, ti, co, pu, y, m, d, ci, vol, pa, cr⟩ : En).Rd w) (ka : auL.map Nm.key = auM.map Nm.key) (ke : edL.map Nm.key = edM.map Nm.key) (ha : auN ≤ 1048576) (he : edN ≤ 1048576) (la : ∀ x ∈ auL, x.n ≤ 1048576) (le : ∀ x ∈ edL, x.n ≤ 1048576) :
    Calls Tryz.prog 55 #[.agg #[.string key, .int .i64 kind, .slice auA auN auc, .slice edA edN edc, .string ti, .string co, .string pu, .int .i64 y, .int .i64 m, .int .i64 d, .bool ci, .int .i64 vol, .string pa, .string cr], .agg #[.string key, .int .i64 kind, .slice auB auN aud, .slice edB edN edd, .string ti, .string co, .string pu, .int .i64 y, .int .i64 m, .int .i64 d, .bool ci, .int .i64 vol, .string pa, .string cr]] w fun e w' => e = .returned (.bool true) ∧ Below w.heap.size w w' := by
  obtain ⟨W0, hW0⟩ : ∃ W0, W0 = (w.alloc (.cells #[.string key, .int .i64 kind, .slice auA auN auc, .slice edA edN edc, .string ti, .string co, .string pu, .int .i64 y, .int .i64 m, .int .i64 d, .bool ci, .int .i64 vol, .string pa, .string cr] 58)).alloc (.cells #[.string key, .int .i64 kind, .slice auB auN aud, .slice edB edN edd, .string ti, .string co, .string pu, .int .i64 y, .int .i64 m, .int .i64 d, .bool ci, .int .i64 vol, .string pa, .string cr] 58) := ⟨_, rfl⟩
  have HB : Hid (Below w.heap.size w W0) := Lib.hid (by rw [hW0]; exact ((Below.refl _ w).alloc (Nat.le_refl _) _).alloc (by simp) _)
  have H1 := Lib.hid (hr.below HB.out)
  have H2 := Lib.hid (hr'.below HB.out)
  have HE1 : Hid (E14 W0 w.heap.size ⟨key, kind, auA, auN, auc, auL, edA, edN, edc, edL, ti, co, pu, y, m, d, ci, vol, pa, cr⟩) := Lib.hid (by rw [hW0]; exact (E14.new w ⟨key, kind, auA, auN, auc, auL, edA, edN, edc, edL, ti, co, pu, y, m, d, ci, vol, pa, cr⟩ 58).below ((Below.refl _ _).alloc (Nat.le_refl _) _))
  have HE2 : Hid (E14 W0 (w.heap.size + 1) ⟨key, kind, auB, auN, aud, auM, edB, edN, edd, edM, ti, co, pu, y, m, d, ci, vol, pa, cr⟩) := Lib.hid (by
    rw [hW0]
    have := E14.new (w.alloc (.cells #[.string key, .int .i64 kind, .slice auA auN auc, .slice edA edN edc, .string ti, .string co, .string pu, .int .i64 y, .int .i64 m, .int .i64 d, .bool ci, .int .i64 vol, .string pa, .string cr] 58)) ⟨key, kind, auB, auN, aud, auM, edB, edN, edd, edM, ti, co, pu, y, m, d, ci, vol, pa, cr⟩ 58
    simpa using this)
  have HA := Lib.hid (fun w' (hk : Below W0.heap.size W0 w') => eqNameS_same auA auB auc aud auN auL auM w' (H1.out.1.below hk) (H2.out.1.below hk) H1.out.2.1 ka ha la)
  have HD := Lib.hid (fun w' (hk : Below W0.heap.size W0 w') => eqNameS_same edA edB edc edd edN edL edM w' (H1.out.2.2.1.below hk) (H2.out.2.2.1.below hk) H1.out.2.2.2 ke he le)
  have HW0 := Lib.hid hW0
  clear hr hr' ka ke la le hW0
  go_enter Tryz.func55, Tryz.ntmps55
  go_wp2_with fail
  rw [← HW0.out]
  refine (HA.out _ (Below.refl _ _)).mono ?_
  rintro e w1 ⟨rfl, b1⟩
  have G1 := Lib.hid (HE1.out.below b1)
  have G2 := Lib.hid (HE2.out.below b1)
  obtain ⟨hl, c0, c1, c2, c3, c4, c5, c6, c7, c8, c9, c10, c11, c12, c13⟩ := G1.out
  obtain ⟨hl', d0, d1, d2, d3, d4, d5, d6, d7, d8, d9, d10, d11, d12, d13⟩ := G2.out
  dsimp only at c0 c1 c2 c3 c4 c5 c6 c7 c8 c9 c10 c11 c12 c13 d0 d1 d2 d3 d4 d5 d6 d7 d8 d9 d10 d11 d12 d13
  go_wp2_with fail
  refine (HD.out _ b1).mono ?_
  rintro e w2 ⟨rfl, b2⟩
  have b02 := b1.trans (b2.mono b1.size)
  clear hl c0 c1 c2 c3 c4 c5 c6 c7 c8 c9 c10 c11 c12 c13 hl' d0 d1 d2 d3 d4 d5 d6 d7 d8 d9 d10 d11 d12 d13 G1 G2
  have G1 := Lib.hid (HE1.out.below b02)
  have G2 := Lib.hid (HE2.out.below b02)
  obtain ⟨hl, c0, c1, c2, c3, c4, c5, c6, c7, c8, c9, c10, c11, c12, c13⟩ := G1.out
  obtain ⟨hl', d0, d1, d2, d3, d4, d5, d6, d7, d8, d9, d10, d11, d12, d13⟩ := G2.out
  dsimp only at c0 c1 c2 c3 c4 c5 c6 c7 c8 c9 c10 c11 c12 c13 d0 d1 d2 d3 d4 d5 d6 d7 d8 d9 d10 d11 d12 d13
  go_wp2_with fail
  refine (OpenD.eqDate y m d ci _).mono ?_
  rintro e w3 ⟨rfl, b3⟩
  have b03 := b02.trans (b3.mono b02.size)
  clear hl c0 c1 c2 c3 c4 c5 c6 c7 c8 c9 c10 c11 c12 c13 hl' d0 d1 d2 d3 d4 d5 d6 d7 d8 d9 d10 d11 d12 d13 G1 G2
  have G1 := Lib.hid (HE1.out.below b03)
  have G2 := Lib.hid (HE2.out.below b03)
  obtain ⟨hl, c0, c1, c2, c3, c4, c5, c6, c7, c8, c9, c10, c11, c12, c13⟩ := G1.out
  obtain ⟨hl', d0, d1, d2, d3, d4, d5, d6, d7, d8, d9, d10, d11, d12, d13⟩ := G2.out
  dsimp only at c0 c1 c2 c3 c4 c5 c6 c7 c8 c9 c10 c11 c12 c13 d0 d1 d2 d3 d4 d5 d6 d7 d8 d9 d10 d11 d12 d13
  go_wp2_with fail
  go_ret
  exact ⟨rfl, HB.out.trans (b03.mono HB.out.size)⟩
end Go.Proofs.YteccmlpibbchbaaGreatDoor.Ens
/-
  Contract of the laws' helper toEntry.
-/
namespace Go.Proofs.YteccmlpibbchbaaGreatDoor.Ens
open Go.RowKit Pl Strs Help Name Stands SplitPl NmPl Word Part NGood Nms
set_option linter.unusedSimpArgs false
set_option linter.unusedVariables false

/-- block b may be written -/
def F14 (W : World) (b : Nat) : Prop := W.frozen? ⟨b, 0, none⟩ = false ∧ W.frozen? ⟨b, 1, none⟩ = false ∧ W.frozen? ⟨b, 2, none⟩ = false ∧ W.frozen? ⟨b, 3, none⟩ = false ∧ W.frozen? ⟨b, 4, none⟩ = false ∧ W.frozen? ⟨b, 5, none⟩ = false ∧ W.frozen? ⟨b, 6, none⟩ = false ∧ W.frozen? ⟨b, 7, none⟩ = false ∧ W.frozen? ⟨b, 8, none⟩ = false ∧ W.frozen? ⟨b, 9, none⟩ = false ∧ W.frozen? ⟨b, 10, none⟩ = false ∧ W.frozen? ⟨b, 11, none⟩ = false ∧ W.frozen? ⟨b, 12, none⟩ = false ∧ W.frozen? ⟨b, 13, none⟩ = false
theorem F14.below {W w' : World} {b : Nat} (hlt : b < W.heap.size) (h : F14 W b) (hb : Below W.heap.size W w') : F14 w' b := by
  obtain ⟨f0, f1, f2, f3, f4, f5, f6, f7, f8, f9, f10, f11, f12, f13⟩ := h
  exact ⟨(hb.frozen (p := ⟨b, 0, none⟩) hlt).trans f0, (hb.frozen (p := ⟨b, 1, none⟩) hlt).trans f1, (hb.frozen (p := ⟨b, 2, none⟩) hlt).trans f2, (hb.frozen (p := ⟨b, 3, none⟩) hlt).trans f3, (hb.frozen (p := ⟨b, 4, none⟩) hlt).trans f4, (hb.frozen (p := ⟨b, 5, none⟩) hlt).trans f5, (hb.frozen (p := ⟨b, 6, none⟩) hlt).trans f6, (hb.frozen (p := ⟨b, 7, none⟩) hlt).trans f7, (hb.frozen (p := ⟨b, 8, none⟩) hlt).trans f8, (hb.frozen (p := ⟨b, 9, none⟩) hlt).trans f9, (hb.frozen (p := ⟨b, 10, none⟩) hlt).trans f10, (hb.frozen (p := ⟨b, 11, none⟩) hlt).trans f11, (hb.frozen (p := ⟨b, 12, none⟩) hlt).trans f12, (hb.frozen (p := ⟨b, 13, none⟩) hlt).trans f13⟩
theorem F14.new (w : World) (e : En) (t : TypeId) : F14 (w.alloc (.cells e.cs t)) w.heap.size := ⟨by simp [En.cs], by simp [En.cs], by simp [En.cs], by simp [En.cs], by simp [En.cs], by simp [En.cs], by simp [En.cs], by simp [En.cs], by simp [En.cs], by simp [En.cs], by simp [En.cs], by simp [En.cs], by simp [En.cs], by simp [En.cs]⟩
theorem F14.set {W : World} {b : Nat} (h : F14 W b) (a : Addr) (v : Value) : F14 (W.setCell a v) b := by
  obtain ⟨f0, f1, f2, f3, f4, f5, f6, f7, f8, f9, f10, f11, f12, f13⟩ := h
  refine ⟨?_, ?_, ?_, ?_, ?_, ?_, ?_, ?_, ?_, ?_, ?_, ?_, ?_, ?_⟩
  all_goals rw [World.frozen?_setCell]; assumption
theorem E14.far {W : World} {b b' : Nat} {e : En} (h : E14 W b e) (hne : b' ≠ b) (i : Nat) (v : Value) : E14 (W.setCell ⟨b', i, none⟩ v) b e := by
  obtain ⟨h0, c0, c1, c2, c3, c4, c5, c6, c7, c8, c9, c10, c11, c12, c13⟩ := h
  have key : ∀ j, (W.setCell ⟨b', i, none⟩ v).cell? ⟨b, j, none⟩ = W.cell? ⟨b, j, none⟩ := fun j => World.cell?_setCell_other W _ _ _ (fun e => hne (by cases e; rfl))
  refine ⟨by simpa [World.setCell] using h0, ?_, ?_, ?_, ?_, ?_, ?_, ?_, ?_, ?_, ?_, ?_, ?_, ?_, ?_⟩
  all_goals rw [key]; assumption
theorem en_ne {W : World} {b i j : Nat} {v : Value} (h : i ≠ j) : (W.setCell ⟨b, i, none⟩ v).cell? ⟨b, j, none⟩ = W.cell? ⟨b, j, none⟩ := World.cell?_setCell_other W _ _ _ (fun e => h (by cases e; rfl))
theorem E14.set0 {W : World} {b : Nat} {e : En} (h : E14 W b e) (x : ByteArray) : E14 (W.setCell ⟨b, 0, none⟩ (.string x)) b { e with key := x } := by
  obtain ⟨h0, c0, c1, c2, c3, c4, c5, c6, c7, c8, c9, c10, c11, c12, c13⟩ := h
  exact ⟨by simpa [World.setCell] using h0, World.cell?_setCell_same W _ _ c0, (en_ne (by decide)).trans c1, (en_ne (by decide)).trans c2, (en_ne (by decide)).trans c3, (en_ne (by decide)).trans c4, (en_ne (by decide)).trans c5, (en_ne (by decide)).trans c6, (en_ne (by decide)).trans c7, (en_ne (by decide)).trans c8, (en_ne (by decide)).trans c9, (en_ne (by decide)).trans c10, (en_ne (by decide)).trans c11, (en_ne (by decide)).trans c12, (en_ne (by decide)).trans c13⟩
theorem E14.set1 {W : World} {b : Nat} {e : En} (h : E14 W b e) (x : Int) : E14 (W.setCell ⟨b, 1, none⟩ (.int .i64 x)) b { e with kind := x } := by
  obtain ⟨h0, c0, c1, c2, c3, c4, c5, c6, c7, c8, c9, c10, c11, c12, c13⟩ := h
  exact ⟨by simpa [World.setCell] using h0, (en_ne (by decide)).trans c0, World.cell?_setCell_same W _ _ c1, (en_ne (by decide)).trans c2, (en_ne (by decide)).trans c3, (en_ne (by decide)).trans c4, (en_ne (by decide)).trans c5, (en_ne (by decide)).trans c6, (en_ne (by decide)).trans c7, (en_ne (by decide)).trans c8, (en_ne (by decide)).trans c9, (en_ne (by decide)).trans c10, (en_ne (by decide)).trans c11, (en_ne (by decide)).trans c12, (en_ne (by decide)).trans c13⟩
theorem E14.set2 {W : World} {b : Nat} {e : En} (h : E14 W b e) (xA : Option Addr) (xN xc : Nat) (xL : List Nm) : E14 (W.setCell ⟨b, 2, none⟩ (.slice xA xN xc)) b { e with auA := xA, auN := xN, auc := xc, auL := xL } := by
  obtain ⟨h0, c0, c1, c2, c3, c4, c5, c6, c7, c8, c9, c10, c11, c12, c13⟩ := h
  exact ⟨by simpa [World.setCell] using h0, (en_ne (by decide)).trans c0, (en_ne (by decide)).trans c1, World.cell?_setCell_same W _ _ c2, (en_ne (by decide)).trans c3, (en_ne (by decide)).trans c4, (en_ne (by decide)).trans c5, (en_ne (by decide)).trans c6, (en_ne (by decide)).trans c7, (en_ne (by decide)).trans c8, (en_ne (by decide)).trans c9, (en_ne (by decide)).trans c10, (en_ne (by decide)).trans c11, (en_ne (by decide)).trans c12, (en_ne (by decide)).trans c13⟩
theorem E14.set3 {W : World} {b : Nat} {e : En} (h : E14 W b e) (xA : Option Addr) (xN xc : Nat) (xL : List Nm) : E14 (W.setCell ⟨b, 3, none⟩ (.slice xA xN xc)) b { e with edA := xA, edN := xN, edc := xc, edL := xL } := by
  obtain ⟨h0, c0, c1, c2, c3, c4, c5, c6, c7, c8, c9, c10, c11, c12, c13⟩ := h
  exact ⟨by simpa [World.setCell] using h0, (en_ne (by decide)).trans c0, (en_ne (by decide)).trans c1, (en_ne (by decide)).trans c2, World.cell?_setCell_same W _ _ c3, (en_ne (by decide)).trans c4, (en_ne (by decide)).trans c5, (en_ne (by decide)).trans c6, (en_ne (by decide)).trans c7, (en_ne (by decide)).trans c8, (en_ne (by decide)).trans c9, (en_ne (by decide)).trans c10, (en_ne (by decide)).trans c11, (en_ne (by decide)).trans c12, (en_ne (by decide)).trans c13⟩
theorem E14.set4 {W : World} {b : Nat} {e : En} (h : E14 W b e) (x : ByteArray) : E14 (W.setCell ⟨b, 4, none⟩ (.string x)) b { e with ti := x } := by
  obtain ⟨h0, c0, c1, c2, c3, c4, c5, c6, c7, c8, c9, c10, c11, c12, c13⟩ := h
  exact ⟨by simpa [World.setCell] using h0, (en_ne (by decide)).trans c0, (en_ne (by decide)).trans c1, (en_ne (by decide)).trans c2, (en_ne (by decide)).trans c3, World.cell?_setCell_same W _ _ c4, (en_ne (by decide)).trans c5, (en_ne (by decide)).trans c6, (en_ne (by decide)).trans c7, (en_ne (by decide)).trans c8, (en_ne (by decide)).trans c9, (en_ne (by decide)).trans c10, (en_ne (by decide)).trans c11, (en_ne (by decide)).trans c12, (en_ne (by decide)).trans c13⟩
theorem E14.set5 {W : World} {b : Nat} {e : En} (h : E14 W b e) (x : ByteArray) : E14 (W.setCell ⟨b, 5, none⟩ (.string x)) b { e with co := x } := by
  obtain ⟨h0, c0, c1, c2, c3, c4, c5, c6, c7, c8, c9, c10, c11, c12, c13⟩ := h
  exact ⟨by simpa [World.setCell] using h0, (en_ne (by decide)).trans c0, (en_ne (by decide)).trans c1, (en_ne (by decide)).trans c2, (en_ne (by decide)).trans c3, (en_ne (by decide)).trans c4, World.cell?_setCell_same W _ _ c5, (en_ne (by decide)).trans c6, (en_ne (by decide)).trans c7, (en_ne (by decide)).trans c8, (en_ne (by decide)).trans c9, (en_ne (by decide)).trans c10, (en_ne (by decide)).trans c11, (en_ne (by decide)).trans c12, (en_ne (by decide)).trans c13⟩
theorem E14.set6 {W : World} {b : Nat} {e : En} (h : E14 W b e) (x : ByteArray) : E14 (W.setCell ⟨b, 6, none⟩ (.string x)) b { e with pu := x } := by
  obtain ⟨h0, c0, c1, c2, c3, c4, c5, c6, c7, c8, c9, c10, c11, c12, c13⟩ := h
  exact ⟨by simpa [World.setCell] using h0, (en_ne (by decide)).trans c0, (en_ne (by decide)).trans c1, (en_ne (by decide)).trans c2, (en_ne (by decide)).trans c3, (en_ne (by decide)).trans c4, (en_ne (by decide)).trans c5, World.cell?_setCell_same W _ _ c6, (en_ne (by decide)).trans c7, (en_ne (by decide)).trans c8, (en_ne (by decide)).trans c9, (en_ne (by decide)).trans c10, (en_ne (by decide)).trans c11, (en_ne (by decide)).trans c12, (en_ne (by decide)).trans c13⟩
theorem E14.set7 {W : World} {b : Nat} {e : En} (h : E14 W b e) (x : Int) : E14 (W.setCell ⟨b, 7, none⟩ (.int .i64 x)) b { e with y := x } := by
  obtain ⟨h0, c0, c1, c2, c3, c4, c5, c6, c7, c8, c9, c10, c11, c12, c13⟩ := h
  exact ⟨by simpa [World.setCell] using h0, (en_ne (by decide)).trans c0, (en_ne (by decide)).trans c1, (en_ne (by decide)).trans c2, (en_ne (by decide)).trans c3, (en_ne (by decide)).trans c4, (en_ne (by decide)).trans c5, (en_ne (by decide)).trans c6, World.cell?_setCell_same W _ _ c7, (en_ne (by decide)).trans c8, (en_ne (by decide)).trans c9, (en_ne (by decide)).trans c10, (en_ne (by decide)).trans c11, (en_ne (by decide)).trans c12, (en_ne (by decide)).trans c13⟩
theorem E14.set8 {W : World} {b : Nat} {e : En} (h : E14 W b e) (x : Int) : E14 (W.setCell ⟨b, 8, none⟩ (.int .i64 x)) b { e with m := x } := by
  obtain ⟨h0, c0, c1, c2, c3, c4, c5, c6, c7, c8, c9, c10, c11, c12, c13⟩ := h
  exact ⟨by simpa [World.setCell] using h0, (en_ne (by decide)).trans c0, (en_ne (by decide)).trans c1, (en_ne (by decide)).trans c2, (en_ne (by decide)).trans c3, (en_ne (by decide)).trans c4, (en_ne (by decide)).trans c5, (en_ne (by decide)).trans c6, (en_ne (by decide)).trans c7, World.cell?_setCell_same W _ _ c8, (en_ne (by decide)).trans c9, (en_ne (by decide)).trans c10, (en_ne (by decide)).trans c11, (en_ne (by decide)).trans c12, (en_ne (by decide)).trans c13⟩
theorem E14.set9 {W : World} {b : Nat} {e : En} (h : E14 W b e) (x : Int) : E14 (W.setCell ⟨b, 9, none⟩ (.int .i64 x)) b { e with d := x } := by
  obtain ⟨h0, c0, c1, c2, c3, c4, c5, c6, c7, c8, c9, c10, c11, c12, c13⟩ := h
  exact ⟨by simpa [World.setCell] using h0, (en_ne (by decide)).trans c0, (en_ne (by decide)).trans c1, (en_ne (by decide)).trans c2, (en_ne (by decide)).trans c3, (en_ne (by decide)).trans c4, (en_ne (by decide)).trans c5, (en_ne (by decide)).trans c6, (en_ne (by decide)).trans c7, (en_ne (by decide)).trans c8, World.cell?_setCell_same W _ _ c9, (en_ne (by decide)).trans c10, (en_ne (by decide)).trans c11, (en_ne (by decide)).trans c12, (en_ne (by decide)).trans c13⟩
theorem E14.set10 {W : World} {b : Nat} {e : En} (h : E14 W b e) (x : Bool) : E14 (W.setCell ⟨b, 10, none⟩ (.bool x)) b { e with ci := x } := by
  obtain ⟨h0, c0, c1, c2, c3, c4, c5, c6, c7, c8, c9, c10, c11, c12, c13⟩ := h
  exact ⟨by simpa [World.setCell] using h0, (en_ne (by decide)).trans c0, (en_ne (by decide)).trans c1, (en_ne (by decide)).trans c2, (en_ne (by decide)).trans c3, (en_ne (by decide)).trans c4, (en_ne (by decide)).trans c5, (en_ne (by decide)).trans c6, (en_ne (by decide)).trans c7, (en_ne (by decide)).trans c8, (en_ne (by decide)).trans c9, World.cell?_setCell_same W _ _ c10, (en_ne (by decide)).trans c11, (en_ne (by decide)).trans c12, (en_ne (by decide)).trans c13⟩
theorem E14.set11 {W : World} {b : Nat} {e : En} (h : E14 W b e) (x : Int) : E14 (W.setCell ⟨b, 11, none⟩ (.int .i64 x)) b { e with vol := x } := by
  obtain ⟨h0, c0, c1, c2, c3, c4, c5, c6, c7, c8, c9, c10, c11, c12, c13⟩ := h
  exact ⟨by simpa [World.setCell] using h0, (en_ne (by decide)).trans c0, (en_ne (by decide)).trans c1, (en_ne (by decide)).trans c2, (en_ne (by decide)).trans c3, (en_ne (by decide)).trans c4, (en_ne (by decide)).trans c5, (en_ne (by decide)).trans c6, (en_ne (by decide)).trans c7, (en_ne (by decide)).trans c8, (en_ne (by decide)).trans c9, (en_ne (by decide)).trans c10, World.cell?_setCell_same W _ _ c11, (en_ne (by decide)).trans c12, (en_ne (by decide)).trans c13⟩
theorem E14.set12 {W : World} {b : Nat} {e : En} (h : E14 W b e) (x : ByteArray) : E14 (W.setCell ⟨b, 12, none⟩ (.string x)) b { e with pa := x } := by
  obtain ⟨h0, c0, c1, c2, c3, c4, c5, c6, c7, c8, c9, c10, c11, c12, c13⟩ := h
  exact ⟨by simpa [World.setCell] using h0, (en_ne (by decide)).trans c0, (en_ne (by decide)).trans c1, (en_ne (by decide)).trans c2, (en_ne (by decide)).trans c3, (en_ne (by decide)).trans c4, (en_ne (by decide)).trans c5, (en_ne (by decide)).trans c6, (en_ne (by decide)).trans c7, (en_ne (by decide)).trans c8, (en_ne (by decide)).trans c9, (en_ne (by decide)).trans c10, (en_ne (by decide)).trans c11, World.cell?_setCell_same W _ _ c12, (en_ne (by decide)).trans c13⟩
theorem E14.set13 {W : World} {b : Nat} {e : En} (h : E14 W b e) (x : ByteArray) : E14 (W.setCell ⟨b, 13, none⟩ (.string x)) b { e with cr := x } := by
  obtain ⟨h0, c0, c1, c2, c3, c4, c5, c6, c7, c8, c9, c10, c11, c12, c13⟩ := h
  exact ⟨by simpa [World.setCell] using h0, (en_ne (by decide)).trans c0, (en_ne (by decide)).trans c1, (en_ne (by decide)).trans c2, (en_ne (by decide)).trans c3, (en_ne (by decide)).trans c4, (en_ne (by decide)).trans c5, (en_ne (by decide)).trans c6, (en_ne (by decide)).trans c7, (en_ne (by decide)).trans c8, (en_ne (by decide)).trans c9, (en_ne (by decide)).trans c10, (en_ne (by decide)).trans c11, (en_ne (by decide)).trans c12, World.cell?_setCell_same W _ _ c13⟩
/-- a fresh list of names at block g -/
def Fr (W : World) (g : Nat) (M : List Nm) : Prop := RdN0 W (some ⟨g, 0, none⟩) M ∧ (∀ x ∈ M, x.Far W g) ∧ NF W g
theorem Fr.below {W w' : World} {g : Nat} {M : List Nm} (h : Fr W g M) (hb : Below W.heap.size W w') : Fr w' g M := ⟨h.1.below hb, fun x hx => (h.2.1 x hx).below hb, h.2.2.below hb⟩
theorem Fr.older {W : World} {g b : Nat} {M : List Nm} (h : Fr W g M) (hb : b < g) (i : Nat) (v : Value) : Fr (W.setCell ⟨b, i, none⟩ v) g M := ⟨h.1.older v h.2.1 hb, far_older v h.2.1 hb, h.2.2.set _ _⟩
/-- the three boxes of toEntry -/
structure T3 (W : World) (n : Nat) (e x : En) : Prop where
  a : E14 W n e
  z : E14 W (n + 1) ⟨⟨#[]⟩, 0, none, 0, 0, [], none, 0, 0, [], ⟨#[]⟩, ⟨#[]⟩, ⟨#[]⟩, 0, 0, 0, false, 0, ⟨#[]⟩, ⟨#[]⟩⟩
  fz : F14 W (n + 1)
  o : E14 W (n + 1 + 1) x
  fo : F14 W (n + 1 + 1)
theorem T3.below {W w' : World} {n : Nat} {e x : En} (h : T3 W n e x) (hb : Below W.heap.size W w') : T3 w' n e x :=
  ⟨h.a.below hb, h.z.below hb, h.fz.below h.z.1 hb, h.o.below hb, h.fo.below h.o.1 hb⟩
theorem T3.put {W : World} {n i : Nat} {e x x' : En} {v : Value} (h : T3 W n e x) (ho : E14 (W.setCell ⟨n + 1 + 1, i, none⟩ v) (n + 1 + 1) x') : T3 (W.setCell ⟨n + 1 + 1, i, none⟩ v) n e x' :=
  ⟨h.a.far (by omega) _ _, h.z.far (by omega) _ _, h.fz.set _ _, ho, h.fo.set _ _⟩
theorem t3_new (w : World) (e x : En) (t t' : TypeId) : T3 (((w.alloc (.cells e.cs t)).alloc (.cells (⟨⟨#[]⟩, 0, none, 0, 0, [], none, 0, 0, [], ⟨#[]⟩, ⟨#[]⟩, ⟨#[]⟩, 0, 0, 0, false, 0, ⟨#[]⟩, ⟨#[]⟩⟩ : En).cs t')).alloc (.cells x.cs t')) w.heap.size e x := by
  have h1 : (w.alloc (.cells e.cs t)).heap.size = w.heap.size + 1 := by simp
  have h2 : ((w.alloc (.cells e.cs t)).alloc (.cells (⟨⟨#[]⟩, 0, none, 0, 0, [], none, 0, 0, [], ⟨#[]⟩, ⟨#[]⟩, ⟨#[]⟩, 0, 0, 0, false, 0, ⟨#[]⟩, ⟨#[]⟩⟩ : En).cs t')).heap.size = w.heap.size + 1 + 1 := by simp
  have bb : ∀ (w : World) (o : Obj), Below w.heap.size w (w.alloc o) := fun w o => (Below.refl _ w).alloc (Nat.le_refl _) o
  have a := ((E14.new w e t).below (bb _ (.cells (⟨⟨#[]⟩, 0, none, 0, 0, [], none, 0, 0, [], ⟨#[]⟩, ⟨#[]⟩, ⟨#[]⟩, 0, 0, 0, false, 0, ⟨#[]⟩, ⟨#[]⟩⟩ : En).cs t'))).below (bb _ (.cells x.cs t'))
  have z := E14.new (w.alloc (.cells e.cs t)) ⟨⟨#[]⟩, 0, none, 0, 0, [], none, 0, 0, [], ⟨#[]⟩, ⟨#[]⟩, ⟨#[]⟩, 0, 0, 0, false, 0, ⟨#[]⟩, ⟨#[]⟩⟩ t'
  have fz := F14.new (w.alloc (.cells e.cs t)) ⟨⟨#[]⟩, 0, none, 0, 0, [], none, 0, 0, [], ⟨#[]⟩, ⟨#[]⟩, ⟨#[]⟩, 0, 0, 0, false, 0, ⟨#[]⟩, ⟨#[]⟩⟩ t'
  have z2 := z.below (bb _ (.cells x.cs t'))
  have fz2 := fz.below z.1 (bb _ (.cells x.cs t'))
  have oo := E14.new ((w.alloc (.cells e.cs t)).alloc (.cells (⟨⟨#[]⟩, 0, none, 0, 0, [], none, 0, 0, [], ⟨#[]⟩, ⟨#[]⟩, ⟨#[]⟩, 0, 0, 0, false, 0, ⟨#[]⟩, ⟨#[]⟩⟩ : En).cs t')) x t'
  have fo := F14.new ((w.alloc (.cells e.cs t)).alloc (.cells (⟨⟨#[]⟩, 0, none, 0, 0, [], none, 0, 0, [], ⟨#[]⟩, ⟨#[]⟩, ⟨#[]⟩, 0, 0, 0, false, 0, ⟨#[]⟩, ⟨#[]⟩⟩ : En).cs t')) x t'
  rw [h1] at z2 fz2
  rw [h2] at oo fo
  exact ⟨a, z2, fz2, oo, fo⟩

set_option maxRecDepth 100000 in
set_option maxHeartbeats 8000000 in
theorem toEntry_far (key : ByteArray) (kind : Int) (auA : Option Addr) (auN auc : Nat) (auL : List Nm) (edA : Option Addr) (edN edc : Nat) (edL : List Nm) (ti : ByteArray) (co : ByteArray) (pu : ByteArray) (y : Int) (m : Int) (d : Int) (ci : Bool) (vol : Int) (pa : ByteArray) (cr : ByteArray) (w : World) (hr : (⟨key, kind, auA, auN, auc, auL, edA, edN, edc, edL, ti, co, pu, y, m, d, ci, vol, pa, cr⟩ : En).Rd w) (ha : auN ≤ 1048576) (he : edN ≤ 1048576) (la : ∀ x ∈ auL, x.n ≤ 1048576) (le : ∀ x ∈ edL, x.n ≤ 1048576) :
    Calls Tryz.prog 50 #[.agg #[.string key, .int .i64 kind, .slice auA auN auc, .slice edA edN edc, .string ti, .string co, .string pu, .int .i64 y, .int .i64 m, .int .i64 d, .bool ci, .int .i64 vol, .string pa, .string cr]] w fun e w' => ∃ g2 M2 g3 M3, e = .returned (.agg #[.string key, .int .i64 kind, .slice (some ⟨g2, 0, none⟩) auN auN, .slice (some ⟨g3, 0, none⟩) edN edN, .string ti, .string co, .string pu, .int .i64 y, .int .i64 m, .int .i64 d, .bool ci, .int .i64 vol, .string pa, .string cr]) ∧ Fr w' g2 M2 ∧ Fr w' g3 M3 ∧ w.heap.size < g2 ∧ w.heap.size < g3 ∧ M2.map Nm.key = auL.map Nm.key ∧ M3.map Nm.key = edL.map Nm.key ∧ (∀ x ∈ M2, x.n ≤ 1048576) ∧ (∀ x ∈ M3, x.n ≤ 1048576) ∧ Below w.heap.size w w' := by
  have HR := Lib.hid hr
  have HB := Lib.hid (show Below w.heap.size w (((w.alloc (.cells #[.string key, .int .i64 kind, .slice auA auN auc, .slice edA edN edc, .string ti, .string co, .string pu, .int .i64 y, .int .i64 m, .int .i64 d, .bool ci, .int .i64 vol, .string pa, .string cr] 81)).alloc (.cells #[.string ⟨#[]⟩, .int .i64 0, .slice none 0 0, .slice none 0 0, .string ⟨#[]⟩, .string ⟨#[]⟩, .string ⟨#[]⟩, .int .i64 0, .int .i64 0, .int .i64 0, .bool false, .int .i64 0, .string ⟨#[]⟩, .string ⟨#[]⟩] 58)).alloc (.cells #[.string key, .int .i64 kind, .slice none 0 0, .slice none 0 0, .string ⟨#[]⟩, .string ⟨#[]⟩, .string ⟨#[]⟩, .int .i64 0, .int .i64 0, .int .i64 0, .bool false, .int .i64 0, .string ⟨#[]⟩, .string ⟨#[]⟩] 58)) from (((Below.refl _ w).alloc (Nat.le_refl _) _).alloc (by simp) _).alloc (by simp; omega) _)
  have HT : Hid (T3 (((w.alloc (.cells #[.string key, .int .i64 kind, .slice auA auN auc, .slice edA edN edc, .string ti, .string co, .string pu, .int .i64 y, .int .i64 m, .int .i64 d, .bool ci, .int .i64 vol, .string pa, .string cr] 81)).alloc (.cells #[.string ⟨#[]⟩, .int .i64 0, .slice none 0 0, .slice none 0 0, .string ⟨#[]⟩, .string ⟨#[]⟩, .string ⟨#[]⟩, .int .i64 0, .int .i64 0, .int .i64 0, .bool false, .int .i64 0, .string ⟨#[]⟩, .string ⟨#[]⟩] 58)).alloc (.cells #[.string key, .int .i64 kind, .slice none 0 0, .slice none 0 0, .string ⟨#[]⟩, .string ⟨#[]⟩, .string ⟨#[]⟩, .int .i64 0, .int .i64 0, .int .i64 0, .bool false, .int .i64 0, .string ⟨#[]⟩, .string ⟨#[]⟩] 58)) w.heap.size (⟨key, kind, auA, auN, auc, auL, edA, edN, edc, edL, ti, co, pu, y, m, d, ci, vol, pa, cr⟩ : En) (⟨key, kind, none, 0, 0, [], none, 0, 0, [], ⟨#[]⟩, ⟨#[]⟩, ⟨#[]⟩, 0, 0, 0, false, 0, ⟨#[]⟩, ⟨#[]⟩⟩ : En)) := Lib.hid (t3_new w (⟨key, kind, auA, auN, auc, auL, edA, edN, edc, edL, ti, co, pu, y, m, d, ci, vol, pa, cr⟩ : En) (⟨key, kind, none, 0, 0, [], none, 0, 0, [], ⟨#[]⟩, ⟨#[]⟩, ⟨#[]⟩, 0, 0, 0, false, 0, ⟨#[]⟩, ⟨#[]⟩⟩ : En) 81 58)
  have HLa := Lib.hid la
  have HLe := Lib.hid le
  clear hr la le
  have hn2 : w.heap.size ≤ w.heap.size + 1 + 1 := by omega
  have hn1 : w.heap.size ≤ w.heap.size + 1 := by omega
  go_enter Tryz.func50, Tryz.ntmps50
  go_upto_region 4 with fail
  generalize hW : (((w.alloc (.cells #[.string key, .int .i64 kind, .slice auA auN auc, .slice edA edN edc, .string ti, .string co, .string pu, .int .i64 y, .int .i64 m, .int .i64 d, .bool ci, .int .i64 vol, .string pa, .string cr] 81)).alloc (.cells #[.string ⟨#[]⟩, .int .i64 0, .slice none 0 0, .slice none 0 0, .string ⟨#[]⟩, .string ⟨#[]⟩, .string ⟨#[]⟩, .int .i64 0, .int .i64 0, .int .i64 0, .bool false, .int .i64 0, .string ⟨#[]⟩, .string ⟨#[]⟩] 58)).alloc (.cells #[.string key, .int .i64 kind, .slice none 0 0, .slice none 0 0, .string ⟨#[]⟩, .string ⟨#[]⟩, .string ⟨#[]⟩, .int .i64 0, .int .i64 0, .int .i64 0, .bool false, .int .i64 0, .string ⟨#[]⟩, .string ⟨#[]⟩] 58)) = w0 at HB HT ⊢
  clear hW
  obtain ⟨al, c0, c1, c2, c3, c4, c5, c6, c7, c8, c9, c10, c11, c12, c13⟩ := HT.out.a
  dsimp only at c0 c1 c2 c3 c4 c5 c6 c7 c8 c9 c10 c11 c12 c13
  obtain ⟨ol, oc0, oc1, oc2, oc3, oc4, oc5, oc6, oc7, oc8, oc9, oc10, oc11, oc12, oc13⟩ := HT.out.o
  dsimp only at oc0 oc1 oc2 oc3 oc4 oc5 oc6 oc7 oc8 oc9 oc10 oc11 oc12 oc13
  obtain ⟨of0, of1, of2, of3, of4, of5, of6, of7, of8, of9, of10, of11, of12, of13⟩ := HT.out.fo
  go_wp2_with fail
  have hg0 : w.heap.size + 1 + 1 < w0.heap.size := HT.out.o.1
  refine (toNameS_far auA auc auN auL _ (HR.out.1.below HB.out) HR.out.2.1 ha HLa.out).mono ?_
  rintro e w1 ⟨M2, rfl, R2, K2, n2, F2, N2, b1⟩
  have k1 := HB.out.trans (b1.mono HB.out.size)
  have HT1 := Lib.hid (HT.out.below b1)
  generalize hg2 : w0.heap.size = g2 at *
  have HT1' := Lib.hid (HT1.out.put (HT1.out.o.set2 (some ⟨g2, 0, none⟩) auN auN M2))
  have k1' : Below w.heap.size w (w1.setCell ⟨w.heap.size + 1 + 1, 2, none⟩ (.slice (some ⟨g2, 0, none⟩) auN auN)) := k1.setCell (p := ⟨w.heap.size + 1 + 1, 2, none⟩) (by show w.heap.size ≤ w.heap.size + 1 + 1; omega) _
  have HS1 : Hid (Fr (w1.setCell ⟨w.heap.size + 1 + 1, 2, none⟩ (.slice (some ⟨g2, 0, none⟩) auN auN)) g2 M2) := Lib.hid (Fr.older ⟨R2, F2, N2⟩ hg0 _ _)
  have hb2 : w.heap.size + 1 + 1 < g2 := hg0
  clear b1 R2 F2 N2
  clear al c0 c1 c2 c3 c4 c5 c6 c7 c8 c9 c10 c11 c12 c13 ol oc0 oc1 oc2 oc3 oc4 oc5 oc6 oc7 oc8 oc9 oc10 oc11 oc12 oc13 of0 of1 of2 of3 of4 of5 of6 of7 of8 of9 of10 of11 of12 of13
  obtain ⟨al, c0, c1, c2, c3, c4, c5, c6, c7, c8, c9, c10, c11, c12, c13⟩ := HT1.out.a
  dsimp only at c0 c1 c2 c3 c4 c5 c6 c7 c8 c9 c10 c11 c12 c13
  obtain ⟨ol, oc0, oc1, oc2, oc3, oc4, oc5, oc6, oc7, oc8, oc9, oc10, oc11, oc12, oc13⟩ := HT1.out.o
  dsimp only at oc0 oc1 oc2 oc3 oc4 oc5 oc6 oc7 oc8 oc9 oc10 oc11 oc12 oc13
  obtain ⟨of0, of1, of2, of3, of4, of5, of6, of7, of8, of9, of10, of11, of12, of13⟩ := HT1.out.fo
  go_upto_region 5 with fail
  generalize hW : w1.setCell ⟨w.heap.size + 1 + 1, 2, none⟩ (.slice (some ⟨g2, 0, none⟩) auN auN) = v1 at HT1' k1' HS1 ⊢
  clear hW HT1 k1
  clear al c0 c1 c2 c3 c4 c5 c6 c7 c8 c9 c10 c11 c12 c13 ol oc0 oc1 oc2 oc3 oc4 oc5 oc6 oc7 oc8 oc9 oc10 oc11 oc12 oc13 of0 of1 of2 of3 of4 of5 of6 of7 of8 of9 of10 of11 of12 of13
  obtain ⟨al, c0, c1, c2, c3, c4, c5, c6, c7, c8, c9, c10, c11, c12, c13⟩ := HT1'.out.a
  dsimp only at c0 c1 c2 c3 c4 c5 c6 c7 c8 c9 c10 c11 c12 c13
  obtain ⟨ol, oc0, oc1, oc2, oc3, oc4, oc5, oc6, oc7, oc8, oc9, oc10, oc11, oc12, oc13⟩ := HT1'.out.o
  dsimp only at oc0 oc1 oc2 oc3 oc4 oc5 oc6 oc7 oc8 oc9 oc10 oc11 oc12 oc13
  obtain ⟨of0, of1, of2, of3, of4, of5, of6, of7, of8, of9, of10, of11, of12, of13⟩ := HT1'.out.fo
  go_wp2_with fail
  have hg0 : w.heap.size + 1 + 1 < v1.heap.size := HT1'.out.o.1
  refine (toNameS_far edA edc edN edL _ (HR.out.2.2.1.below k1') HR.out.2.2.2 he HLe.out).mono ?_
  rintro e w2 ⟨M3, rfl, R3, K3, n3, F3, N3, b2⟩
  have k2 := k1'.trans (b2.mono k1'.size)
  have HT2 := Lib.hid (HT1'.out.below b2)
  have S2 := HS1.out.below b2
  generalize hg3 : v1.heap.size = g3 at *
  have F3' : Fr w2 g3 M3 := ⟨R3, F3, N3⟩
  have hb3 : w.heap.size + 1 + 1 < g3 := hg0
  have X3 := HT2.out.put (HT2.out.o.set3 (some ⟨g3, 0, none⟩) edN edN M3)
  have X4 := X3.put (X3.o.set4 ti)
  have X5 := X4.put (X4.o.set5 co)
  have X6 := Lib.hid (X5.put (X5.o.set6 pu))
  have Q2 := Lib.hid ((((S2.older hb2 3 (.slice (some ⟨g3, 0, none⟩) edN edN)).older hb2 4 (.string ti)).older hb2 5 (.string co)).older hb2 6 (.string pu))
  have Q3 := Lib.hid ((((F3'.older hb3 3 (.slice (some ⟨g3, 0, none⟩) edN edN)).older hb3 4 (.string ti)).older hb3 5 (.string co)).older hb3 6 (.string pu))
  have q2 : Below w.heap.size w ((((w2.setCell ⟨w.heap.size + 1 + 1, 3, none⟩ (.slice (some ⟨g3, 0, none⟩) edN edN)).setCell ⟨w.heap.size + 1 + 1, 4, none⟩ (.string ti)).setCell ⟨w.heap.size + 1 + 1, 5, none⟩ (.string co)).setCell ⟨w.heap.size + 1 + 1, 6, none⟩ (.string pu)) := (((k2.setCell (p := ⟨w.heap.size + 1 + 1, 3, none⟩) hn2 _).setCell (p := ⟨w.heap.size + 1 + 1, 4, none⟩) hn2 _).setCell (p := ⟨w.heap.size + 1 + 1, 5, none⟩) hn2 _).setCell (p := ⟨w.heap.size + 1 + 1, 6, none⟩) hn2 _
  clear b2 R3 F3 N3 F3' S2 X3 X4 X5 k2 k1' HT1' HS1
  clear al c0 c1 c2 c3 c4 c5 c6 c7 c8 c9 c10 c11 c12 c13 ol oc0 oc1 oc2 oc3 oc4 oc5 oc6 oc7 oc8 oc9 oc10 oc11 oc12 oc13 of0 of1 of2 of3 of4 of5 of6 of7 of8 of9 of10 of11 of12 of13
  obtain ⟨al, c0, c1, c2, c3, c4, c5, c6, c7, c8, c9, c10, c11, c12, c13⟩ := HT2.out.a
  dsimp only at c0 c1 c2 c3 c4 c5 c6 c7 c8 c9 c10 c11 c12 c13
  obtain ⟨ol, oc0, oc1, oc2, oc3, oc4, oc5, oc6, oc7, oc8, oc9, oc10, oc11, oc12, oc13⟩ := HT2.out.o
  dsimp only at oc0 oc1 oc2 oc3 oc4 oc5 oc6 oc7 oc8 oc9 oc10 oc11 oc12 oc13
  obtain ⟨of0, of1, of2, of3, of4, of5, of6, of7, of8, of9, of10, of11, of12, of13⟩ := HT2.out.fo
  go_upto_region 9 with fail
  generalize hW : ((((w2.setCell ⟨w.heap.size + 1 + 1, 3, none⟩ (.slice (some ⟨g3, 0, none⟩) edN edN)).setCell ⟨w.heap.size + 1 + 1, 4, none⟩ (.string ti)).setCell ⟨w.heap.size + 1 + 1, 5, none⟩ (.string co)).setCell ⟨w.heap.size + 1 + 1, 6, none⟩ (.string pu)) = v2 at X6 Q2 Q3 q2 ⊢
  clear hW HT2
  clear al c0 c1 c2 c3 c4 c5 c6 c7 c8 c9 c10 c11 c12 c13 ol oc0 oc1 oc2 oc3 oc4 oc5 oc6 oc7 oc8 oc9 oc10 oc11 oc12 oc13 of0 of1 of2 of3 of4 of5 of6 of7 of8 of9 of10 of11 of12 of13
  obtain ⟨al, c0, c1, c2, c3, c4, c5, c6, c7, c8, c9, c10, c11, c12, c13⟩ := X6.out.a
  dsimp only at c0 c1 c2 c3 c4 c5 c6 c7 c8 c9 c10 c11 c12 c13
  obtain ⟨ol, oc0, oc1, oc2, oc3, oc4, oc5, oc6, oc7, oc8, oc9, oc10, oc11, oc12, oc13⟩ := X6.out.o
  dsimp only at oc0 oc1 oc2 oc3 oc4 oc5 oc6 oc7 oc8 oc9 oc10 oc11 oc12 oc13
  obtain ⟨of0, of1, of2, of3, of4, of5, of6, of7, of8, of9, of10, of11, of12, of13⟩ := X6.out.fo
  go_wp2_with fail
  refine (OpenD.toDate y m d ci _).mono ?_
  rintro e w3 ⟨rfl, b3⟩
  have k3 := q2.trans (b3.mono q2.size)
  have X6' := Lib.hid (X6.out.below b3)
  have S2 := Q2.out.below b3
  have S3 := Q3.out.below b3
  have X7 := X6'.out.put (X6'.out.o.set7 y)
  have X8 := X7.put (X7.o.set8 m)
  have X9 := X8.put (X8.o.set9 d)
  have X10 := X9.put (X9.o.set10 ci)
  have X11 := X10.put (X10.o.set11 vol)
  have X12 := X11.put (X11.o.set12 pa)
  have X13 := Lib.hid (X12.put (X12.o.set13 cr))
  have P2 := Lib.hid ((((((((S2.older hb2 7 (.int .i64 y)).older hb2 8 (.int .i64 m)).older hb2 9 (.int .i64 d)).older hb2 10 (.bool ci)).older hb2 11 (.int .i64 vol)).older hb2 12 (.string pa)).older hb2 13 (.string cr)))
  have P3 := Lib.hid ((((((((S3.older hb3 7 (.int .i64 y)).older hb3 8 (.int .i64 m)).older hb3 9 (.int .i64 d)).older hb3 10 (.bool ci)).older hb3 11 (.int .i64 vol)).older hb3 12 (.string pa)).older hb3 13 (.string cr)))
  have q3 : Below w.heap.size w (((((((w3.setCell ⟨w.heap.size + 1 + 1, 7, none⟩ (.int .i64 y)).setCell ⟨w.heap.size + 1 + 1, 8, none⟩ (.int .i64 m)).setCell ⟨w.heap.size + 1 + 1, 9, none⟩ (.int .i64 d)).setCell ⟨w.heap.size + 1 + 1, 10, none⟩ (.bool ci)).setCell ⟨w.heap.size + 1 + 1, 11, none⟩ (.int .i64 vol)).setCell ⟨w.heap.size + 1 + 1, 12, none⟩ (.string pa)).setCell ⟨w.heap.size + 1 + 1, 13, none⟩ (.string cr)) := (((((((k3.setCell (p := ⟨w.heap.size + 1 + 1, 7, none⟩) hn2 _).setCell (p := ⟨w.heap.size + 1 + 1, 8, none⟩) hn2 _).setCell (p := ⟨w.heap.size + 1 + 1, 9, none⟩) hn2 _).setCell (p := ⟨w.heap.size + 1 + 1, 10, none⟩) hn2 _).setCell (p := ⟨w.heap.size + 1 + 1, 11, none⟩) hn2 _).setCell (p := ⟨w.heap.size + 1 + 1, 12, none⟩) hn2 _).setCell (p := ⟨w.heap.size + 1 + 1, 13, none⟩) hn2 _)
  clear b3 X7 X8 X9 X10 X11 X12 S2 S3 Q2 Q3 k3 q2 X6
  clear al c0 c1 c2 c3 c4 c5 c6 c7 c8 c9 c10 c11 c12 c13 ol oc0 oc1 oc2 oc3 oc4 oc5 oc6 oc7 oc8 oc9 oc10 oc11 oc12 oc13 of0 of1 of2 of3 of4 of5 of6 of7 of8 of9 of10 of11 of12 of13
  obtain ⟨al, c0, c1, c2, c3, c4, c5, c6, c7, c8, c9, c10, c11, c12, c13⟩ := X6'.out.a
  dsimp only at c0 c1 c2 c3 c4 c5 c6 c7 c8 c9 c10 c11 c12 c13
  obtain ⟨ol, oc0, oc1, oc2, oc3, oc4, oc5, oc6, oc7, oc8, oc9, oc10, oc11, oc12, oc13⟩ := X6'.out.o
  dsimp only at oc0 oc1 oc2 oc3 oc4 oc5 oc6 oc7 oc8 oc9 oc10 oc11 oc12 oc13
  obtain ⟨of0, of1, of2, of3, of4, of5, of6, of7, of8, of9, of10, of11, of12, of13⟩ := X6'.out.fo
  go_upto_region 13 with fail
  generalize hW : (((((((w3.setCell ⟨w.heap.size + 1 + 1, 7, none⟩ (.int .i64 y)).setCell ⟨w.heap.size + 1 + 1, 8, none⟩ (.int .i64 m)).setCell ⟨w.heap.size + 1 + 1, 9, none⟩ (.int .i64 d)).setCell ⟨w.heap.size + 1 + 1, 10, none⟩ (.bool ci)).setCell ⟨w.heap.size + 1 + 1, 11, none⟩ (.int .i64 vol)).setCell ⟨w.heap.size + 1 + 1, 12, none⟩ (.string pa)).setCell ⟨w.heap.size + 1 + 1, 13, none⟩ (.string cr)) = v3 at X13 P2 P3 q3 ⊢
  clear hW X6'
  clear al c0 c1 c2 c3 c4 c5 c6 c7 c8 c9 c10 c11 c12 c13 ol oc0 oc1 oc2 oc3 oc4 oc5 oc6 oc7 oc8 oc9 oc10 oc11 oc12 oc13 of0 of1 of2 of3 of4 of5 of6 of7 of8 of9 of10 of11 of12 of13
  obtain ⟨al, c0, c1, c2, c3, c4, c5, c6, c7, c8, c9, c10, c11, c12, c13⟩ := X13.out.a
  dsimp only at c0 c1 c2 c3 c4 c5 c6 c7 c8 c9 c10 c11 c12 c13
  obtain ⟨ol, oc0, oc1, oc2, oc3, oc4, oc5, oc6, oc7, oc8, oc9, oc10, oc11, oc12, oc13⟩ := X13.out.o
  dsimp only at oc0 oc1 oc2 oc3 oc4 oc5 oc6 oc7 oc8 oc9 oc10 oc11 oc12 oc13
  obtain ⟨of0, of1, of2, of3, of4, of5, of6, of7, of8, of9, of10, of11, of12, of13⟩ := X13.out.fo
  obtain ⟨zl, z0, z1, z2, z3, z4, z5, z6, z7, z8, z9, z10, z11, z12, z13⟩ := X13.out.z
  dsimp only at z0 z1 z2 z3 z4 z5 z6 z7 z8 z9 z10 z11 z12 z13
  obtain ⟨zf0, zf1, zf2, zf3, zf4, zf5, zf6, zf7, zf8, zf9, zf10, zf11, zf12, zf13⟩ := X13.out.fz
  go_wp2_with fail
  have hb2' : w.heap.size + 1 < g2 := by omega
  have hb3' : w.heap.size + 1 < g3 := by omega
  refine bodyPost_ret (v := .agg #[.string key, .int .i64 kind, .slice (some ⟨g2, 0, none⟩) auN auN, .slice (some ⟨g3, 0, none⟩) edN edN, .string ti, .string co, .string pu, .int .i64 y, .int .i64 m, .int .i64 d, .bool ci, .int .i64 vol, .string pa, .string cr]) (by simp [results, Tryz.results50, go_sem, *]) rfl ⟨g2, M2, g3, M3, rfl, (((((((((((((((P2.out.older hb2' 0 _).older hb2' 1 _).older hb2' 2 _).older hb2' 3 _).older hb2' 4 _).older hb2' 5 _).older hb2' 6 _).older hb2' 7 _).older hb2' 8 _).older hb2' 9 _).older hb2' 10 _).older hb2' 11 _).older hb2' 12 _).older hb2' 13 _)), (((((((((((((((P3.out.older hb3' 0 _).older hb3' 1 _).older hb3' 2 _).older hb3' 3 _).older hb3' 4 _).older hb3' 5 _).older hb3' 6 _).older hb3' 7 _).older hb3' 8 _).older hb3' 9 _).older hb3' 10 _).older hb3' 11 _).older hb3' 12 _).older hb3' 13 _)), by omega, by omega, K2, K3, n2, n3, ((((((((((((((q3.setCell (p := ⟨w.heap.size + 1, 0, none⟩) hn1 _).setCell (p := ⟨w.heap.size + 1, 1, none⟩) hn1 _).setCell (p := ⟨w.heap.size + 1, 2, none⟩) hn1 _).setCell (p := ⟨w.heap.size + 1, 3, none⟩) hn1 _).setCell (p := ⟨w.heap.size + 1, 4, none⟩) hn1 _).setCell (p := ⟨w.heap.size + 1, 5, none⟩) hn1 _).setCell (p := ⟨w.heap.size + 1, 6, none⟩) hn1 _).setCell (p := ⟨w.heap.size + 1, 7, none⟩) hn1 _).setCell (p := ⟨w.heap.size + 1, 8, none⟩) hn1 _).setCell (p := ⟨w.heap.size + 1, 9, none⟩) hn1 _).setCell (p := ⟨w.heap.size + 1, 10, none⟩) hn1 _).setCell (p := ⟨w.heap.size + 1, 11, none⟩) hn1 _).setCell (p := ⟨w.heap.size + 1, 12, none⟩) hn1 _).setCell (p := ⟨w.heap.size + 1, 13, none⟩) hn1 _)⟩
theorem toEntry_any (key : ByteArray) (kind : Int) (auA : Option Addr) (auN auc : Nat) (auL : List Nm) (edA : Option Addr) (edN edc : Nat) (edL : List Nm) (ti : ByteArray) (co : ByteArray) (pu : ByteArray) (y : Int) (m : Int) (d : Int) (ci : Bool) (vol : Int) (pa : ByteArray) (cr : ByteArray) (w : World) (hr : (⟨key, kind, auA, auN, auc, auL, edA, edN, edc, edL, ti, co, pu, y, m, d, ci, vol, pa, cr⟩ : En).Rd w) (ha : auN ≤ 1048576) (he : edN ≤ 1048576) (la : ∀ x ∈ auL, x.n ≤ 1048576) (le : ∀ x ∈ edL, x.n ≤ 1048576) :
    Calls Tryz.prog 50 #[.agg #[.string key, .int .i64 kind, .slice auA auN auc, .slice edA edN edc, .string ti, .string co, .string pu, .int .i64 y, .int .i64 m, .int .i64 d, .bool ci, .int .i64 vol, .string pa, .string cr]] w fun e w' => ∃ A2 M2 A3 M3, e = .returned (.agg #[.string key, .int .i64 kind, .slice A2 auN auN, .slice A3 edN edN, .string ti, .string co, .string pu, .int .i64 y, .int .i64 m, .int .i64 d, .bool ci, .int .i64 vol, .string pa, .string cr]) ∧ (⟨key, kind, A2, auN, auN, M2, A3, edN, edN, M3, ti, co, pu, y, m, d, ci, vol, pa, cr⟩ : En).Rd w' ∧ M2.map Nm.key = auL.map Nm.key ∧ M3.map Nm.key = edL.map Nm.key ∧ (∀ x ∈ M2, x.n ≤ 1048576) ∧ (∀ x ∈ M3, x.n ≤ 1048576) ∧ Below w.heap.size w w' :=
  (toEntry_far key kind auA auN auc auL edA edN edc edL ti co pu y m d ci vol pa cr w hr ha he la le).mono fun _ _ ⟨g2, M2, g3, M3, h1, h2, h3, _, _, h4, h5, h6, h7, h8⟩ => ⟨some ⟨g2, 0, none⟩, M2, some ⟨g3, 0, none⟩, M3, h1, ⟨h2.1, (len_of_key h4).trans hr.2.1, h3.1, (len_of_key h5).trans hr.2.2.2⟩, h4, h5, h6, h7, h8⟩
end Go.Proofs.YteccmlpibbchbaaGreatDoor.Ens
