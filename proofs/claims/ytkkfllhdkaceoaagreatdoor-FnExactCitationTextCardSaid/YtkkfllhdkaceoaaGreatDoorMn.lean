/-
  The main names of an entry, in both. (Parted from Ce.)
-/
import Derived.Test.YtkkfllhdkaceoaaGreatDoorEn
import Derived.Test.YtkkfllhdkaceoaaGreatDoorVe
namespace Go.Proofs.YtkkfllhdkaceoaaGreatDoor.Ce
open Go.RowKit Pl Strs Help Name Stands SplitPl NmPl Word Part NGood Nms Ens Jn
set_option linter.unusedSimpArgs false
set_option linter.unusedVariables false

set_option maxHeartbeats 1000000 in
theorem main_i (key : ByteArray) (kind : Int) (auA : Option Addr) (auN : Nat) (auc : Nat) (auL : List Nm) (edA : Option Addr) (edN : Nat) (edc : Nat) (edL : List Nm) (ti : ByteArray) (co : ByteArray) (pu : ByteArray) (y : Int) (m : Int) (d : Int) (ci : Bool) (vol : Int) (pa : ByteArray) (cr : ByteArray) (mA : Option Addr) (mN mc : Nat) (w : World) (hm : (if 0 < auN then (auA, auN, auc) else (edA, edN, edc)) = (mA, mN, mc)) :
    Calls Tryz.prog 49 #[.agg #[.string key, .int .i64 kind, .slice auA auN auc, .slice edA edN edc, .string ti, .string co, .string pu, .int .i64 y, .int .i64 m, .int .i64 d, .bool ci, .int .i64 vol, .string pa, .string cr]] w fun e w' => e = .returned (.slice mA mN mc) ∧ Below w.heap.size w w' := by
  have HB := Lib.hid ((Below.refl _ w).alloc (Nat.le_refl _) (.cells #[.string key, .int .i64 kind, .slice auA auN auc, .slice edA edN edc, .string ti, .string co, .string pu, .int .i64 y, .int .i64 m, .int .i64 d, .bool ci, .int .i64 vol, .string pa, .string cr] 47))
  by_cases h : 0 < auN
  · rw [if_pos h] at hm
    simp only [Prod.mk.injEq] at hm
    obtain ⟨rfl, rfl, rfl⟩ := hm
    go_enter Tryz.func49, Tryz.ntmps49
    go_wp2_with fail
    go_ret
    exact ⟨rfl, HB.out⟩
  · rw [if_neg h] at hm
    simp only [Prod.mk.injEq] at hm
    obtain ⟨rfl, rfl, rfl⟩ := hm
    go_enter Tryz.func49, Tryz.ntmps49
    go_wp2_with fail
    go_ret
    exact ⟨rfl, HB.out⟩
set_option maxHeartbeats 1000000 in
theorem main_s (key : ByteArray) (kind : Int) (auA : Option Addr) (auN : Nat) (auc : Nat) (auL : List Nm) (edA : Option Addr) (edN : Nat) (edc : Nat) (edL : List Nm) (ti : ByteArray) (co : ByteArray) (pu : ByteArray) (y : Int) (m : Int) (d : Int) (ci : Bool) (vol : Int) (pa : ByteArray) (cr : ByteArray) (mA : Option Addr) (mN mc : Nat) (w : World) (hm : (if 0 < auN then (auA, auN, auc) else (edA, edN, edc)) = (mA, mN, mc)) :
    Calls Tryz.prog 25 #[.agg #[.string key, .int .i64 kind, .slice auA auN auc, .slice edA edN edc, .string ti, .string co, .string pu, .int .i64 y, .int .i64 m, .int .i64 d, .bool ci, .int .i64 vol, .string pa, .string cr]] w fun e w' => e = .returned (.slice mA mN mc) ∧ Below w.heap.size w w' := by
  have HB := Lib.hid ((Below.refl _ w).alloc (Nat.le_refl _) (.cells #[.string key, .int .i64 kind, .slice auA auN auc, .slice edA edN edc, .string ti, .string co, .string pu, .int .i64 y, .int .i64 m, .int .i64 d, .bool ci, .int .i64 vol, .string pa, .string cr] 47))
  by_cases h : 0 < auN
  · rw [if_pos h] at hm
    simp only [Prod.mk.injEq] at hm
    obtain ⟨rfl, rfl, rfl⟩ := hm
    go_enter Tryz.func25, Tryz.ntmps25
    go_wp2_with fail
    go_ret
    exact ⟨rfl, HB.out⟩
  · rw [if_neg h] at hm
    simp only [Prod.mk.injEq] at hm
    obtain ⟨rfl, rfl, rfl⟩ := hm
    go_enter Tryz.func25, Tryz.ntmps25
    go_wp2_with fail
    go_ret
    exact ⟨rfl, HB.out⟩
theorem ok_parts {e : En} (h : okE e = true) : okL e.auL = true ∧ okL e.edL = true ∧ DtPl.okB e.y e.m e.d e.ci = true := by
  unfold okE at h
  simp only [Bool.and_eq_true] at h
  exact ⟨h.2.2.1, h.2.2.2.1, h.2.2.2.2.2.2.2.2.1⟩
/-- the main names -/
def mainL (e : En) : List Nm := if 0 < e.auN then e.auL else e.edL
theorem main_rd {e : En} {w : World} (h : e.Rd w) {mA : Option Addr} {mN mc : Nat} (hm : (if 0 < e.auN then (e.auA, e.auN, e.auc) else (e.edA, e.edN, e.edc)) = (mA, mN, mc)) : RdN0 w mA (mainL e) ∧ (mainL e).length = mN := by
  unfold mainL
  by_cases h0 : 0 < e.auN
  · rw [if_pos h0] at hm ⊢
    cases hm
    exact ⟨h.1, h.2.1⟩
  · rw [if_neg h0] at hm ⊢
    cases hm
    exact ⟨h.2.2.1, h.2.2.2⟩
theorem main_ok {e : En} (h : okE e = true) : (mainL e).length ≤ 4 ∧ ∀ x ∈ mainL e, x.ok = true := by
  obtain ⟨h1, h2, _⟩ := ok_parts h
  unfold mainL
  split
  · exact okL_yes h1
  · exact okL_yes h2
theorem main_pick (e : En) : ∃ mA mN mc, (if 0 < e.auN then (e.auA, e.auN, e.auc) else (e.edA, e.edN, e.edc)) = (mA, mN, mc) := ⟨_, _, _, rfl⟩
end Go.Proofs.YtkkfllhdkaceoaaGreatDoor.Ce
