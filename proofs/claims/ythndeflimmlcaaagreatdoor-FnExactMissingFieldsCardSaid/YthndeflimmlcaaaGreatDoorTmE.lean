/-
  Marks written into an entry that is an argument: markEntry; what is owned elsewhere stays.
-/
import Derived.Test.YthndeflimmlcaaaGreatDoorTm
import Derived.Test.YthndeflimmlcaaaGreatDoorEn3
namespace Go.Proofs.YthndeflimmlcaaaGreatDoor.Tms
open Go.RowKit Strs Name Nms Ens
set_option linter.unusedVariables false
set_option linter.unusedSimpArgs false

theorem own_tm {b0 b1 base : Nat} {w w' : World} {e : TypeId} {size n : Nat} {v : Value} {xs : List Value} (h : w.ownsRow base e size v n xs) (ht : Tm b0 b1 w w') (hb : ∀ k, v.ownBlock = some k → k < b0 ∨ b1 ≤ k) : w'.ownsRow base e size v n xs := by
  refine ⟨h.1, ?_⟩
  rcases h.2 with h' | ⟨g, cap, cur, rfl, hb1, hg, rest⟩
  · exact .inl h'
  · exact .inr ⟨g, cap, cur, rfl, hb1, (ht.out g (Array.getElem?_eq_some_iff.1 hg).1 (hb g rfl)).trans hg, rest⟩
/-- the names of a fresh list, as marks want them, in a later world -/
theorem fr_ns' {b0 b1 g : Nat} {w : World} {M : List Nm} (h : Fr w g M) (h0 : b0 ≤ g) (h1 : w.heap.size ≤ b1) : Ns b0 b1 w (some ⟨g, 0, none⟩) (M.map Nm.n) := fr_ns h.1 h.2.1 h.2.2 h0 h1
theorem Ns.below {b0 b1 : Nat} {ns : List Nat} {w w' : World} {A : Option Addr} (h : Ns b0 b1 w A ns) (hb : Below w.heap.size w w') : Ns b0 b1 w' A ns := h.tm (Tm.of_below hb)
theorem cnt_sz {L : List Nm} {w : World} {A : Option Addr} (h : RdN0 w A L) : cnt (L.map Nm.n) ≤ 3 * L.length + szL L := by
  have hx : ∀ x ∈ L, x.n ≤ x.sz := fun x hx => by
    obtain ⟨k, hk, rfl⟩ := List.getElem_of_mem hx
    have h2 := (h k _ (List.getElem?_eq_getElem hk)).1.2.2
    unfold Nm.sz
    omega
  clear h
  induction L with
  | nil => simp [cnt]
  | cons x r ih =>
    have h1 := ih (fun y hy => hx y (List.mem_cons_of_mem _ hy))
    have h2 := hx x (List.mem_cons_self ..)
    have e1 : cnt ((x :: r).map Nm.n) = x.n + 3 + cnt (r.map Nm.n) := by simp [cnt]
    have e2 : szL (x :: r) = x.sz + szL r := by simp [szL]
    rw [e1, e2, List.length_cons]
    omega
set_option maxRecDepth 100000 in
set_option maxHeartbeats 4000000 in
theorem markEntry_tm (b0 b1 k0 : Nat) (ns ms : List Nat) (key : ByteArray) (kind : Int) (auA : Option Addr) (auN auc : Nat) (edA : Option Addr) (edN edc : Nat) (ti : ByteArray) (co : ByteArray) (pu : ByteArray) (y : Int) (m : Int) (d : Int) (ci : Bool) (vol : Int) (pa : ByteArray) (cr : ByteArray) (w : World) (ha : Ns b0 b1 w auA ns) (hna : ns.length = auN) (he : Ns b0 b1 w edA ms) (hne : ms.length = edN) (h0 : 0 < k0) (hq : k0 + cnt ns + cnt ms ≤ 1073741824) :
    Calls Tryz.prog 16 #[.agg #[.string key, .int .i64 kind, .slice auA auN auc, .slice edA edN edc, .string ti, .string co, .string pu, .int .i64 y, .int .i64 m, .int .i64 d, .bool ci, .int .i64 vol, .string pa, .string cr], .int .i64 k0] w fun e w' => e = .returned (.int .i64 ((k0 + cnt ns + cnt ms : Nat) : Int)) ∧ Tm b0 b1 w w' := by
  have HB := Lib.hid ((Below.refl _ w).alloc (Nat.le_refl _) (.cells #[.string key, .int .i64 kind, .slice auA auN auc, .slice edA edN edc, .string ti, .string co, .string pu, .int .i64 y, .int .i64 m, .int .i64 d, .bool ci, .int .i64 vol, .string pa, .string cr] 34))
  have HX := Lib.hid (E14.new w (⟨key, kind, auA, auN, auc, [], edA, edN, edc, [], ti, co, pu, y, m, d, ci, vol, pa, cr⟩ : En) 34)
  have HA := Lib.hid (ha.below HB.out)
  have HE := Lib.hid (he.below HB.out)
  obtain ⟨q1, hq1⟩ : ∃ q, k0 + cnt ns = q := ⟨_, rfl⟩
  obtain ⟨q2, hq2⟩ : ∃ q, q1 + cnt ms = q := ⟨_, rfl⟩
  rw [hq1, hq2] at hq
  have HQ : Hid (k0 + cnt ns + cnt ms = q2) := Lib.hid (by rw [hq1, hq2])
  have H1 := Lib.hid (markNameS_tm b0 b1 auA auc auN k0 q1 ns _ HA.out hna h0 (by rw [hq1]; omega) hq1)
  have H2 := Lib.hid (fun w' (h : Ns b0 b1 w' edA ms) => markNameS_tm b0 b1 edA edc edN q1 q2 ms w' h hne (by omega) (by rw [hq2]; omega) hq2)
  rw [HQ.out]
  clear ha hna he hne hq1 hq2 hq HQ
  go_enter Tryz.func16, Tryz.ntmps16
  go_wp2_with fail
  generalize w.alloc _ = w0 at HB HX HA HE H1 ⊢
  refine H1.out.mono ?_
  rintro e w1 ⟨rfl, t1⟩
  have c3 := t1.sl _ _ _ _ _ HX.out.2.2.2.2.1
  dsimp only at c3
  have HE1 := Lib.hid (H2.out w1 (HE.out.tm t1))
  go_wp2_with fail
  refine HE1.out.mono ?_
  rintro e w2 ⟨rfl, t2⟩
  go_wp2_with fail
  go_ret
  exact ⟨rfl, ((Tm.of_below HB.out).trans t1).trans t2⟩
end Go.Proofs.YthndeflimmlcaaaGreatDoor.Tms
