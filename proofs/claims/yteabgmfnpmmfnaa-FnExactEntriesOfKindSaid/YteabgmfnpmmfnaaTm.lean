/-
  Marks written into an argument: what they leave as it was (Tm), and the contracts of the helpers that mark slices of strings and of names, wherever these lie between b0 and b1.
-/
import Derived.Test.YteabgmfnpmmfnaaMarks
import Derived.Test.YteabgmfnpmmfnaaTmC
import Derived.Test.YteabgmfnpmmfnaaNmH
namespace Go.Proofs.Yteabgmfnpmmfnaa.Tms
open Go.RowKit Strs Name Nms
set_option linter.unusedVariables false
set_option linter.unusedSimpArgs false

/-- names that lie between b0 and b1; ns: their numbers of words -/
def Ns (b0 b1 : Nat) (w : World) (A : Option Addr) (ns : List Nat) : Prop := ∀ j n, ns[j]? = some n → ∃ g o B c p f s, A = some ⟨g, o, none⟩ ∧ b0 ≤ g ∧ g < b1 ∧ NF w g ∧ w.cell? ⟨g, o + j * 4, none⟩ = some (.slice B n c) ∧ w.cell? ⟨g, o + j * 4 + 1, none⟩ = some (.string p) ∧ w.cell? ⟨g, o + j * 4 + 2, none⟩ = some (.string f) ∧ w.cell? ⟨g, o + j * 4 + 3, none⟩ = some (.string s) ∧ Ss b0 b1 w B n
theorem Ns.tm {b0 b1 : Nat} {ns : List Nat} {w w' : World} {A : Option Addr} (h : Ns b0 b1 w A ns) (ht : Tm b0 b1 w w') : Ns b0 b1 w' A ns := by
  intro j n hj
  obtain ⟨g, o, B, c, p, f, s, e, h0, h1, hn, c0, c1, c2, c3, hs⟩ := h j n hj
  obtain ⟨p', c1'⟩ := ht.st _ _ _ c1
  obtain ⟨f', c2'⟩ := ht.st _ _ _ c2
  obtain ⟨s', c3'⟩ := ht.st _ _ _ c3
  exact ⟨g, o, B, c, p', f', s', e, h0, h1, ht.nf _ hn, ht.sl _ _ _ _ _ c0, c1', c2', c3', hs.tm ht⟩
/-- the marks that a list of names takes -/
def cnt (ns : List Nat) : Nat := (ns.map (· + 3)).sum
theorem cnt_take {ns : List Nat} {k n : Nat} (h : ns[k]? = some n) : cnt (ns.take (k + 1)) = cnt (ns.take k) + n + 3 := by
  unfold cnt
  rw [List.take_add_one, h, List.map_append, List.sum_append]
  simp
  omega
theorem cnt_le (ns : List Nat) (k : Nat) : cnt (ns.take k) ≤ cnt ns := by
  conv => rhs; rw [← List.take_append_drop k ns]
  unfold cnt
  rw [List.map_append, List.sum_append]
  omega
theorem cnt_len (ns : List Nat) : ns.length ≤ cnt ns := by
  induction ns with
  | nil => simp [cnt]
  | cons n r ih =>
    have e : cnt (n :: r) = n + 3 + cnt r := by simp [cnt]
    rw [e, List.length_cons]
    omega
theorem rdn_ss {b0 b1 b n : Nat} {w : World} {x : Nm} (h : x.Far w b) (h0 : b0 ≤ b) (h1 : w.heap.size ≤ b1) : Ss b0 b1 w x.A x.n := by
  intro j hj
  have hl := h.1.2.2
  obtain ⟨g, o, e, hc⟩ := h.1.1 j x.xs[j] (List.getElem?_eq_getElem (by omega))
  have hf := h.2.2 (by omega) _ e
  exact ⟨g, o, _, e, Nat.le_trans h0 (Nat.le_of_lt hf.1), Nat.lt_of_lt_of_le (lt_cell hc) h1, hf.2, hc⟩
theorem fr_ns {b0 b1 g : Nat} {w : World} {M : List Nm} (hr : RdN0 w (some ⟨g, 0, none⟩) M) (hf : ∀ x ∈ M, x.Far w g) (hn : NF w g) (h0 : b0 ≤ g) (h1 : w.heap.size ≤ b1) : Ns b0 b1 w (some ⟨g, 0, none⟩) (M.map Nm.n) := by
  intro j n hj
  rw [List.getElem?_map] at hj
  obtain ⟨x, hx, rfl⟩ := Option.map_eq_some_iff.1 hj
  obtain ⟨_, g', o', e, hg, c0, c1, c2, c3⟩ := hr j x hx
  have hfx := hf x (List.mem_of_getElem? hx)
  cases e
  exact ⟨g, 0, x.A, x.c, x.p, x.f, x.s, rfl, h0, Nat.lt_of_lt_of_le hg h1, hn, c0, c1, c2, c3, rdn_ss (n := 0) hfx h0 h1⟩

set_option maxHeartbeats 2000000 in
theorem markNameS_tm (b0 b1 : Nat) (A : Option Addr) (c N k0 q0 : Nat) (ns : List Nat) (w : World) (h : Ns b0 b1 w A ns) (hn : ns.length = N) (h0 : 0 < k0) (hl : k0 + cnt ns ≤ 1073741824) (hq : k0 + cnt ns = q0) :
    Calls Try.prog 28 #[.slice A N c, .int .i64 k0] w fun e w' => e = .returned (.int .i64 (q0 : Int)) ∧ Tm b0 b1 w w' := by
  have H := Lib.hid h
  have HN := Lib.hid hn
  have HQ := Lib.hid hq
  have HL0 := Lib.hid hl
  have hN : N ≤ 1073741824 := by have := cnt_len ns; omega
  clear h hn hq hl
  go_enter Try.func28, Try.ntmps28
  go_wp2_with fail
  go_loopw [1, 5] (fun m i wr => ∃ j p : Nat, j ≤ N ∧ i = .int .i64 j ∧ m = .int .i64 p ∧ Hid (p = k0 + cnt (ns.take j)) ∧ Hid (Tm b0 b1 w wr)) (fun _ i _ => N - (intOf i).toNat)
  case atStart => exact ⟨0, k0, Nat.zero_le _, rfl, rfl, Lib.hid rfl, Lib.hid (Tm.refl _ _ _)⟩
  case round =>
    obtain ⟨j, p, hj, rfl, rfl, HP, ht⟩ := hrel
    by_cases hlt : j < N
    · have hjx : j < ns.length := by rw [HN.out]; exact hlt
      have HX := Lib.hid (List.getElem?_eq_getElem hjx)
      generalize ns[j] = n at *
      have hq3 : p + n + 3 ≤ 1073741824 := by have h1 := cnt_take HX.out; have h2 := cnt_le ns (j + 1); have := HP.out; have := HL0.out; omega
      have hp0 : 0 < p := by have := HP.out; omega
      have HP' : Hid (p + n + 3 = k0 + cnt (ns.take (j + 1))) := Lib.hid (by have h1 := cnt_take HX.out; have := HP.out; omega)
      obtain ⟨g, o, B, c1, pp, f, s, rfl, hg0, hg1, -, c0, -, -, -, hs⟩ := (H.out.tm ht.out) j n HX.out
      obtain ⟨q, hqq⟩ : ∃ q, p + n = q := ⟨_, rfl⟩
      have hS := Lib.hid (markStringS_i b0 b1 B c1 n p q wr hs hp0 (by omega) hqq)
      rw [hqq] at hq3 HP'
      have hq0 : 0 < q := by omega
      clear hs hqq HP
      go_wp2_with fail
      refine hS.out.mono ?_
      rintro e w1 ⟨rfl, t1⟩
      have T0 := Lib.hid (ht.out.trans t1)
      clear hS t1 ht c0
      obtain ⟨g', o', B', c', pp, f, s, e0, -, -, hn0, -, x0, -, -, -⟩ := (H.out.tm T0.out) j n HX.out
      cases e0
      go_wp2_with fail
      refine (markText_i _ q _ (by omega) (by omega) rfl).mono ?_
      rintro e u0 ⟨rfl, b0'⟩
      have d0 := (b0'.cell (p := ⟨g, o + j * 4 + 1, none⟩) (lt_cell x0)).trans x0
      have f0 := (hn0.below b0').frozen (o + j * 4 + 1) none
      have T1 := Lib.hid ((T0.out.trans (Tm.of_below b0')).trans (Tm.put (v := .string (mkT q)) hg0 hg1 d0 rfl))
      clear x0 b0' hn0 T0
      go_wp2_with fail
      generalize u0.setCell ⟨g, o + j * 4 + 1, none⟩ (.string (mkT q)) = v1 at T1 ⊢
      clear d0 f0
      obtain ⟨g', o', B', c', pp, f, s, e0, -, -, hn0, -, -, x0, -, -⟩ := (H.out.tm T1.out) j n HX.out
      cases e0
      refine (markText_i _ (q + 1) _ (by omega) (by omega) (by omega)).mono ?_
      rintro e u1 ⟨rfl, b0'⟩
      have d0 := (b0'.cell (p := ⟨g, o + j * 4 + 2, none⟩) (lt_cell x0)).trans x0
      have f0 := (hn0.below b0').frozen (o + j * 4 + 2) none
      have T2 := Lib.hid ((T1.out.trans (Tm.of_below b0')).trans (Tm.put (v := .string (mkT (q + 1))) hg0 hg1 d0 rfl))
      clear x0 b0' hn0 T1
      go_wp2_with fail
      generalize u1.setCell ⟨g, o + j * 4 + 2, none⟩ (.string (mkT (q + 1))) = v2 at T2 ⊢
      clear d0 f0
      obtain ⟨g', o', B', c', pp, f, s, e0, -, -, hn0, -, -, -, x0, -⟩ := (H.out.tm T2.out) j n HX.out
      cases e0
      refine (markText_i _ (q + 1 + 1) _ (by omega) (by omega) (by omega)).mono ?_
      rintro e u2 ⟨rfl, b0'⟩
      have d0 := (b0'.cell (p := ⟨g, o + j * 4 + 3, none⟩) (lt_cell x0)).trans x0
      have f0 := (hn0.below b0').frozen (o + j * 4 + 3) none
      have T3 := Lib.hid ((T2.out.trans (Tm.of_below b0')).trans (Tm.put (v := .string (mkT (q + 1 + 1))) hg0 hg1 d0 rfl))
      clear x0 b0' hn0 T2
      go_wp2_with fail
      go_roundw
      case rel => exact ⟨j + 1, q + 3, by omega, by go_num, by go_num, HP', T3⟩
      case measure => simp [intOf]; omega
    · obtain rfl : j = N := by omega
      have hp : p = q0 := by rw [HP.out, ← HQ.out, List.take_of_length_le (by rw [HN.out]; exact Nat.le_refl _)]
      go_wp2_with fail
      go_ret
      exact ⟨by rw [hp]; rfl, ht.out⟩
end Go.Proofs.Yteabgmfnpmmfnaa.Tms
