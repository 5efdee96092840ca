/-
  Several texts of one claim in one file: TmC, Tm, TmO, TmE.
-/
import Derived.Test.YteccmlpibbchbaaGreatDoorMarks
import Derived.Test.YteccmlpibbchbaaGreatDoorNfC
import Derived.Test.YteccmlpibbchbaaGreatDoorNmH
import Derived.Test.YteccmlpibbchbaaGreatDoorGEn
/-
  Marks written into an argument: what they leave as it was (Tm); marks in a slice of strings that lies between b0 and b1.
-/
namespace Go.Proofs.YteccmlpibbchbaaGreatDoor.Tms
open Go.RowKit Strs Nms
set_option linter.unusedVariables false
set_option linter.unusedSimpArgs false

theorem lt_cell {w : World} {b o : Nat} {v : Value} (h : w.cell? ⟨b, o, none⟩ = some v) : b < w.heap.size := by
  unfold World.cell? at h
  rcases Nat.lt_or_ge b w.heap.size with hl | hl
  · exact hl
  · rw [Array.getElem?_eq_none hl] at h; cases h

/-- from w to w' nothing has changed but strings, numbers and truth values between the blocks b0 and b1 -/
structure Tm (b0 b1 : Nat) (w w' : World) : Prop where
  os : w'.os = w.os
  tape : w'.tape = w.tape
  output : w'.output = w.output
  size : w.heap.size ≤ w'.heap.size
  out : ∀ k, k < w.heap.size → k < b0 ∨ b1 ≤ k → w'.heap[k]? = w.heap[k]?
  nf : ∀ g, NF w g → NF w' g
  sl : ∀ b o A n c, w.cell? ⟨b, o, none⟩ = some (.slice A n c) → w'.cell? ⟨b, o, none⟩ = some (.slice A n c)
  st : ∀ b o s, w.cell? ⟨b, o, none⟩ = some (.string s) → ∃ s', w'.cell? ⟨b, o, none⟩ = some (.string s')
  it : ∀ b o x, w.cell? ⟨b, o, none⟩ = some (.int .i64 x) → ∃ y, w'.cell? ⟨b, o, none⟩ = some (.int .i64 y)
  bo : ∀ b o x, w.cell? ⟨b, o, none⟩ = some (.bool x) → ∃ y, w'.cell? ⟨b, o, none⟩ = some (.bool y)
theorem Tm.refl (b0 b1 : Nat) (w : World) : Tm b0 b1 w w := ⟨rfl, rfl, rfl, Nat.le_refl _, fun _ _ _ => rfl, fun _ h => h, fun _ _ _ _ _ h => h, fun _ _ s h => ⟨s, h⟩, fun _ _ s h => ⟨s, h⟩, fun _ _ s h => ⟨s, h⟩⟩
theorem Tm.trans {b0 b1 : Nat} {w w1 w2 : World} (h : Tm b0 b1 w w1) (k : Tm b0 b1 w1 w2) : Tm b0 b1 w w2 where
  os := k.os.trans h.os
  tape := k.tape.trans h.tape
  output := k.output.trans h.output
  size := Nat.le_trans h.size k.size
  out i hi ho := (k.out i (Nat.lt_of_lt_of_le hi h.size) ho).trans (h.out i hi ho)
  nf g hg := k.nf g (h.nf g hg)
  sl b o A n c hc := k.sl b o A n c (h.sl b o A n c hc)
  st b o s hc := by obtain ⟨s', h'⟩ := h.st b o s hc; exact k.st b o s' h'
  it b o s hc := by obtain ⟨s', h'⟩ := h.it b o s hc; exact k.it b o s' h'
  bo b o s hc := by obtain ⟨s', h'⟩ := h.bo b o s hc; exact k.bo b o s' h'
theorem Tm.of_below {b0 b1 : Nat} {w w' : World} (h : Below w.heap.size w w') : Tm b0 b1 w w' :=
  have key : ∀ b o v, w.cell? ⟨b, o, none⟩ = some v → w'.cell? ⟨b, o, none⟩ = some v := fun b o v hc => (h.cell (p := ⟨b, o, none⟩) (lt_cell hc)).trans hc
  ⟨h.os, h.tape, h.output, h.size, fun k hk _ => h.block k hk, fun g hg => hg.below h, fun b o A n c hc => key b o _ hc, fun b o s hc => ⟨s, key b o _ hc⟩, fun b o s hc => ⟨s, key b o _ hc⟩, fun b o s hc => ⟨s, key b o _ hc⟩⟩
theorem Tm.below {b0 b1 B : Nat} {w w' : World} (h : Tm b0 b1 w w') (hB : B ≤ b0) (hs : B ≤ w.heap.size) : Below B w w' :=
  ⟨h.os, h.tape, h.output, h.size, fun k hk => h.out k (by omega) (.inl (by omega))⟩
/-- what form a cell has -/
def sameF : Value → Value → Bool
  | .string _, .string _ => true
  | .int .i64 _, .int .i64 _ => true
  | .bool _, .bool _ => true
  | _, _ => false
theorem Tm.put {b0 b1 b o : Nat} {w : World} {u v : Value} (h0 : b0 ≤ b) (h1 : b < b1) (hc : w.cell? ⟨b, o, none⟩ = some u) (hf : sameF u v = true) : Tm b0 b1 w (w.setCell ⟨b, o, none⟩ v) := by
  have same : (w.setCell ⟨b, o, none⟩ v).cell? ⟨b, o, none⟩ = some v := World.cell?_setCell_same _ _ _ hc
  have other : ∀ b' o', (b' ≠ b ∨ o' ≠ o) → (w.setCell ⟨b, o, none⟩ v).cell? ⟨b', o', none⟩ = w.cell? ⟨b', o', none⟩ := fun b' o' hne =>
    World.cell?_setCell_other w _ _ _ (fun e => by cases e; rcases hne with h | h <;> exact h rfl)
  refine ⟨rfl, rfl, rfl, by simp [World.setCell], fun k hk ho => Below.heap_setCell _ _ _ _ (fun e => ?_), fun g hg => hg.set _ _, ?_, ?_, ?_, ?_⟩
  · have : k = b := e
    omega
  all_goals
    intro b' o' 
    by_cases hbo : b' = b ∧ o' = o
    · obtain ⟨rfl, rfl⟩ := hbo
      first
        | (intro A n c hc'; rw [hc] at hc'; cases hc'; cases v <;> simp [sameF] at hf)
        | (intro s hc'; rw [hc] at hc'; cases hc'; cases v <;> first | (simp [sameF] at hf; done) | exact ⟨_, same⟩ | (rename_i kk _; cases kk <;> first | (simp [sameF] at hf; done) | exact ⟨_, same⟩))
    · first
        | (intro A n c hc'; exact (other b' o' (by omega)).trans hc')
        | (intro s hc'; exact ⟨s, (other b' o' (by omega)).trans hc'⟩)

/-- strings that lie between b0 and b1 -/
def Ss (b0 b1 : Nat) (w : World) (A : Option Addr) (n : Nat) : Prop := ∀ j, j < n → ∃ g o s, A = some ⟨g, o, none⟩ ∧ b0 ≤ g ∧ g < b1 ∧ NF w g ∧ w.cell? ⟨g, o + j, none⟩ = some (.string s)
theorem Ss.tm {b0 b1 n : Nat} {w w' : World} {A : Option Addr} (h : Ss b0 b1 w A n) (ht : Tm b0 b1 w w') : Ss b0 b1 w' A n := by
  intro j hj
  obtain ⟨g, o, s, e, h0, h1, hn, hc⟩ := h j hj
  obtain ⟨s', hc'⟩ := ht.st _ _ _ hc
  exact ⟨g, o, s', e, h0, h1, ht.nf _ hn, hc'⟩
set_option maxHeartbeats 1000000 in
theorem markStringS_tm (b0 b1 : Nat) (A : Option Addr) (c n k0 : Nat) (w : World) (h : Ss b0 b1 w A n) (h0 : 0 < k0) (hl : k0 + n ≤ 1073741824) :
    Calls Tryz.prog 39 #[.slice A n c, .int .i64 k0] w fun e w' => e = .returned (.int .i64 (k0 + n)) ∧ Tm b0 b1 w w' := by
  have H := Lib.hid h
  clear h
  go_enter Tryz.func39, Tryz.ntmps39
  go_wp2_with fail
  go_loopw [1, 5] (fun m i wr => ∃ k : Nat, k ≤ n ∧ i = .int .i64 k ∧ m = .int .i64 ((k0 : Int) + k) ∧ Hid (Tm b0 b1 w wr)) (fun _ i _ => n - (intOf i).toNat)
  case atStart => exact ⟨0, Nat.zero_le _, rfl, by simp, Lib.hid (Tm.refl _ _ _)⟩
  case round =>
    obtain ⟨k, hk, rfl, rfl, ht⟩ := hrel
    by_cases hlt : k < n
    · obtain ⟨g, o, s, rfl, hg0, hg1, hnf, hc⟩ := (H.out.tm ht.out) k hlt
      have HNF := Lib.hid hnf
      clear hnf
      go_wp2_with (go_at_call 38; refine (markText_any (k0 + k) _ (by omega) (by omega)).mono ?_; rintro e w' ⟨rfl, hb'⟩; have hc' := (hb'.cell (p := ⟨g, o + k, none⟩) (lt_cell hc)).trans hc; have hf' := (HNF.out.below hb').frozen (o + k) none; have HT := Lib.hid (Tm.put (b0 := b0) (b1 := b1) (v := .string (mkT (k0 + k))) hg0 hg1 hc' rfl))
      go_roundw
      case rel => exact ⟨k + 1, by omega, by go_num, by go_num, Lib.hid ((ht.out.trans (Tm.of_below hb')).trans HT.out)⟩
      case measure => simp [intOf]; omega
    · obtain rfl : k = n := by omega
      go_wp2_with fail
      go_ret
      exact ⟨rfl, ht.out⟩

theorem markText_i (z : Int) (k : Nat) (w : World) (h0 : 0 < k) (hk : k ≤ 1073741824) (hz : z = (k : Int)) :
    Calls Tryz.prog 38 #[.int .i64 z] w fun e w' => e = .returned (.string (mkT k)) ∧ Below w.heap.size w w' := by
  subst hz
  exact markText_any k w h0 hk
theorem markStringS_i (b0 b1 : Nat) (A : Option Addr) (c n k0 q : Nat) (w : World) (h : Ss b0 b1 w A n) (h0 : 0 < k0) (hl : k0 + n ≤ 1073741824) (hq : k0 + n = q) :
    Calls Tryz.prog 39 #[.slice A n c, .int .i64 k0] w fun e w' => e = .returned (.int .i64 (q : Int)) ∧ Tm b0 b1 w w' := by
  subst hq
  exact (markStringS_tm b0 b1 A c n k0 w h h0 hl).mono fun _ _ h => ⟨by rw [h.1]; rfl, h.2⟩

theorem own_tm {b0 b1 base : Nat} {w w' : World} {e : TypeId} {size n : Nat} {v : Value} {xs : List Value} (h : w.ownsRow base e size v n xs) (ht : Tm b0 b1 w w') (hb : ∀ k, v.ownBlock = some k → k < b0 ∨ b1 ≤ k) : w'.ownsRow base e size v n xs := by
  refine ⟨h.1, ?_⟩
  rcases h.2 with h' | ⟨g, cap, cur, rfl, hb1, hg, rest⟩
  · exact .inl h'
  · exact .inr ⟨g, cap, cur, rfl, hb1, (ht.out g (Array.getElem?_eq_some_iff.1 hg).1 (hb g rfl)).trans hg, rest⟩
end Go.Proofs.YteccmlpibbchbaaGreatDoor.Tms
/-
  Marks written into an argument: what they leave as it was (Tm), and the contracts of the helpers that mark slices of strings and of names, wherever these lie between b0 and b1.
-/
namespace Go.Proofs.YteccmlpibbchbaaGreatDoor.Tms
open Go.RowKit Strs Name Nms
set_option linter.unusedVariables false
set_option linter.unusedSimpArgs false

/-- names that lie between b0 and b1; ns: their numbers of words -/
def Ns (b0 b1 : Nat) (w : World) (A : Option Addr) (ns : List Nat) : Prop := ∀ j n, ns[j]? = some n → ∃ g o B c p f s, A = some ⟨g, o, none⟩ ∧ b0 ≤ g ∧ g < b1 ∧ NF w g ∧ w.cell? ⟨g, o + j * 4, none⟩ = some (.slice B n c) ∧ w.cell? ⟨g, o + j * 4 + 1, none⟩ = some (.string p) ∧ w.cell? ⟨g, o + j * 4 + 2, none⟩ = some (.string f) ∧ w.cell? ⟨g, o + j * 4 + 3, none⟩ = some (.string s) ∧ Ss b0 b1 w B n
theorem Ns.tm {b0 b1 : Nat} {ns : List Nat} {w w' : World} {A : Option Addr} (h : Ns b0 b1 w A ns) (ht : Tm b0 b1 w w') : Ns b0 b1 w' A ns := by
  intro j n hj
  obtain ⟨g, o, B, c, p, f, s, e, h0, h1, hn, c0, c1, c2, c3, hs⟩ := h j n hj
  obtain ⟨p', c1'⟩ := ht.st _ _ _ c1
  obtain ⟨f', c2'⟩ := ht.st _ _ _ c2
  obtain ⟨s', c3'⟩ := ht.st _ _ _ c3
  exact ⟨g, o, B, c, p', f', s', e, h0, h1, ht.nf _ hn, ht.sl _ _ _ _ _ c0, c1', c2', c3', hs.tm ht⟩
/-- the marks that a list of names takes -/
def cnt (ns : List Nat) : Nat := (ns.map (· + 3)).sum
theorem cnt_take {ns : List Nat} {k n : Nat} (h : ns[k]? = some n) : cnt (ns.take (k + 1)) = cnt (ns.take k) + n + 3 := by
  unfold cnt
  rw [List.take_add_one, h, List.map_append, List.sum_append]
  simp
  omega
theorem cnt_le (ns : List Nat) (k : Nat) : cnt (ns.take k) ≤ cnt ns := by
  conv => rhs; rw [← List.take_append_drop k ns]
  unfold cnt
  rw [List.map_append, List.sum_append]
  omega
theorem cnt_len (ns : List Nat) : ns.length ≤ cnt ns := by
  induction ns with
  | nil => simp [cnt]
  | cons n r ih =>
    have e : cnt (n :: r) = n + 3 + cnt r := by simp [cnt]
    rw [e, List.length_cons]
    omega
theorem rdn_ss {b0 b1 b n : Nat} {w : World} {x : Nm} (h : x.Far w b) (h0 : b0 ≤ b) (h1 : w.heap.size ≤ b1) : Ss b0 b1 w x.A x.n := by
  intro j hj
  have hl := h.1.2.2
  obtain ⟨g, o, e, hc⟩ := h.1.1 j x.xs[j] (List.getElem?_eq_getElem (by omega))
  have hf := h.2.2 (by omega) _ e
  exact ⟨g, o, _, e, Nat.le_trans h0 (Nat.le_of_lt hf.1), Nat.lt_of_lt_of_le (lt_cell hc) h1, hf.2, hc⟩
theorem fr_ns {b0 b1 g : Nat} {w : World} {M : List Nm} (hr : RdN0 w (some ⟨g, 0, none⟩) M) (hf : ∀ x ∈ M, x.Far w g) (hn : NF w g) (h0 : b0 ≤ g) (h1 : w.heap.size ≤ b1) : Ns b0 b1 w (some ⟨g, 0, none⟩) (M.map Nm.n) := by
  intro j n hj
  rw [List.getElem?_map] at hj
  obtain ⟨x, hx, rfl⟩ := Option.map_eq_some_iff.1 hj
  obtain ⟨_, g', o', e, hg, c0, c1, c2, c3⟩ := hr j x hx
  have hfx := hf x (List.mem_of_getElem? hx)
  cases e
  exact ⟨g, 0, x.A, x.c, x.p, x.f, x.s, rfl, h0, Nat.lt_of_lt_of_le hg h1, hn, c0, c1, c2, c3, rdn_ss (n := 0) hfx h0 h1⟩

set_option maxHeartbeats 2000000 in
theorem markNameS_tm (b0 b1 : Nat) (A : Option Addr) (c N k0 q0 : Nat) (ns : List Nat) (w : World) (h : Ns b0 b1 w A ns) (hn : ns.length = N) (h0 : 0 < k0) (hl : k0 + cnt ns ≤ 1073741824) (hq : k0 + cnt ns = q0) :
    Calls Tryz.prog 56 #[.slice A N c, .int .i64 k0] w fun e w' => e = .returned (.int .i64 (q0 : Int)) ∧ Tm b0 b1 w w' := by
  have H := Lib.hid h
  have HN := Lib.hid hn
  have HQ := Lib.hid hq
  have HL0 := Lib.hid hl
  have hN : N ≤ 1073741824 := by have := cnt_len ns; omega
  clear h hn hq hl
  go_enter Tryz.func56, Tryz.ntmps56
  go_wp2_with fail
  go_loopw [1, 5] (fun m i wr => ∃ j p : Nat, j ≤ N ∧ i = .int .i64 j ∧ m = .int .i64 p ∧ Hid (p = k0 + cnt (ns.take j)) ∧ Hid (Tm b0 b1 w wr)) (fun _ i _ => N - (intOf i).toNat)
  case atStart => exact ⟨0, k0, Nat.zero_le _, rfl, rfl, Lib.hid rfl, Lib.hid (Tm.refl _ _ _)⟩
  case round =>
    obtain ⟨j, p, hj, rfl, rfl, HP, ht⟩ := hrel
    by_cases hlt : j < N
    · have hjx : j < ns.length := by rw [HN.out]; exact hlt
      have HX := Lib.hid (List.getElem?_eq_getElem hjx)
      generalize ns[j] = n at *
      have hq3 : p + n + 3 ≤ 1073741824 := by have h1 := cnt_take HX.out; have h2 := cnt_le ns (j + 1); have := HP.out; have := HL0.out; omega
      have hp0 : 0 < p := by have := HP.out; omega
      have HP' : Hid (p + n + 3 = k0 + cnt (ns.take (j + 1))) := Lib.hid (by have h1 := cnt_take HX.out; have := HP.out; omega)
      obtain ⟨g, o, B, c1, pp, f, s, rfl, hg0, hg1, -, c0, -, -, -, hs⟩ := (H.out.tm ht.out) j n HX.out
      obtain ⟨q, hqq⟩ : ∃ q, p + n = q := ⟨_, rfl⟩
      have hS := Lib.hid (markStringS_i b0 b1 B c1 n p q wr hs hp0 (by omega) hqq)
      rw [hqq] at hq3 HP'
      have hq0 : 0 < q := by omega
      clear hs hqq HP
      go_wp2_with fail
      refine hS.out.mono ?_
      rintro e w1 ⟨rfl, t1⟩
      have T0 := Lib.hid (ht.out.trans t1)
      clear hS t1 ht c0
      obtain ⟨g', o', B', c', pp, f, s, e0, -, -, hn0, -, x0, -, -, -⟩ := (H.out.tm T0.out) j n HX.out
      cases e0
      go_wp2_with fail
      refine (markText_i _ q _ (by omega) (by omega) rfl).mono ?_
      rintro e u0 ⟨rfl, b0'⟩
      have d0 := (b0'.cell (p := ⟨g, o + j * 4 + 1, none⟩) (lt_cell x0)).trans x0
      have f0 := (hn0.below b0').frozen (o + j * 4 + 1) none
      have T1 := Lib.hid ((T0.out.trans (Tm.of_below b0')).trans (Tm.put (v := .string (mkT q)) hg0 hg1 d0 rfl))
      clear x0 b0' hn0 T0
      go_wp2_with fail
      generalize u0.setCell ⟨g, o + j * 4 + 1, none⟩ (.string (mkT q)) = v1 at T1 ⊢
      clear d0 f0
      obtain ⟨g', o', B', c', pp, f, s, e0, -, -, hn0, -, -, x0, -, -⟩ := (H.out.tm T1.out) j n HX.out
      cases e0
      refine (markText_i _ (q + 1) _ (by omega) (by omega) (by omega)).mono ?_
      rintro e u1 ⟨rfl, b0'⟩
      have d0 := (b0'.cell (p := ⟨g, o + j * 4 + 2, none⟩) (lt_cell x0)).trans x0
      have f0 := (hn0.below b0').frozen (o + j * 4 + 2) none
      have T2 := Lib.hid ((T1.out.trans (Tm.of_below b0')).trans (Tm.put (v := .string (mkT (q + 1))) hg0 hg1 d0 rfl))
      clear x0 b0' hn0 T1
      go_wp2_with fail
      generalize u1.setCell ⟨g, o + j * 4 + 2, none⟩ (.string (mkT (q + 1))) = v2 at T2 ⊢
      clear d0 f0
      obtain ⟨g', o', B', c', pp, f, s, e0, -, -, hn0, -, -, -, x0, -⟩ := (H.out.tm T2.out) j n HX.out
      cases e0
      refine (markText_i _ (q + 1 + 1) _ (by omega) (by omega) (by omega)).mono ?_
      rintro e u2 ⟨rfl, b0'⟩
      have d0 := (b0'.cell (p := ⟨g, o + j * 4 + 3, none⟩) (lt_cell x0)).trans x0
      have f0 := (hn0.below b0').frozen (o + j * 4 + 3) none
      have T3 := Lib.hid ((T2.out.trans (Tm.of_below b0')).trans (Tm.put (v := .string (mkT (q + 1 + 1))) hg0 hg1 d0 rfl))
      clear x0 b0' hn0 T2
      go_wp2_with fail
      go_roundw
      case rel => exact ⟨j + 1, q + 3, by omega, by go_num, by go_num, HP', T3⟩
      case measure => simp [intOf]; omega
    · obtain rfl : j = N := by omega
      have hp : p = q0 := by rw [HP.out, ← HQ.out, List.take_of_length_le (by rw [HN.out]; exact Nat.le_refl _)]
      go_wp2_with fail
      go_ret
      exact ⟨by rw [hp]; rfl, ht.out⟩
end Go.Proofs.YteccmlpibbchbaaGreatDoor.Tms
/-
  Marks: what is owned elsewhere stays; the names of fresh lists.
-/
namespace Go.Proofs.YteccmlpibbchbaaGreatDoor.Tms
open Go.RowKit Strs Name Nms Ens
set_option linter.unusedVariables false
set_option linter.unusedSimpArgs false

/-- the names of a fresh list, as marks want them, in a later world -/
theorem fr_ns' {b0 b1 g : Nat} {w : World} {M : List Nm} (h : Fr w g M) (h0 : b0 ≤ g) (h1 : w.heap.size ≤ b1) : Ns b0 b1 w (some ⟨g, 0, none⟩) (M.map Nm.n) := fr_ns h.1 h.2.1 h.2.2 h0 h1
theorem Ns.below {b0 b1 : Nat} {ns : List Nat} {w w' : World} {A : Option Addr} (h : Ns b0 b1 w A ns) (hb : Below w.heap.size w w') : Ns b0 b1 w' A ns := h.tm (Tm.of_below hb)
theorem cnt_sz {L : List Nm} {w : World} {A : Option Addr} (h : RdN0 w A L) : cnt (L.map Nm.n) ≤ 3 * L.length + szL L := by
  have hx : ∀ x ∈ L, x.n ≤ x.sz := fun x hx => by
    obtain ⟨k, hk, rfl⟩ := List.getElem_of_mem hx
    have h2 := (h k _ (List.getElem?_eq_getElem hk)).1.2.2
    unfold Nm.sz
    omega
  clear h
  induction L with
  | nil => simp [cnt]
  | cons x r ih =>
    have h1 := ih (fun y hy => hx y (List.mem_cons_of_mem _ hy))
    have h2 := hx x (List.mem_cons_self ..)
    have e1 : cnt ((x :: r).map Nm.n) = x.n + 3 + cnt (r.map Nm.n) := by simp [cnt]
    have e2 : szL (x :: r) = x.sz + szL r := by simp [szL]
    rw [e1, e2, List.length_cons]
    omega
end Go.Proofs.YteccmlpibbchbaaGreatDoor.Tms
/-
  Marks written into an entry that is an argument: markEntry.
-/
namespace Go.Proofs.YteccmlpibbchbaaGreatDoor.Tms
open Go.RowKit Strs Name Nms Ens
set_option linter.unusedVariables false
set_option linter.unusedSimpArgs false
end Go.Proofs.YteccmlpibbchbaaGreatDoor.Tms
