/-
  Marks written into an argument: what they leave as it was (Tm); marks in a slice of strings that lies between b0 and b1.
-/
import Derived.Test.YteabgmfnpmmfnaaMarks
import Derived.Test.YteabgmfnpmmfnaaNfC
namespace Go.Proofs.Yteabgmfnpmmfnaa.Tms
open Go.RowKit Strs Nms
set_option linter.unusedVariables false
set_option linter.unusedSimpArgs false

theorem lt_cell {w : World} {b o : Nat} {v : Value} (h : w.cell? ⟨b, o, none⟩ = some v) : b < w.heap.size := by
  unfold World.cell? at h
  rcases Nat.lt_or_ge b w.heap.size with hl | hl
  · exact hl
  · rw [Array.getElem?_eq_none hl] at h; cases h

/-- from w to w' nothing has changed but strings, numbers and truth values between the blocks b0 and b1 -/
structure Tm (b0 b1 : Nat) (w w' : World) : Prop where
  os : w'.os = w.os
  tape : w'.tape = w.tape
  output : w'.output = w.output
  size : w.heap.size ≤ w'.heap.size
  out : ∀ k, k < w.heap.size → k < b0 ∨ b1 ≤ k → w'.heap[k]? = w.heap[k]?
  nf : ∀ g, NF w g → NF w' g
  sl : ∀ b o A n c, w.cell? ⟨b, o, none⟩ = some (.slice A n c) → w'.cell? ⟨b, o, none⟩ = some (.slice A n c)
  st : ∀ b o s, w.cell? ⟨b, o, none⟩ = some (.string s) → ∃ s', w'.cell? ⟨b, o, none⟩ = some (.string s')
  it : ∀ b o x, w.cell? ⟨b, o, none⟩ = some (.int .i64 x) → ∃ y, w'.cell? ⟨b, o, none⟩ = some (.int .i64 y)
  bo : ∀ b o x, w.cell? ⟨b, o, none⟩ = some (.bool x) → ∃ y, w'.cell? ⟨b, o, none⟩ = some (.bool y)
theorem Tm.refl (b0 b1 : Nat) (w : World) : Tm b0 b1 w w := ⟨rfl, rfl, rfl, Nat.le_refl _, fun _ _ _ => rfl, fun _ h => h, fun _ _ _ _ _ h => h, fun _ _ s h => ⟨s, h⟩, fun _ _ s h => ⟨s, h⟩, fun _ _ s h => ⟨s, h⟩⟩
theorem Tm.trans {b0 b1 : Nat} {w w1 w2 : World} (h : Tm b0 b1 w w1) (k : Tm b0 b1 w1 w2) : Tm b0 b1 w w2 where
  os := k.os.trans h.os
  tape := k.tape.trans h.tape
  output := k.output.trans h.output
  size := Nat.le_trans h.size k.size
  out i hi ho := (k.out i (Nat.lt_of_lt_of_le hi h.size) ho).trans (h.out i hi ho)
  nf g hg := k.nf g (h.nf g hg)
  sl b o A n c hc := k.sl b o A n c (h.sl b o A n c hc)
  st b o s hc := by obtain ⟨s', h'⟩ := h.st b o s hc; exact k.st b o s' h'
  it b o s hc := by obtain ⟨s', h'⟩ := h.it b o s hc; exact k.it b o s' h'
  bo b o s hc := by obtain ⟨s', h'⟩ := h.bo b o s hc; exact k.bo b o s' h'
theorem Tm.of_below {b0 b1 : Nat} {w w' : World} (h : Below w.heap.size w w') : Tm b0 b1 w w' :=
  have key : ∀ b o v, w.cell? ⟨b, o, none⟩ = some v → w'.cell? ⟨b, o, none⟩ = some v := fun b o v hc => (h.cell (p := ⟨b, o, none⟩) (lt_cell hc)).trans hc
  ⟨h.os, h.tape, h.output, h.size, fun k hk _ => h.block k hk, fun g hg => hg.below h, fun b o A n c hc => key b o _ hc, fun b o s hc => ⟨s, key b o _ hc⟩, fun b o s hc => ⟨s, key b o _ hc⟩, fun b o s hc => ⟨s, key b o _ hc⟩⟩
theorem Tm.below {b0 b1 B : Nat} {w w' : World} (h : Tm b0 b1 w w') (hB : B ≤ b0) (hs : B ≤ w.heap.size) : Below B w w' :=
  ⟨h.os, h.tape, h.output, h.size, fun k hk => h.out k (by omega) (.inl (by omega))⟩
/-- what form a cell has -/
def sameF : Value → Value → Bool
  | .string _, .string _ => true
  | .int .i64 _, .int .i64 _ => true
  | .bool _, .bool _ => true
  | _, _ => false
theorem Tm.put {b0 b1 b o : Nat} {w : World} {u v : Value} (h0 : b0 ≤ b) (h1 : b < b1) (hc : w.cell? ⟨b, o, none⟩ = some u) (hf : sameF u v = true) : Tm b0 b1 w (w.setCell ⟨b, o, none⟩ v) := by
  have same : (w.setCell ⟨b, o, none⟩ v).cell? ⟨b, o, none⟩ = some v := World.cell?_setCell_same _ _ _ hc
  have other : ∀ b' o', (b' ≠ b ∨ o' ≠ o) → (w.setCell ⟨b, o, none⟩ v).cell? ⟨b', o', none⟩ = w.cell? ⟨b', o', none⟩ := fun b' o' hne =>
    World.cell?_setCell_other w _ _ _ (fun e => by cases e; rcases hne with h | h <;> exact h rfl)
  refine ⟨rfl, rfl, rfl, by simp [World.setCell], fun k hk ho => Below.heap_setCell _ _ _ _ (fun e => ?_), fun g hg => hg.set _ _, ?_, ?_, ?_, ?_⟩
  · have : k = b := e
    omega
  all_goals
    intro b' o' 
    by_cases hbo : b' = b ∧ o' = o
    · obtain ⟨rfl, rfl⟩ := hbo
      first
        | (intro A n c hc'; rw [hc] at hc'; cases hc'; cases v <;> simp [sameF] at hf)
        | (intro s hc'; rw [hc] at hc'; cases hc'; cases v <;> first | (simp [sameF] at hf; done) | exact ⟨_, same⟩ | (rename_i kk _; cases kk <;> first | (simp [sameF] at hf; done) | exact ⟨_, same⟩))
    · first
        | (intro A n c hc'; exact (other b' o' (by omega)).trans hc')
        | (intro s hc'; exact ⟨s, (other b' o' (by omega)).trans hc'⟩)

/-- strings that lie between b0 and b1 -/
def Ss (b0 b1 : Nat) (w : World) (A : Option Addr) (n : Nat) : Prop := ∀ j, j < n → ∃ g o s, A = some ⟨g, o, none⟩ ∧ b0 ≤ g ∧ g < b1 ∧ NF w g ∧ w.cell? ⟨g, o + j, none⟩ = some (.string s)
theorem Ss.tm {b0 b1 n : Nat} {w w' : World} {A : Option Addr} (h : Ss b0 b1 w A n) (ht : Tm b0 b1 w w') : Ss b0 b1 w' A n := by
  intro j hj
  obtain ⟨g, o, s, e, h0, h1, hn, hc⟩ := h j hj
  obtain ⟨s', hc'⟩ := ht.st _ _ _ hc
  exact ⟨g, o, s', e, h0, h1, ht.nf _ hn, hc'⟩
set_option maxHeartbeats 1000000 in
theorem markStringS_tm (b0 b1 : Nat) (A : Option Addr) (c n k0 : Nat) (w : World) (h : Ss b0 b1 w A n) (h0 : 0 < k0) (hl : k0 + n ≤ 1073741824) :
    Calls Try.prog 11 #[.slice A n c, .int .i64 k0] w fun e w' => e = .returned (.int .i64 (k0 + n)) ∧ Tm b0 b1 w w' := by
  have H := Lib.hid h
  clear h
  go_enter Try.func11, Try.ntmps11
  go_wp2_with fail
  go_loopw [1, 5] (fun m i wr => ∃ k : Nat, k ≤ n ∧ i = .int .i64 k ∧ m = .int .i64 ((k0 : Int) + k) ∧ Hid (Tm b0 b1 w wr)) (fun _ i _ => n - (intOf i).toNat)
  case atStart => exact ⟨0, Nat.zero_le _, rfl, by simp, Lib.hid (Tm.refl _ _ _)⟩
  case round =>
    obtain ⟨k, hk, rfl, rfl, ht⟩ := hrel
    by_cases hlt : k < n
    · obtain ⟨g, o, s, rfl, hg0, hg1, hnf, hc⟩ := (H.out.tm ht.out) k hlt
      have HNF := Lib.hid hnf
      clear hnf
      go_wp2_with (go_at_call 21; refine (markText_any (k0 + k) _ (by omega) (by omega)).mono ?_; rintro e w' ⟨rfl, hb'⟩; have hc' := (hb'.cell (p := ⟨g, o + k, none⟩) (lt_cell hc)).trans hc; have hf' := (HNF.out.below hb').frozen (o + k) none; have HT := Lib.hid (Tm.put (b0 := b0) (b1 := b1) (v := .string (mkT (k0 + k))) hg0 hg1 hc' rfl))
      go_roundw
      case rel => exact ⟨k + 1, by omega, by go_num, by go_num, Lib.hid ((ht.out.trans (Tm.of_below hb')).trans HT.out)⟩
      case measure => simp [intOf]; omega
    · obtain rfl : k = n := by omega
      go_wp2_with fail
      go_ret
      exact ⟨rfl, ht.out⟩

theorem markText_i (z : Int) (k : Nat) (w : World) (h0 : 0 < k) (hk : k ≤ 1073741824) (hz : z = (k : Int)) :
    Calls Try.prog 21 #[.int .i64 z] w fun e w' => e = .returned (.string (mkT k)) ∧ Below w.heap.size w w' := by
  subst hz
  exact markText_any k w h0 hk
theorem markStringS_i (b0 b1 : Nat) (A : Option Addr) (c n k0 q : Nat) (w : World) (h : Ss b0 b1 w A n) (h0 : 0 < k0) (hl : k0 + n ≤ 1073741824) (hq : k0 + n = q) :
    Calls Try.prog 11 #[.slice A n c, .int .i64 k0] w fun e w' => e = .returned (.int .i64 (q : Int)) ∧ Tm b0 b1 w w' := by
  subst hq
  exact (markStringS_tm b0 b1 A c n k0 w h h0 hl).mono fun _ _ h => ⟨by rw [h.1]; rfl, h.2⟩

theorem own_tm {b0 b1 base : Nat} {w w' : World} {e : TypeId} {size n : Nat} {v : Value} {xs : List Value} (h : w.ownsRow base e size v n xs) (ht : Tm b0 b1 w w') (hb : ∀ k, v.ownBlock = some k → k < b0 ∨ b1 ≤ k) : w'.ownsRow base e size v n xs := by
  refine ⟨h.1, ?_⟩
  rcases h.2 with h' | ⟨g, cap, cur, rfl, hb1, hg, rest⟩
  · exact .inl h'
  · exact .inr ⟨g, cap, cur, rfl, hb1, (ht.out g (Array.getElem?_eq_some_iff.1 hg).1 (hb g rfl)).trans hg, rest⟩
end Go.Proofs.Yteabgmfnpmmfnaa.Tms
