/-
  The state of a drawing: the cursor stands, what was there is as it was.
-/
import Derived.Test.YtljbbmefemfjpaaCurOf
import Derived.Test.YtljbbmefemfjpaaDraw0
import Derived.OwnWalk
namespace Go.Proofs.Ytljbbmefemfjpaa.StN
open Go.RowKit Pl Cur Draw0
set_option linter.unusedVariables false

theorem grown_set {w w1 : World} {g : Option Nat} (h : w.grownBy w1 g) (b o : Nat) (v : Value) (hb : w.heap.size ≤ b) : w.grownBy (w1.setCell ⟨b, o, none⟩ v) g :=
  ⟨h.os, h.tape, h.output, by simpa [World.setCell] using h.size, fun k hk hr => (Below.heap_setCell _ _ _ k (by simp; omega)).trans (h.block k hk hr)⟩
theorem grown_alloc {w w1 : World} {g : Option Nat} (h : w.grownBy w1 g) (o : Obj) : w.grownBy (w1.alloc o) g :=
  Cur.grown_trans h (World.grownBy_alloc w1 o _)
theorem cur_set {w : World} {g : Nat} {A : Option Addr} {n c k : Nat} {s : Int} (h : IsCur w g A n c k s) (b o : Nat) (v : Value) (hb : b ≠ g) : IsCur (w.setCell ⟨b, o, none⟩ v) g A n c k s :=
  (Below.heap_setCell _ _ _ g (by simp; omega)).trans h
structure St (w : World) (g : Nat) (A : Option Addr) (n c k m : Nat) (W : World) : Prop where
  cur : ∃ k' s', k' ≤ k + m ∧ IsCur W g A n c k' s'
  gr : w.grownBy W (some g)
  rd : RdB W A n
  ap : Apart A n g
  lt : g < w.heap.size
section
variable {w W W' : World} {g : Nat} {A : Option Addr} {n c k m m' : Nat}
theorem St.start {s : Int} (hc : IsCur w g A n c k s) (hr : RdB w A n) (ha : Apart A n g) : St w g A n c k 0 w := ⟨⟨k, s, Nat.le_refl _, hc⟩, World.grownBy.refl _ _, hr, ha, hc.lt⟩
theorem St.le (h : St w g A n c k m W) : w.heap.size ≤ W.heap.size := h.gr.size
theorem St.alloc (h : St w g A n c k m W) (o : Obj) : St w g A n c k m (W.alloc o) := by
  obtain ⟨k', s', hk, hc⟩ := h.cur
  exact ⟨⟨k', s', hk, hc.alloc o⟩, grown_alloc h.gr o, h.rd.alloc h.ap hc.lt o, h.ap, h.lt⟩
theorem St.call {k' : Nat} (h : St w g A n c k m W) (hk : k' ≤ k + m) (hl : LeftC W g A n c k' m' W') : St w g A n c k (m + m') W' := by
  obtain ⟨⟨k2, s2, hk2, hc2⟩, hg⟩ := hl
  exact ⟨⟨k2, s2, by omega, hc2⟩, Cur.grown_trans h.gr hg, h.rd.grown h.ap hg, h.ap, h.lt⟩
theorem St.set (h : St w g A n c k m W) (b o : Nat) (v : Value) (hb : w.heap.size ≤ b) : St w g A n c k m (W.setCell ⟨b, o, none⟩ v) := by
  obtain ⟨k', s', hk, hc⟩ := h.cur
  have hlt := h.lt
  refine ⟨⟨k', s', hk, cur_set hc b o v (by omega)⟩, grown_set h.gr b o v hb, ?_, h.ap, h.lt⟩
  intro j hj
  obtain ⟨bb, of, z, rfl, hcz, hz⟩ := h.rd j hj
  have := h.ap (by omega) _ rfl
  simp at this
  exact ⟨bb, of, z, rfl, (World.cell?_setCell_other W _ _ _ (fun e => by cases e; omega)).trans hcz, hz⟩
theorem St.left (h : St w g A n c k m W) : LeftC w g A n c k m W := ⟨h.cur, h.gr⟩
theorem St.mono (h : St w g A n c k m W) (hm : m ≤ m') : St w g A n c k m' W := by
  obtain ⟨k', s', hk, hc⟩ := h.cur
  exact ⟨⟨k', s', by omega, hc⟩, h.gr, h.rd, h.ap, h.lt⟩
theorem St.drew (h : St w g A n c k m W) : St w g A n c k m W.drew := by
  obtain ⟨k', s', hk, hc⟩ := h.cur
  exact ⟨⟨k', s', hk, hc⟩, ⟨h.gr.os, h.gr.tape, h.gr.output, h.gr.size, h.gr.block⟩, h.rd, h.ap, h.lt⟩
/-- a row grows by append: its block is no old one -/
theorem St.grow {r : Option Nat} (h : St w g A n c k m W) (hg : W.grownBy W' r) (hr : ∀ j, r = some j → w.heap.size ≤ j) : St w g A n c k m W' := by
  obtain ⟨k', s', hk, hc⟩ := h.cur
  have hlt := h.lt
  have hn : ∀ j, j < w.heap.size → some j ≠ r := fun j hj e => by have := hr j e.symm; omega
  refine ⟨⟨k', s', hk, (hg.block g hc.lt (hn g hlt)).trans hc⟩, ?_, ?_, h.ap, h.lt⟩
  · exact ⟨hg.os.trans h.gr.os, hg.tape.trans h.gr.tape, hg.output.trans h.gr.output, Nat.le_trans h.gr.size hg.size, fun j hj he => (hg.block j (Nat.lt_of_lt_of_le hj h.gr.size) (hn j hj)).trans (h.gr.block j hj he)⟩
  · intro j hj
    obtain ⟨bb, of, z, rfl, hcz, hz⟩ := h.rd j hj
    have h1 := h.ap (by omega) _ rfl
    simp at h1
    refine ⟨bb, of, z, rfl, ?_, hz⟩
    have hb := hg.block bb (by have := h.gr.size; omega) (hn bb (by omega))
    simp only [World.cell?, hb] at hcz ⊢
    exact hcz
end
theorem grown_setc (W : World) (b o : Nat) (u : Value) : W.grownBy (W.setCell ⟨b, o, none⟩ u) (some b) :=
  ⟨rfl, rfl, rfl, by simp [World.setCell], fun k hk hr => Below.heap_setCell _ _ _ k (by simp at hr ⊢; omega)⟩
end Go.Proofs.Ytljbbmefemfjpaa.StN
