/-
  The state of a drawing of a name: the cursor stands, what was there is as it was, the name lies in a block, its row of given words is its own.
-/
import Derived.Test.YtdjkgkfgnmcldaaDoorCurOf
import Derived.Test.YtdjkgkfgnmcldaaDoorDraw0
import Derived.Test.YtdjkgkfgnmcldaaDoorName
import Derived.OwnWalk
namespace Go.Proofs.YtdjkgkfgnmcldaaDoor.StN
open Go.RowKit Pl Cur Draw0 Strs Help Name
set_option linter.unusedVariables false

theorem grown_set {w w1 : World} {g : Option Nat} (h : w.grownBy w1 g) (b o : Nat) (v : Value) (hb : w.heap.size ≤ b) : w.grownBy (w1.setCell ⟨b, o, none⟩ v) g :=
  ⟨h.os, h.tape, h.output, by simpa [World.setCell] using h.size, fun k hk hr => (Below.heap_setCell _ _ _ k (by simp; omega)).trans (h.block k hk hr)⟩
theorem grown_alloc {w w1 : World} {g : Option Nat} (h : w.grownBy w1 g) (o : Obj) : w.grownBy (w1.alloc o) g :=
  Cur.grown_trans h (World.grownBy_alloc w1 o _)
theorem cur_set {w : World} {g : Nat} {A : Option Addr} {n c k : Nat} {s : Int} (h : IsCur w g A n c k s) (b o : Nat) (v : Value) (hb : b ≠ g) : IsCur (w.setCell ⟨b, o, none⟩ v) g A n c k s :=
  (Below.heap_setCell _ _ _ g (by simp; omega)).trans h
structure St (w : World) (g : Nat) (A : Option Addr) (n c k m : Nat) (W : World) : Prop where
  cur : ∃ k' s', k' ≤ k + m ∧ IsCur W g A n c k' s'
  gr : w.grownBy W (some g)
  rd : RdB W A n
  ap : Apart A n g
  lt : g < w.heap.size
section
variable {w W W' : World} {g : Nat} {A : Option Addr} {n c k m m' : Nat}
theorem St.start {s : Int} (hc : IsCur w g A n c k s) (hr : RdB w A n) (ha : Apart A n g) : St w g A n c k 0 w := ⟨⟨k, s, Nat.le_refl _, hc⟩, World.grownBy.refl _ _, hr, ha, hc.lt⟩
theorem St.le (h : St w g A n c k m W) : w.heap.size ≤ W.heap.size := h.gr.size
theorem St.alloc (h : St w g A n c k m W) (o : Obj) : St w g A n c k m (W.alloc o) := by
  obtain ⟨k', s', hk, hc⟩ := h.cur
  exact ⟨⟨k', s', hk, hc.alloc o⟩, grown_alloc h.gr o, h.rd.alloc h.ap hc.lt o, h.ap, h.lt⟩
theorem St.call {k' : Nat} (h : St w g A n c k m W) (hk : k' ≤ k + m) (hl : LeftC W g A n c k' m' W') : St w g A n c k (m + m') W' := by
  obtain ⟨⟨k2, s2, hk2, hc2⟩, hg⟩ := hl
  exact ⟨⟨k2, s2, by omega, hc2⟩, Cur.grown_trans h.gr hg, h.rd.grown h.ap hg, h.ap, h.lt⟩
theorem St.set (h : St w g A n c k m W) (b o : Nat) (v : Value) (hb : w.heap.size ≤ b) : St w g A n c k m (W.setCell ⟨b, o, none⟩ v) := by
  obtain ⟨k', s', hk, hc⟩ := h.cur
  have hlt := h.lt
  refine ⟨⟨k', s', hk, cur_set hc b o v (by omega)⟩, grown_set h.gr b o v hb, ?_, h.ap, h.lt⟩
  intro j hj
  obtain ⟨bb, of, z, rfl, hcz, hz⟩ := h.rd j hj
  have := h.ap (by omega) _ rfl
  simp at this
  exact ⟨bb, of, z, rfl, (World.cell?_setCell_other W _ _ _ (fun e => by cases e; omega)).trans hcz, hz⟩
theorem St.left (h : St w g A n c k m W) : LeftC w g A n c k m W := ⟨h.cur, h.gr⟩
theorem St.mono (h : St w g A n c k m W) (hm : m ≤ m') : St w g A n c k m' W := by
  obtain ⟨k', s', hk, hc⟩ := h.cur
  exact ⟨⟨k', s', by omega, hc⟩, h.gr, h.rd, h.ap, h.lt⟩
theorem St.drew (h : St w g A n c k m W) : St w g A n c k m W.drew := by
  obtain ⟨k', s', hk, hc⟩ := h.cur
  exact ⟨⟨k', s', hk, hc⟩, ⟨h.gr.os, h.gr.tape, h.gr.output, h.gr.size, h.gr.block⟩, h.rd, h.ap, h.lt⟩
/-- a row grows by append: its block is no old one -/
theorem St.grow {r : Option Nat} (h : St w g A n c k m W) (hg : W.grownBy W' r) (hr : ∀ j, r = some j → w.heap.size ≤ j) : St w g A n c k m W' := by
  obtain ⟨k', s', hk, hc⟩ := h.cur
  have hlt := h.lt
  have hn : ∀ j, j < w.heap.size → some j ≠ r := fun j hj e => by have := hr j e.symm; omega
  refine ⟨⟨k', s', hk, (hg.block g hc.lt (hn g hlt)).trans hc⟩, ?_, ?_, h.ap, h.lt⟩
  · exact ⟨hg.os.trans h.gr.os, hg.tape.trans h.gr.tape, hg.output.trans h.gr.output, Nat.le_trans h.gr.size hg.size, fun j hj he => (hg.block j (Nat.lt_of_lt_of_le hj h.gr.size) (hn j hj)).trans (h.gr.block j hj he)⟩
  · intro j hj
    obtain ⟨bb, of, z, rfl, hcz, hz⟩ := h.rd j hj
    have h1 := h.ap (by omega) _ rfl
    simp at h1
    refine ⟨bb, of, z, rfl, ?_, hz⟩
    have hb := hg.block bb (by have := h.gr.size; omega) (hn bb (by omega))
    simp only [World.cell?, hb] at hcz ⊢
    exact hcz
end
/-- block b holds a name and may be written -/
def C4F (W : World) (b : Nat) (v : Value) (p f s : ByteArray) : Prop := C4 W b v p f s ∧ W.frozen? ⟨b, 0, none⟩ = false ∧ W.frozen? ⟨b, 1, none⟩ = false ∧ W.frozen? ⟨b, 2, none⟩ = false ∧ W.frozen? ⟨b, 3, none⟩ = false
theorem C4F.new (w : World) (v : Value) (p f s : ByteArray) (t : TypeId) : C4F (w.alloc (.cells #[v, .string p, .string f, .string s] t)) w.heap.size v p f s :=
  ⟨C4.new w v p f s t, by simp, by simp, by simp, by simp⟩
theorem C4F.grown {w w' : World} {r : Option Nat} {b : Nat} {v : Value} {p f s : ByteArray} (h : w.grownBy w' r) (hne : some b ≠ r) (hd : C4F w b v p f s) : C4F w' b v p f s := by
  have hblk := h.block b hd.1.1 hne
  obtain ⟨⟨hl, h0, h1, h2, h3⟩, f0, f1, f2, f3⟩ := hd
  refine ⟨⟨Nat.lt_of_lt_of_le hl h.size, ?_, ?_, ?_, ?_⟩, ?_, ?_, ?_, ?_⟩
  all_goals (first | (simp only [World.cell?, hblk] at *; assumption) | (simp only [World.frozen?, hblk] at *; assumption))
theorem C4F.alloc {w : World} {b : Nat} {v : Value} {p f s : ByteArray} (hd : C4F w b v p f s) (o : Obj) : C4F (w.alloc o) b v p f s := hd.grown (World.grownBy_alloc w o none) (by simp)
theorem c_ne {W : World} {b i j : Nat} {v : Value} (h : i ≠ j) : (W.setCell ⟨b, i, none⟩ v).cell? ⟨b, j, none⟩ = W.cell? ⟨b, j, none⟩ := World.cell?_setCell_other W _ _ _ (fun e => h (by cases e; rfl))
theorem c_far {W : World} {b b' i j : Nat} {v : Value} (h : b ≠ b') : (W.setCell ⟨b, i, none⟩ v).cell? ⟨b', j, none⟩ = W.cell? ⟨b', j, none⟩ := World.cell?_setCell_other W _ _ _ (fun e => h (by cases e; rfl))
theorem C4F.far {W : World} {b b' j : Nat} {u v : Value} {p f s : ByteArray} (hne : b ≠ b') (h : C4F W b' v p f s) : C4F (W.setCell ⟨b, j, none⟩ u) b' v p f s := by
  obtain ⟨⟨hl, h0, h1, h2, h3⟩, f0, f1, f2, f3⟩ := h
  refine ⟨⟨by simpa [World.setCell] using hl, ?_, ?_, ?_, ?_⟩, ?_, ?_, ?_, ?_⟩
  all_goals first | (rw [c_far hne]; assumption) | (rw [World.frozen?_setCell]; assumption)
theorem C4F.set0 {W : World} {b : Nat} {v : Value} {p f s : ByteArray} (h : C4F W b v p f s) (u : Value) : C4F (W.setCell ⟨b, 0, none⟩ u) b u p f s := by
  obtain ⟨⟨hl, h0, h1, h2, h3⟩, f0, f1, f2, f3⟩ := h
  exact ⟨⟨by simpa [World.setCell] using hl, World.cell?_setCell_same _ _ _ h0, by rw [c_ne (by decide)]; exact h1, by rw [c_ne (by decide)]; exact h2, by rw [c_ne (by decide)]; exact h3⟩, by rw [World.frozen?_setCell]; exact f0, by rw [World.frozen?_setCell]; exact f1, by rw [World.frozen?_setCell]; exact f2, by rw [World.frozen?_setCell]; exact f3⟩
theorem C4F.set1 {W : World} {b : Nat} {v : Value} {p f s : ByteArray} (h : C4F W b v p f s) (u : ByteArray) : C4F (W.setCell ⟨b, 1, none⟩ (.string u)) b v u f s := by
  obtain ⟨⟨hl, h0, h1, h2, h3⟩, f0, f1, f2, f3⟩ := h
  exact ⟨⟨by simpa [World.setCell] using hl, by rw [c_ne (by decide)]; exact h0, World.cell?_setCell_same _ _ _ h1, by rw [c_ne (by decide)]; exact h2, by rw [c_ne (by decide)]; exact h3⟩, by rw [World.frozen?_setCell]; exact f0, by rw [World.frozen?_setCell]; exact f1, by rw [World.frozen?_setCell]; exact f2, by rw [World.frozen?_setCell]; exact f3⟩
theorem C4F.set2 {W : World} {b : Nat} {v : Value} {p f s : ByteArray} (h : C4F W b v p f s) (u : ByteArray) : C4F (W.setCell ⟨b, 2, none⟩ (.string u)) b v p u s := by
  obtain ⟨⟨hl, h0, h1, h2, h3⟩, f0, f1, f2, f3⟩ := h
  exact ⟨⟨by simpa [World.setCell] using hl, by rw [c_ne (by decide)]; exact h0, by rw [c_ne (by decide)]; exact h1, World.cell?_setCell_same _ _ _ h2, by rw [c_ne (by decide)]; exact h3⟩, by rw [World.frozen?_setCell]; exact f0, by rw [World.frozen?_setCell]; exact f1, by rw [World.frozen?_setCell]; exact f2, by rw [World.frozen?_setCell]; exact f3⟩
theorem C4F.set3 {W : World} {b : Nat} {v : Value} {p f s : ByteArray} (h : C4F W b v p f s) (u : ByteArray) : C4F (W.setCell ⟨b, 3, none⟩ (.string u)) b v p f u := by
  obtain ⟨⟨hl, h0, h1, h2, h3⟩, f0, f1, f2, f3⟩ := h
  exact ⟨⟨by simpa [World.setCell] using hl, by rw [c_ne (by decide)]; exact h0, by rw [c_ne (by decide)]; exact h1, by rw [c_ne (by decide)]; exact h2, World.cell?_setCell_same _ _ _ h3⟩, by rw [World.frozen?_setCell]; exact f0, by rw [World.frozen?_setCell]; exact f1, by rw [World.frozen?_setCell]; exact f2, by rw [World.frozen?_setCell]; exact f3⟩
/-- a row of strings of its own -/
def Gv (W : World) (B : Nat) (v : Value) (xs : List ByteArray) : Prop := W.ownsRow B 9 1 v xs.length (xs.map Value.string)
theorem Gv.kept {W W' : World} {B : Nat} {v : Value} {xs : List ByteArray} {r : Option Nat} (h : Gv W B v xs) (hg : W.grownBy W' r) (hne : v.ownBlock = none ∨ v.ownBlock ≠ r) : Gv W' B v xs := World.ownsRow.kept h hg hne
theorem Gv.alloc {W : World} {B : Nat} {v : Value} {xs : List ByteArray} (h : Gv W B v xs) (o : Obj) : Gv (W.alloc o) B v xs := World.ownsRow.alloc h o
theorem Gv.form {W : World} {B : Nat} {v : Value} {xs : List ByteArray} (h : Gv W B v xs) : ∃ A c, v = .slice A xs.length c ∧ xs.length ≤ c := by
  rcases h.2 with ⟨rfl, h0⟩ | ⟨g, cap, cur, rfl, _, _, hc, _⟩
  · exact ⟨none, 0, by rw [h0], by omega⟩
  · exact ⟨_, _, rfl, hc⟩
theorem Gv.nil (W : World) (B : Nat) : Gv W B (.slice none 0 0) [] := World.ownsRow_nil _ _ _ _
theorem Gv.at_least {W : World} {B : Nat} {v : Value} {xs : List ByteArray} (h : Gv W B v xs) {j : Nat} (hj : v.ownBlock = some j) : j < W.heap.size ∧ B ≤ j := by
  have := World.ownsRow.lt h j hj
  exact ⟨this.2, this.1⟩
theorem grown_setc (W : World) (b o : Nat) (u : Value) : W.grownBy (W.setCell ⟨b, o, none⟩ u) (some b) :=
  ⟨rfl, rfl, rfl, by simp [World.setCell], fun k hk hr => Below.heap_setCell _ _ _ k (by simp at hr ⊢; omega)⟩
theorem Gv.setc {W : World} {B : Nat} {v : Value} {xs : List ByteArray} (h : Gv W B v xs) {b : Nat} (hb : b < B) (o : Nat) (u : Value) : Gv (W.setCell ⟨b, o, none⟩ u) B v xs :=
  h.kept (grown_setc W b o u) (.inr fun e => by have := (h.at_least e).2; omega)
theorem Gv.base {W : World} {B B' : Nat} {v : Value} {xs : List ByteArray} (h : Gv W B v xs) (hb : B' ≤ B) : Gv W B' v xs := by
  refine ⟨h.1, ?_⟩
  rcases h.2 with h' | ⟨g, cap, cur, e1, e2, e3⟩
  · exact .inl h'
  · exact .inr ⟨g, cap, cur, e1, Nat.le_trans hb e2, e3⟩
theorem Gv.call {W W' : World} {B g : Nat} {v : Value} {xs : List ByteArray} (h : Gv W B v xs) (hg : W.grownBy W' (some g)) (hb : g < B) : Gv W' B v xs :=
  h.kept hg (.inr fun e => by have := (h.at_least e).2; omega)
theorem Gv.snoc {W : World} {B : Nat} {v : Value} {xs : List ByteArray} {y : ByteArray} (h : W.ownsRow B 9 1 v (xs.length + 1) (xs.map Value.string ++ [.string y])) : Gv W B v (xs ++ [y]) := by
  unfold Gv
  rw [List.length_append, List.map_append]
  exact h
end Go.Proofs.YtdjkgkfgnmcldaaDoor.StN
