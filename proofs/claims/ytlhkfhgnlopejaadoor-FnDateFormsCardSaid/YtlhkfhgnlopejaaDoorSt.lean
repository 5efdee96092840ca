/-
  The state of a drawing: the cursor stands, what was there is as it was, the bytes are read as before.
-/
import Derived.Test.YtlhkfhgnlopejaaDoorAmong
import Derived.Test.YtlhkfhgnlopejaaDoorLaw2
namespace Go.Proofs.YtlhkfhgnlopejaaDoor.St
open Go.RowKit Pl Cur Draw0 Among DtPl Dt Law2
set_option linter.unusedVariables false

structure St (w : World) (g : Nat) (A : Option Addr) (n c k m : Nat) (W : World) : Prop where
  cur : ∃ k' s', k' ≤ k + m ∧ IsCur W g A n c k' s'
  gr : w.grownBy W (some g)
  rd : RdB W A n
  ap : Apart A n g
  lt : g < w.heap.size
section
variable {w W W' : World} {g : Nat} {A : Option Addr} {n c k m m' : Nat}
theorem St.start {s : Int} (hc : IsCur w g A n c k s) (hr : RdB w A n) (ha : Apart A n g) : St w g A n c k 0 w := ⟨⟨k, s, Nat.le_refl _, hc⟩, World.grownBy.refl _ _, hr, ha, hc.lt⟩
theorem St.le (h : St w g A n c k m W) : w.heap.size ≤ W.heap.size := h.gr.size
theorem St.alloc (h : St w g A n c k m W) (o : Obj) : St w g A n c k m (W.alloc o) := by
  obtain ⟨k', s', hk, hc⟩ := h.cur
  exact ⟨⟨k', s', hk, hc.alloc o⟩, grown_alloc h.gr o, h.rd.alloc h.ap hc.lt o, h.ap, h.lt⟩
theorem St.call {k' : Nat} (h : St w g A n c k m W) (hk : k' ≤ k + m) (hl : LeftC W g A n c k' m' W') : St w g A n c k (m + m') W' := by
  obtain ⟨⟨k2, s2, hk2, hc2⟩, hg⟩ := hl
  exact ⟨⟨k2, s2, by omega, hc2⟩, grown_trans h.gr hg, h.rd.grown h.ap hg, h.ap, h.lt⟩
theorem St.set (h : St w g A n c k m W) (b o : Nat) (v : Value) (hb : w.heap.size ≤ b) : St w g A n c k m (W.setCell ⟨b, o, none⟩ v) := by
  obtain ⟨k', s', hk, hc⟩ := h.cur
  have hlt := h.lt
  refine ⟨⟨k', s', hk, cur_set hc b o v (by omega)⟩, grown_set h.gr b o v hb, ?_, h.ap, h.lt⟩
  intro j hj
  obtain ⟨bb, of, z, rfl, hcz, hz⟩ := h.rd j hj
  have := h.ap (by omega) _ rfl
  simp at this
  exact ⟨bb, of, z, rfl, (World.cell?_setCell_other W _ _ _ (fun e => by cases e; omega)).trans hcz, hz⟩
theorem St.set4 (h : St w g A n c k m W) (b : Nat) (v0 v1 v2 v3 : Value) (hb : w.heap.size ≤ b) : St w g A n c k m ((((W.setCell ⟨b, 0, none⟩ v0).setCell ⟨b, 1, none⟩ v1).setCell ⟨b, 2, none⟩ v2).setCell ⟨b, 3, none⟩ v3) :=
  (((h.set b 0 v0 hb).set b 1 v1 hb).set b 2 v2 hb).set b 3 v3 hb
theorem St.left (h : St w g A n c k m W) : LeftC w g A n c k m W := ⟨h.cur, h.gr⟩
theorem St.mono (h : St w g A n c k m W) (hm : m ≤ m') : St w g A n c k m' W := by
  obtain ⟨k', s', hk, hc⟩ := h.cur
  exact ⟨⟨k', s', by omega, hc⟩, h.gr, h.rd, h.ap, h.lt⟩
end
theorem its_at {w : World} {b : Nat} {cs : Array Value} {t : TypeId} {xs : List Int} (hb : w.heap.size = b) (h : cs = (xs.map (Value.int .i64)).toArray) : Its (w.alloc (.cells cs t)) b xs := by
  subst hb; exact Its.lit h
theorem d4f_grown {w w' : World} {g b : Nat} {y m d : Int} {c : Bool} (h : w.grownBy w' (some g)) (hne : b ≠ g) (hd : D4F w b y m d c) : D4F w' b y m d c := by
  have hblk := h.block b hd.1.1 (by simpa using hne)
  obtain ⟨⟨hl, h0, h1, h2, h3⟩, f0, f1, f2, f3⟩ := hd
  refine ⟨⟨Nat.lt_of_lt_of_le hl h.size, ?_, ?_, ?_, ?_⟩, ?_, ?_, ?_, ?_⟩
  all_goals (first | (simp only [World.cell?, hblk] at *; assumption) | (simp only [World.frozen?, hblk] at *; assumption))
theorem c_far1 {W : World} {b b' i j : Nat} {v : Value} (h : b ≠ b') : (W.setCell ⟨b, i, none⟩ v).cell? ⟨b', j, none⟩ = W.cell? ⟨b', j, none⟩ := World.cell?_setCell_other W _ _ _ (fun e => h (by cases e; rfl))
theorem f4_set {W : World} {b b' j : Nat} {v : Value} (h : F4 W b') : F4 (W.setCell ⟨b, j, none⟩ v) b' := by
  obtain ⟨h0, h1, h2, h3⟩ := h
  refine ⟨?_, ?_, ?_, ?_⟩
  all_goals rw [World.frozen?_setCell]; assumption
theorem d4f_set {W : World} {b b' j : Nat} {v : Value} {y m d : Int} {c : Bool} (hne : b ≠ b') (h : D4F W b' y m d c) : D4F (W.setCell ⟨b, j, none⟩ v) b' y m d c := by
  obtain ⟨⟨hl, h0, h1, h2, h3⟩, hf⟩ := h
  refine ⟨⟨by simpa [World.setCell] using hl, ?_, ?_, ?_, ?_⟩, f4_set hf⟩
  all_goals rw [c_far1 hne]; assumption
theorem d4f_set1 {W : World} {b : Nat} {y m d : Int} {c : Bool} (m' : Int) (h : D4F W b y m d c) : D4F (W.setCell ⟨b, 1, none⟩ (.int .i64 m')) b y m' d c := by
  obtain ⟨⟨hl, h0, h1, h2, h3⟩, hf⟩ := h
  exact ⟨⟨by simpa [World.setCell] using hl, by rw [c_ne (by decide)]; exact h0, World.cell?_setCell_same _ _ _ h1, by rw [c_ne (by decide)]; exact h2, by rw [c_ne (by decide)]; exact h3⟩, f4_set hf⟩
end Go.Proofs.YtlhkfhgnlopejaaDoor.St
