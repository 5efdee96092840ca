/-
  Rows of spans that grow by appending inside a region that draws its order: small laws.
-/
import Derived.Test.YtljbbmefemfjpaaSpA
import Derived.Deep.AppendLies
import Derived.Deep.RegionHeld3
namespace Go.Proofs.Ytljbbmefemfjpaa.SpB
open Go.RowKit SpPl Sp SpA
set_option linter.unusedSimpArgs false
set_option linter.unusedVariables false

theorem kdr {W w : World} (h : Kp W w) : Kp W w.drew := Below.drew h
theorem kal {W w : World} (h : Kp W w) (o : Obj) : Kp W (w.alloc o) := Below.alloc h (Below.size h) o
theorem ksz {W w : World} (h : Kp W w) : W.heap.size ≤ w.heap.size := Below.size h
theorem kset {W w : World} (h : Kp W w) {g o : Nat} (hg : W.heap.size ≤ g) (v : Value) : Kp W (w.setCell ⟨g, o, none⟩ v) := Below.setCell h (p := ⟨g, o, none⟩) hg v
/-- an append at a step of a region that draws its order -/
theorem step_own {P : Program} {w : World} {ops : Array Oper} {o : Oper} {a : Act} {K : Act → World → Prop} {Q : Exit → Act → World → Prop} {E : Prop} (hgd : o.guard = none) (s x : Operand) (t : TypeId)
    (ho : o.op = .call { callee := .builtin .append, args := #[s, x], argTypes := #[t, t] })
    (base : Nat) (e : TypeId) (i : TypeInfo) (z : Value) (size bytes : Nat) (ht : P.underlying t = some (.slice e)) (hi : P.info? e = some i) (hz : i.zero = some z)
    (hsize : i.size = size) (hby : i.bytes = bytes) (hzs : z.cells.size = size) (hsz : 0 < size)
    (v : Value) (n : Nat) (xs : List Value) (hs : a.eval s = v) (hown : w.ownsRow base e size v n xs)
    (ad : Addr) (m c : Nat) (news : List Value) (hx : a.eval x = .slice (some ad) m c) (hl : news.length = m * size) (hnews : ∀ j u, news[j]? = some u → w.cell? (ad.add j) = some u) (h1 : ∀ u ∈ news, u.oneCell' = true)
    (h63 : n + m ≤ maxLen) (hbytes : (n + m) * bytes ≤ 140737488355328) (hbase : base ≤ w.heap.size)
    (h : ∀ v' w', w'.ownsRow base e size v' (n + m) (xs ++ news) → w.grownBy w' v.ownBlock → (v' = .slice none 0 0 ↔ v = .slice none 0 0 ∧ m = 0) → K (a.put o.dst v') w') :
    if Region.wanted o (yielded ops a.tmps) = true then Oper.wp P o a w K Q else E := by
  have hw : Region.wanted o (yielded ops a.tmps) = true := by simp [Region.wanted, hgd]
  rw [if_pos hw]
  exact wp_append_own w s x t ho base e i z size bytes ht hi hz hsize hby hzs hsz v n xs hs hown ad m c news hx hl hnews h1 h63 hbytes hbase h
theorem heap_at2 (w : World) (a b : Obj) : ((w.alloc a).alloc b).heap[w.heap.size + 1]? = some b := by
  have := heap_alloc_new (w.alloc a) b
  rw [show (w.alloc a).heap.size = w.heap.size + 1 by simp] at this
  exact this
theorem heap_at1 (w : World) (a b : Obj) : ((w.alloc a).alloc b).heap[w.heap.size]? = some a :=
  (heap_alloc_old _ _ (by simp)).trans (heap_alloc_new _ _)
theorem cells3_heap {w : World} {g : Nat} {a b c : Value} {t : TypeId} {fr : Nat × Nat} (h : w.heap[g]? = some (.cells #[a, b, c] t fr)) : ∀ (j : Nat) (u : Value), [a, b, c][j]? = some u → w.cell? ((⟨g, 0, none⟩ : Addr).add j) = some u := by
  intro j u hu
  rw [Go.WideShapes.add_plain, Nat.zero_add]
  match j, hu with
  | 0, hu => cases hu; simp [World.cell?, h]
  | 1, hu => cases hu; simp [World.cell?, h]
  | 2, hu => cases hu; simp [World.cell?, h]
  | j + 3, hu => simp at hu
theorem own_lit0 {w : World} {base b : Nat} {e : TypeId} {size : Nat} (hb : w.heap[b]? = some (.cells #[] e (0, 0))) (h : base ≤ b) : w.ownsRow base e size (.slice (some ⟨b, 0, none⟩) 0 0) 0 [] :=
  ⟨by simp, .inr ⟨b, 0, #[], rfl, h, hb, Nat.le_refl _, by decide, by simp, by simp⟩⟩
theorem grow_b {W wr wx w1 : World} {row : Option Nat} (hb : Below W.heap.size W wr) (hk : Kp wr wx) (hg : wx.grownBy w1 row) (hrow : ∀ k, row = some k → W.heap.size ≤ k) : Below W.heap.size W w1 :=
  below_grown (hb.trans (Below.mono hk hb.size)) hg (Below.size (hb.trans (Below.mono hk hb.size))) hrow
/-- the three cells of a box lie apart from the row that grows -/
theorem far3 {w wx w8 : World} {row : Option Nat} {B g6 : Nat} {l : ByteArray} {f b : Bool} (hp : (wx.cell? ⟨B, 0, none⟩ = some (.string l) ∧ wx.cell? ⟨B, 1, none⟩ = some (.bool f) ∧ wx.cell? ⟨B, 2, none⟩ = some (.bool b)) ∧ Kp w wx)
    (hg : wx.grownBy w8 row) (hr : row = some g6) (hB : B < wx.heap.size) (hne : g6 < B) (h6 : w.heap.size ≤ g6) : (w8.cell? ⟨B, 0, none⟩ = some (.string l) ∧ w8.cell? ⟨B, 1, none⟩ = some (.bool f) ∧ w8.cell? ⟨B, 2, none⟩ = some (.bool b)) ∧ Kp w w8 := by
  subst hr
  obtain ⟨⟨h0, h1, h2⟩, hk⟩ := hp
  have hn : ∀ o, (some (⟨B, o, none⟩ : Addr).block) ≠ some g6 := fun o h => by simp at h; omega
  exact ⟨⟨(hg.cell_far ⟨B, 0, none⟩ hB (hn 0)).trans h0, (hg.cell_far ⟨B, 1, none⟩ hB (hn 1)).trans h1, (hg.cell_far ⟨B, 2, none⟩ hB (hn 2)).trans h2⟩, below_grown hk hg (Below.size hk) (fun q hq => by cases hq; exact h6)⟩
theorem far3' {w wx w8 : World} {row : Option Nat} {B : Nat} {l : ByteArray} {f b : Bool} (hp : (wx.cell? ⟨B, 0, none⟩ = some (.string l) ∧ wx.cell? ⟨B, 1, none⟩ = some (.bool f) ∧ wx.cell? ⟨B, 2, none⟩ = some (.bool b)) ∧ Kp w wx)
    (hg : wx.grownBy w8 row) (hr : ∀ q, row = some q → w.heap.size ≤ q ∧ q < B) (hB : B < wx.heap.size) : (w8.cell? ⟨B, 0, none⟩ = some (.string l) ∧ w8.cell? ⟨B, 1, none⟩ = some (.bool f) ∧ w8.cell? ⟨B, 2, none⟩ = some (.bool b)) ∧ Kp w w8 := by
  obtain ⟨⟨h0, h1, h2⟩, hk⟩ := hp
  have hn : ∀ o, (some (⟨B, o, none⟩ : Addr).block) ≠ row := fun o h => by have := (hr B h.symm).2; omega
  exact ⟨⟨(hg.cell_far ⟨B, 0, none⟩ hB (hn 0)).trans h0, (hg.cell_far ⟨B, 1, none⟩ hB (hn 1)).trans h1, (hg.cell_far ⟨B, 2, none⟩ hB (hn 2)).trans h2⟩, below_grown hk hg (Below.size hk) (fun q hq => (hr q hq).1)⟩
theorem neq2 {g6 g7 g8 H : Nat} {row : Option Nat} (h : row = some g8 ∨ g8 = H) (hr : row = some g6) (hne : g6 ≠ g7) (hlt : g7 < H) : g8 ≠ g7 := by
  rcases h with h | h
  · rw [hr] at h; cases h; exact hne
  · omega
/-- a row of the call's own is the nil slice or lies at the beginning of a block -/
theorem own_at {w : World} {base : Nat} {e : TypeId} {size n m c : Nat} {A : Option Addr} {xs : List Value} (h : w.ownsRow base e size (.slice A n c) m xs) (hp : 0 < n) : ∃ g, A = some ⟨g, 0, none⟩ ∧ base ≤ g ∧ g < w.heap.size := by
  rcases h.2 with ⟨h0, _⟩ | ⟨g, cap, cur, h1, h2, h3, _⟩
  · cases h0; omega
  · cases h1; exact ⟨g, rfl, h2, (Array.getElem?_eq_some_iff.1 h3).1⟩
theorem set_it {L : List Sp1} {k : Nat} {y : Sp1} (hy : L[k]? = some y) (b : Bool) : (pcells L).set (k * 3 + 1) (.bool b) = pcells (L.set k ⟨y.l, b, y.t⟩) := by
  obtain ⟨hk, e⟩ := List.getElem?_eq_some_iff.1 hy
  obtain ⟨e0, e1, e2⟩ := pcells_at hy
  rw [← pcells_set ⟨y.l, b, y.t⟩ hk]
  have hl := pcells_len L
  apply List.ext_getElem?
  intro i
  simp only [List.getElem?_set, List.length_set]
  by_cases h2 : k * 3 + 2 = i
  · subst h2
    rw [if_neg (by omega), if_pos rfl, if_pos (by omega)]
    exact e2
  · rw [if_neg h2]
    by_cases h1 : k * 3 + 1 = i
    · subst h1
      rw [if_pos rfl, if_pos rfl]
    · rw [if_neg h1, if_neg h1]
      by_cases h0 : k * 3 = i
      · subst h0
        rw [if_pos rfl, if_pos (by omega)]
        exact e0
      · rw [if_neg h0]
end Go.Proofs.Ytljbbmefemfjpaa.SpB
