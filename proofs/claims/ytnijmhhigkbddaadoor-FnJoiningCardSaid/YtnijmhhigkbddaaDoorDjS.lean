/-
  A list of texts that is drawn: the cursor, the list, and that nothing old has changed.
-/
import Derived.Test.YtnijmhhigkbddaaDoorRows
import Derived.Test.YtnijmhhigkbddaaDoorPlain
import Derived.Test.YtnijmhhigkbddaaDoorCur
import Derived.Test.YtnijmhhigkbddaaDoorDraw0
import Derived.WalkKit
import Derived.Lib.Hide
import Derived.Maps.AppendAt
namespace Go.Proofs.YtnijmhhigkbddaaDoor.DjS
open Go.RowKit Pl Cur Draw0

theorem infoStr : (Tryd.prog.info? 9).map (fun i => (i.zero, i.size, i.bytes)) = some (some (.string ByteArray.empty), 1, 16) := by kernel_rfl
/-- the row of a list that is drawn lies behind the cursor -/
theorem own_cur {w1 w2 : World} {base : Nat} {e : TypeId} {v : Value} {n : Nat} {xs : List Value} (h : w1.ownsRow (base + 1) e 1 v n xs) (hg : w1.grownBy w2 (some base)) : w2.ownsRow (base + 1) e 1 v n xs := by
  refine h.kept hg ?_
  rcases hb : v.ownBlock with _ | k
  · exact .inl rfl
  · refine .inr fun e => ?_
    have := (h.lt k hb).1
    simp at e
    omega
theorem cur_own {w1 w2 : World} {g n c k : Nat} {A : Option Addr} {s : Int} {v : Value} {e : TypeId} {m : Nat} {xs : List Value} (hc : IsCur w1 g A n c k s) (h : w1.ownsRow (g + 1) e 1 v m xs) (hg : w1.grownBy w2 v.ownBlock) : IsCur w2 g A n c k s := by
  refine (hg.block g hc.lt ?_).trans hc
  intro e'
  have := (h.lt g e'.symm).1
  omega

theorem own_base {w : World} {base base' : Nat} {e : TypeId} {size : Nat} {v : Value} {n : Nat} {xs : List Value} (h : w.ownsRow base e size v n xs) (hb : base' ≤ base) : w.ownsRow base' e size v n xs := by
  refine ⟨h.1, ?_⟩
  rcases h.2 with h' | ⟨g, cap, cur, e1, e2, e3⟩
  · exact .inl h'
  · exact .inr ⟨g, cap, cur, e1, by omega, e3⟩
/-- what is drawn so far: the cursor, the list, and that nothing old has changed -/
structure DJ (w wr : World) (A : Option Addr) (n c : Nat) (v : Value) (xs : List ByteArray) (km : Nat) : Prop where
  cur : ∃ k s, k ≤ km ∧ IsCur wr w.heap.size A n c k s
  row : wr.ownsRow (w.heap.size + 1) 9 1 v xs.length (xs.map Value.string)
  below : Below w.heap.size w wr
  small : ∀ x ∈ xs, x.size ≤ 4096
theorem DJ.left {w wr w' : World} {A : Option Addr} {n c : Nat} {v : Value} {xs : List ByteArray} {km k m : Nat} (h : DJ w wr A n c v xs km) (hk : k ≤ km) (hl : LeftC wr w.heap.size A n c k m w') : DJ w w' A n c v xs (km + m) := by
  obtain ⟨⟨k', s', hk', hc'⟩, hg⟩ := hl
  exact ⟨⟨k', s', by omega, hc'⟩, own_cur h.row hg, below_cur h.below hg, h.small⟩
theorem DJ.alloc {w wr : World} {A : Option Addr} {n c : Nat} {v : Value} {xs : List ByteArray} {km : Nat} (h : DJ w wr A n c v xs km) (o : Obj) : DJ w (wr.alloc o) A n c v xs km := by
  obtain ⟨k, s, hk, hc⟩ := h.cur
  exact ⟨⟨k, s, hk, hc.alloc o⟩, h.row.alloc o, h.below.alloc h.below.size o, h.small⟩
theorem DJ.append {w wr w1 : World} {A : Option Addr} {n c : Nat} {v v' : Value} {xs : List ByteArray} {km : Nat} {x : ByteArray} (h : DJ w wr A n c v xs km) (hx : x.size ≤ 4096)
    (hown : w1.ownsRow (w.heap.size + 1) 9 1 v' (xs.length + 1) (xs.map Value.string ++ [.string x])) (hg : wr.grownBy w1 v.ownBlock) : DJ w w1 A n c v' (xs ++ [x]) km := by
  obtain ⟨k, s, hk, hc⟩ := h.cur
  refine ⟨⟨k, s, hk, cur_own hc h.row hg⟩, by simpa using hown, h.below.grown hg h.below.size (fun j e => by have := (h.row.lt j e).1; omega), ?_⟩
  intro y hy
  rcases List.mem_append.1 hy with hy | hy
  · exact h.small y hy
  · simp at hy; subst hy; exact hx

end Go.Proofs.YtnijmhhigkbddaaDoor.DjS
