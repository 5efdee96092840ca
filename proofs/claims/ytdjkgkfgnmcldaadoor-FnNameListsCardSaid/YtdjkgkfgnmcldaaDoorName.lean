/-
  Contracts of the laws' helpers over names: szName, toName, eqName.
-/
import Derived.Test.YtdjkgkfgnmcldaaDoorRows
import Derived.Test.YtdjkgkfgnmcldaaDoorPlain
import Derived.Test.YtdjkgkfgnmcldaaDoorStrs
import Derived.Test.YtdjkgkfgnmcldaaDoorHelp
import Derived.WalkKit
import Derived.Lib.Hide
import Derived.Below
import Derived.Deep.Onto
namespace Go.Proofs.YtdjkgkfgnmcldaaDoor.Name
open Go.RowKit Pl Strs Help

/-- a name as a value -/
@[reducible] def nmV (v : Value) (p f s : ByteArray) : Value := .agg #[v, .string p, .string f, .string s]

/-- what szName answers -/
def szN (left : Nat) (xs : List ByteArray) (p f s : ByteArray) : Int := if xs.length + lens xs + p.size + f.size + s.size ≤ left then (left : Int) - xs.length - lens xs - p.size - f.size - s.size else -1

theorem rds_below {w w' : World} {A : Option Addr} {xs : List ByteArray} (h : RdS w A xs) (hA : 0 < xs.length → ∀ a, A = some a → a.block < w.heap.size) (hb : Below w.heap.size w w') : RdS w' A xs :=
  h.of fun hp a ha => hb.block _ (hA hp a ha)

theorem own_set {w : World} {base : Nat} {e : TypeId} {size : Nat} {v : Value} {n : Nat} {xs : List Value} (h : w.ownsRow base e size v n xs) {a : Addr} (ha : a.block < base) (u : Value) : (w.setCell a u).ownsRow base e size v n xs := by
  refine h.kept (row := some a.block) ⟨rfl, rfl, rfl, by simp [World.setCell], fun k _ hk => Below.heap_setCell _ _ _ k (fun e => hk (by rw [e]))⟩ (.inr fun e => ?_)
  have := (h.lt a.block e).1
  omega
theorem bcell {W w1 : World} (hb : Below W.heap.size W w1) : (∀ b o, b < W.heap.size → w1.cell? ⟨b, o, none⟩ = W.cell? ⟨b, o, none⟩) ∧ (∀ b o, b < W.heap.size → w1.frozen? ⟨b, o, none⟩ = W.frozen? ⟨b, o, none⟩) :=
  ⟨fun b o h => hb.cell (p := ⟨b, o, none⟩) h, fun b o h => hb.frozen (p := ⟨b, o, none⟩) h⟩

/-- block b holds a name's four cells -/
def C4 (W : World) (b : Nat) (v : Value) (p f s : ByteArray) : Prop := b < W.heap.size ∧ W.cell? ⟨b, 0, none⟩ = some v ∧ W.cell? ⟨b, 1, none⟩ = some (.string p) ∧ W.cell? ⟨b, 2, none⟩ = some (.string f) ∧ W.cell? ⟨b, 3, none⟩ = some (.string s)
theorem C4.new (w : World) (v : Value) (p f s : ByteArray) (t : TypeId) : C4 (w.alloc (.cells #[v, .string p, .string f, .string s] t)) w.heap.size v p f s :=
  ⟨by simp, by simp, by simp, by simp, by simp⟩
theorem C4.below {W w' : World} {b : Nat} {v : Value} {p f s : ByteArray} (h : C4 W b v p f s) (hb : Below W.heap.size W w') : C4 w' b v p f s := by
  obtain ⟨h0, h1, h2, h3, h4⟩ := h
  exact ⟨Nat.lt_of_lt_of_le h0 hb.size, (hb.cell (p := ⟨b, 0, none⟩) h0).trans h1, (hb.cell (p := ⟨b, 1, none⟩) h0).trans h2, (hb.cell (p := ⟨b, 2, none⟩) h0).trans h3, (hb.cell (p := ⟨b, 3, none⟩) h0).trans h4⟩
/-- nothing that lies in W has changed -/
def Kept (W w' : World) : Prop := Below W.heap.size W w'
theorem Kept.drew (W : World) : Kept W W.drew := (Below.refl _ _).drew
theorem Kept.next {W w1 w2 : World} (h : Kept W w1) (h2 : Below w1.heap.size w1 w2) : Kept W w2 := Below.trans h (h2.mono (Below.size h))
/-- A is what a name reads its Given words of, in w -/
def Rdn (w : World) (A : Option Addr) (n : Nat) (xs : List ByteArray) : Prop := RdS w A xs ∧ (0 < n → ∀ a, A = some a → a.block < w.heap.size) ∧ xs.length = n
theorem Rdn.below {w w' : World} {A : Option Addr} {n : Nat} {xs : List ByteArray} (h : Rdn w A n xs) (hb : Below w.heap.size w w') : Rdn w' A n xs :=
  ⟨rds_below h.1 (fun hp => h.2.1 (by rw [← h.2.2]; exact hp)) hb, fun hp a ha => Nat.lt_of_lt_of_le (h.2.1 hp a ha) hb.size, h.2.2⟩
theorem Rdn.own {w : World} {base : Nat} {e : TypeId} {A : Option Addr} {c n : Nat} {xs : List ByteArray} (h : w.ownsRow base e 1 (.slice A n c) n (xs.map Value.string)) : Rdn w A n xs := by
  obtain ⟨A', c', h2, hn, r, hA⟩ := own_rds h
  cases h2
  exact ⟨r, fun _ => hA, hn⟩
theorem mem_lens {xs : List ByteArray} {x : ByteArray} (h : x ∈ xs) : x.size ≤ lens xs := by
  unfold lens
  induction xs with
  | nil => cases h
  | cons y r ih =>
    rcases List.mem_cons.1 h with rfl | h
    · simp
    · have := ih h; simp at this ⊢; omega
end Go.Proofs.YtdjkgkfgnmcldaaDoor.Name
