/-
  FieldsUsed of both, as the law asks for it; the laws' helpers over the lists that it answers with.
-/
import Derived.Test.YtbibjcmfgpmddaaDoorNdFu4
import Derived.Test.YtbibjcmfgpmddaaDoorNdM2
import Derived.Test.YtbibjcmfgpmddaaDoorMarks
import Derived.WalkSmall
namespace Go.Proofs.YtbibjcmfgpmddaaDoor.Nd
open Go.RowKit NdPl Ns LaidS FuPl Strs
set_option linter.unusedSimpArgs false
set_option linter.unusedVariables false

def fuB (nm : Int) (x : Tr) : List ByteArray := (fuL nm x).map (fun l => ⟨l.toArray⟩)
theorem fuB_len (nm : Int) (x : Tr) : (fuB nm x).length = (fuL nm x).length := List.length_map _
theorem fuB_enc (nm : Int) (x : Tr) : (fuL nm x).map encStr = (fuB nm x).map Value.string := by unfold fuB; rw [List.map_map]; rfl
/-- block g holds the texts -/
def RwS (w : World) (g : Nat) (xs : List ByteArray) : Prop := g < w.heap.size ∧ RdS w (some ⟨g, 0, none⟩) xs
theorem RwS.block {w w' : World} {g : Nat} {xs : List ByteArray} (h : RwS w g xs) (hs : w.heap.size ≤ w'.heap.size) (hb : w'.heap[g]? = w.heap[g]?) : RwS w' g xs :=
  ⟨Nat.lt_of_lt_of_le h.1 hs, h.2.of (fun _ a ha => by cases ha; exact hb)⟩
theorem RwS.below {w w' : World} {g : Nat} {xs : List ByteArray} (h : RwS w g xs) (hb : Below w.heap.size w w') : RwS w' g xs := h.block hb.size (hb.block g h.1)
theorem RwS.outF {w w' : World} {g : Nat} {xs : List ByteArray} {F : List Nat} (h : RwS w g xs) (f : OutF F w w') (hg : g ∉ F) : RwS w' g xs := h.block f.size (f.block g h.1 hg)
theorem RwS.grown {w w' : World} {g : Nat} {xs : List ByteArray} {row : Option Nat} (h : RwS w g xs) (f : w.grownBy w' row) (hg : row ≠ some g) : RwS w' g xs := h.block f.size (f.block g h.1 (fun e => hg e.symm))
/-- a row of strings of the call's own -/
def OwS (w : World) (b : Nat) (v : Value) (n : Nat) (xs : List ByteArray) : Prop := w.ownsRow b 9 1 v n (xs.map Value.string)
theorem OwS.below {w w' : World} {b n : Nat} {v : Value} {xs : List ByteArray} (h : OwS w b v n xs) (hb : Below w.heap.size w w') : OwS w' b v n xs := own_below h hb
theorem OwS.outF {w w' : World} {b n : Nat} {v : Value} {xs : List ByteArray} {F : List Nat} (h : OwS w b v n xs) (f : OutF F w w') (hF : ∀ k ∈ F, k < b) : OwS w' b v n xs := by
  refine ⟨h.1, ?_⟩
  rcases h.2 with h' | ⟨g, cap, cur, e1, e2, e3, e4⟩
  · exact .inl h'
  · exact .inr ⟨g, cap, cur, e1, e2, (f.block g (Array.getElem?_eq_some_iff.1 e3).1 (fun hg => by have := hF g hg; omega)).trans e3, e4⟩
theorem bx_grown {w w' : World} {b : Nat} {vs : List Value} {row : Option Nat} (h : Bx w b vs) (g : w.grownBy w' row) (hb : row ≠ some b) : Bx w' b vs := by
  have hk := g.block b h.1 (fun e => hb e.symm)
  exact ⟨Nat.lt_of_lt_of_le h.1 g.size, fun i v hv => (World.cell?_of_block (a := ⟨b, i, none⟩) hk).trans (h.2 i v hv)⟩
theorem bx_out {w w' : World} {b : Nat} {vs : List Value} {F : List Nat} (h : Bx w b vs) (f : OutF F w w') (hb : b ∉ F) : Bx w' b vs := by
  have hk := f.block b h.1 hb
  exact ⟨Nat.lt_of_lt_of_le h.1 f.size, fun i v hv => (World.cell?_of_block (a := ⟨b, i, none⟩) hk).trans (h.2 i v hv)⟩
theorem used_s2 (nm : Int) (x : Tr) (B : Option Addr) (c d : Nat) (w : World) (hr : RdL d w B x.ps) (hz : szT x ≤ 1048576) (n : Nat) (hn : (fuB nm x).length = n) :
    Calls Tryd.prog 5 #[stV nm x.op x.wd x.tx x.af B x.ps.length c] w fun e w' => ∃ g cc, e = .returned (.tuple #[.slice (some ⟨g, 0, none⟩) n cc, .bool (gdB nm x)]) ∧ RwS w' g (fuB nm x) ∧ Below w.heap.size w w' := by
  refine (used_s nm x B c d w hr hz).mono ?_
  rintro e w' ⟨g, cc, rfl, hr2, hb⟩
  refine ⟨g, cc, by rw [← hn, fuB_len], ⟨hr2.1, fun j y hy => ⟨g, 0, rfl, ?_⟩⟩, hb⟩
  unfold fuB at hy
  rw [List.getElem?_map] at hy
  cases hx : (fuL nm x)[j]? with
  | none => rw [hx] at hy; cases hy
  | some z =>
    rw [hx] at hy
    cases hy
    rw [Nat.zero_add]
    exact hr2.2 j z hx
theorem used_i2 (nm : Int) (x : Tr) (B : Option Addr) (c d : Nat) (w : World) (hr : RdL d w B x.ps) (hz : szT x ≤ 1048576) (hT : Tabs w) (n : Nat) (hn : (fuB nm x).length = n) :
    Calls Tryd.prog 7 #[stV nm x.op x.wd x.tx x.af B x.ps.length c] w fun e w' => ∃ v, e = .returned (.tuple #[v, .bool (gdB nm x)]) ∧ OwS w' w.heap.size v n (fuB nm x) ∧ Below w.heap.size w w' := by
  refine (used_i nm x B c d w hr hz hT).mono ?_
  rintro e w' ⟨v, rfl, ho, hb⟩
  rw [fuB_enc, ← fuB_len, hn] at ho
  exact ⟨v, rfl, ho, hb⟩
theorem eq_texts (v : Value) (b g cc n : Nat) (xs : List ByteArray) (w : World) (h1 : OwS w b v n xs) (h2 : RwS w g xs) (hl : n ≤ 2097152) :
    Calls Tryd.prog 8 #[v, .slice (some ⟨g, 0, none⟩) n cc] w fun e w' => e = .returned (.bool true) ∧ Below w.heap.size w w' := by
  obtain ⟨A, c, rfl, hn, hr, _⟩ := own_rds h1
  subst hn
  refine (eqStringS_same A _ c cc xs w hr h2.2 hl).mono ?_
  rintro e w' ⟨rfl, q, rfl⟩
  exact ⟨rfl, below_drewN (Below.refl _ _) q⟩
theorem mark_texts (b : Nat) (v : Value) (xs : List ByteArray) (n : Nat) (w : World) (h : OwS w b v n xs) (hn : xs.length = n) (hl : n ≤ 2097152) :
    Calls Tryd.prog 11 #[v, .int .i64 1] w fun e w' => e = .returned (.int .i64 (1 + n)) ∧ OwS w' b v n (marks 1 n) ∧ w.grownBy w' v.ownBlock := markStringS_1 b v xs n w h hn hl
theorem held_texts (b : Nat) (v : Value) (n : Nat) (w : World) (h : OwS w b v n (marks 1 n)) (hl : n ≤ 2097152) :
    Calls Tryd.prog 12 #[v, .int .i64 1] w fun e w' => e = .returned (.int .i64 (1 + n)) ∧ Below w.heap.size w w' := heldStringS_1 v b n w h hl
end Go.Proofs.YtbibjcmfgpmddaaDoor.Nd
