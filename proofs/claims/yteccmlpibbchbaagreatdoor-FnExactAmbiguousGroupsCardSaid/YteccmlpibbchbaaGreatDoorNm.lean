/-
  A slice that holds names: where each lies and what it reads as.
-/
import Derived.Test.YteccmlpibbchbaaGreatDoorGood
namespace Go.Proofs.YteccmlpibbchbaaGreatDoor.Nms
open Go.RowKit Pl Strs Help Name Stands SplitPl NmPl Word Part NGood

/-- a name with where its Given words lie -/
structure Nm where
  A : Option Addr
  n : Nat
  c : Nat
  xs : List ByteArray
  p : ByteArray
  f : ByteArray
  s : ByteArray
def Nm.v (x : Nm) : Value := nmV (.slice x.A x.n x.c) x.p x.f x.s
def Nm.ok (x : Nm) : Bool := okN x.xs x.p x.f x.s
/-- the name can be read in w -/
def Nm.In (x : Nm) (w : World) : Prop := Rdn w x.A x.n x.xs ∧ x.n ≤ 1048576 ∧ x.p.size ≤ 1048576
theorem Nm.In.below {x : Nm} {w w' : World} (h : x.In w) (hb : Below w.heap.size w w') : x.In w' := ⟨h.1.below hb, h.2⟩
/-- the slice at A holds the names L -/
def RdNs (w : World) (A : Option Addr) (L : List Nm) : Prop :=
  ∀ j x, L[j]? = some x → x.In w ∧ ∃ g o, A = some ⟨g, o, none⟩ ∧ g < w.heap.size ∧ w.cell? ⟨g, o + j * 4, none⟩ = some (.slice x.A x.n x.c) ∧ w.cell? ⟨g, o + j * 4 + 1, none⟩ = some (.string x.p) ∧ w.cell? ⟨g, o + j * 4 + 2, none⟩ = some (.string x.f) ∧ w.cell? ⟨g, o + j * 4 + 3, none⟩ = some (.string x.s)
theorem RdNs.below {w w' : World} {A : Option Addr} {L : List Nm} (h : RdNs w A L) (hb : Below w.heap.size w w') : RdNs w' A L := by
  intro j x hx
  obtain ⟨hi, g, o, e, hg, h0, h1, h2, h3⟩ := h j x hx
  exact ⟨hi.below hb, g, o, e, Nat.lt_of_lt_of_le hg hb.size, (hb.cell (p := ⟨g, o + j * 4, none⟩) hg).trans h0, (hb.cell (p := ⟨g, o + j * 4 + 1, none⟩) hg).trans h1, (hb.cell (p := ⟨g, o + j * 4 + 2, none⟩) hg).trans h2, (hb.cell (p := ⟨g, o + j * 4 + 3, none⟩) hg).trans h3⟩
theorem oks_drop {L : List Nm} {k : Nat} {x : Nm} (h : L[k]? = some x) : (L.drop k).all Nm.ok = (x.ok && (L.drop (k + 1)).all Nm.ok) := by
  obtain ⟨hk, e⟩ := List.getElem?_eq_some_iff.1 h
  rw [List.drop_eq_getElem_cons hk, e]
  rfl


/-- what a name says -/
def Nm.key (x : Nm) : List ByteArray × ByteArray × ByteArray × ByteArray := (x.xs, x.p, x.f, x.s)
/-- the name's cells at place j of a slice -/
def Nm.At (x : Nm) (w : World) (A : Option Addr) (j : Nat) : Prop :=
  ∃ g o, A = some ⟨g, o, none⟩ ∧ g < w.heap.size ∧ w.cell? ⟨g, o + j * 4, none⟩ = some (.slice x.A x.n x.c) ∧ w.cell? ⟨g, o + j * 4 + 1, none⟩ = some (.string x.p) ∧ w.cell? ⟨g, o + j * 4 + 2, none⟩ = some (.string x.f) ∧ w.cell? ⟨g, o + j * 4 + 3, none⟩ = some (.string x.s)
theorem Nm.At.below {x : Nm} {w w' : World} {A : Option Addr} {j : Nat} (h : x.At w A j) (hb : Below w.heap.size w w') : x.At w' A j := by
  obtain ⟨g, o, e, hg, h0, h1, h2, h3⟩ := h
  exact ⟨g, o, e, Nat.lt_of_lt_of_le hg hb.size, (hb.cell (p := ⟨g, o + j * 4, none⟩) hg).trans h0, (hb.cell (p := ⟨g, o + j * 4 + 1, none⟩) hg).trans h1, (hb.cell (p := ⟨g, o + j * 4 + 2, none⟩) hg).trans h2, (hb.cell (p := ⟨g, o + j * 4 + 3, none⟩) hg).trans h3⟩
/-- the slice at A holds the names L, whatever their sizes -/
def RdN0 (w : World) (A : Option Addr) (L : List Nm) : Prop := ∀ (j : Nat) (x : Nm), L[j]? = some x → Rdn w x.A x.n x.xs ∧ x.At w A j
theorem RdN0.below {w w' : World} {A : Option Addr} {L : List Nm} (h : RdN0 w A L) (hb : Below w.heap.size w w') : RdN0 w' A L :=
  fun j x hx => ⟨(h j x hx).1.below hb, (h j x hx).2.below hb⟩
theorem RdN0.sized {w : World} {A : Option Addr} {L : List Nm} (h : RdN0 w A L) (hl : ∀ x ∈ L, x.n ≤ 1048576 ∧ x.p.size ≤ 1048576) : RdNs w A L :=
  fun j x hx => ⟨⟨(h j x hx).1, hl x (List.mem_of_getElem? hx)⟩, (h j x hx).2⟩
theorem RdNs.plain {w : World} {A : Option Addr} {L : List Nm} (h : RdNs w A L) : RdN0 w A L := fun j x hx => ⟨(h j x hx).1.1, (h j x hx).2⟩
/-- every part of the name is a string or a slice -/
def Nm.Lim (x : Nm) : Prop := x.n ≤ maxLen ∧ (∀ y ∈ x.xs, y.size ≤ maxLen) ∧ x.p.size ≤ maxLen ∧ x.f.size ≤ maxLen ∧ x.s.size ≤ maxLen
/-- the size of a name -/
def Nm.sz (x : Nm) : Nat := x.xs.length + lens x.xs + x.p.size + x.f.size + x.s.size
def szL (L : List Nm) : Nat := (L.map Nm.sz).sum
theorem szL_take {L : List Nm} {k : Nat} {x : Nm} (h : L[k]? = some x) : szL (L.take (k + 1)) = szL (L.take k) + x.sz := by
  unfold szL
  rw [List.take_add_one, h, List.map_append, List.sum_append]
  simp
theorem szL_le (L : List Nm) (k : Nat) : szL (L.take k) ≤ szL L := by
  conv => rhs; rw [← List.take_append_drop k L]
  unfold szL
  rw [List.map_append, List.sum_append]
  omega
theorem szL_mem {L : List Nm} {x : Nm} (h : x ∈ L) : x.sz ≤ szL L := by
  obtain ⟨k, hk, rfl⟩ := List.getElem_of_mem h
  have := szL_take (List.getElem?_eq_getElem hk)
  have := szL_le L (k + 1)
  omega
theorem sz_key {L M : List Nm} (h : M.map Nm.key = L.map Nm.key) {b : Nat} (hb : ∀ x ∈ L, x.sz ≤ b) : ∀ x ∈ M, x.sz ≤ b := by
  have e : ∀ K : List Nm, K.map Nm.sz = (K.map Nm.key).map fun k => k.1.length + lens k.1 + k.2.1.size + k.2.2.1.size + k.2.2.2.size := fun K => by rw [List.map_map]; rfl
  intro x hx
  have h1 : x.sz ∈ M.map Nm.sz := List.mem_map_of_mem hx
  rw [e, h, ← e] at h1
  obtain ⟨y, hy, hxy⟩ := List.mem_map.1 h1
  rw [← hxy]
  exact hb y hy
theorem len_of_key {L M : List Nm} (h : M.map Nm.key = L.map Nm.key) : M.length = L.length := by
  have := congrArg List.length h
  simpa using this
/-- what szNameS answers -/
def szNs (left : Nat) (L : List Nm) : Int := if L.length + szL L ≤ left then (left : Int) - L.length - szL L else -1
end Go.Proofs.YteccmlpibbchbaaGreatDoor.Nms
