/-
  Trees of nodes as the laws' readings see them: sizes, and how a tree lies in memory. No walk.
-/
import Derived.Test.YtbibjcmfgpmddaaDoorRows
import Derived.WalkKit
import Derived.Below
import Derived.Lib.Hide
import Derived.Laws.AppendOwn
import Derived.Laws.OwnMore
namespace Go.Proofs.YtbibjcmfgpmddaaDoor.NdPl
open Go.RowKit
set_option linter.unusedSimpArgs false
set_option linter.unusedVariables false

/-- a node with its parts -/
inductive Tr where
  | mk (op : Int) (wd tx af : ByteArray) (ps : List Tr)
namespace Tr
def op : Tr → Int | .mk o _ _ _ _ => o
def wd : Tr → ByteArray | .mk _ a _ _ _ => a
def tx : Tr → ByteArray | .mk _ _ a _ _ => a
def af : Tr → ByteArray | .mk _ _ _ a _ => a
def ps : Tr → List Tr | .mk _ _ _ _ l => l
end Tr
instance : Inhabited Tr := ⟨.mk 0 ⟨#[]⟩ ⟨#[]⟩ ⟨#[]⟩ []⟩
mutual
/-- what the laws' helpers count of a node -/
def szT : Tr → Nat
  | .mk _ a b c l => a.size + b.size + c.size + (l.length + szS l)
def szS : List Tr → Nat
  | [] => 0
  | x :: r => szT x + szS r
end
theorem szS_append (A B : List Tr) : szS (A ++ B) = szS A + szS B := by
  induction A with
  | nil => simp [szS]
  | cons x r ih => simp [szS, ih]; omega
theorem szS_take {L : List Tr} {k : Nat} {x : Tr} (h : L[k]? = some x) : szS (L.take (k + 1)) = szS (L.take k) + szT x := by
  rw [List.take_add_one, h, szS_append]; simp [szS]
theorem szS_le (L : List Tr) (k : Nat) : szS (L.take k) ≤ szS L := by
  have h := szS_append (L.take k) (L.drop k)
  rw [List.take_append_drop] at h
  omega
theorem szS_mem {L : List Tr} {k : Nat} {x : Tr} (h : L[k]? = some x) : szT x ≤ szS L := by
  have h1 := szS_take h
  have h2 := szS_le L (k + 1)
  omega
theorem szT_eq (x : Tr) : szT x = x.wd.size + x.tx.size + x.af.size + (x.ps.length + szS x.ps) := by cases x; rfl
/-- what szNode answers -/
def szR (left s : Nat) : Int := if s ≤ left then (left : Int) - s else -1
theorem szR_ok {left s : Nat} (h : s ≤ left) : szR left s = ((left - s : Nat) : Int) := by unfold szR; rw [if_pos h]; omega
theorem szR_no {left s : Nat} (h : ¬ s ≤ left) : szR left s = -1 := if_neg h
/-- no string and no list is longer than any machine's -/
def LimL : Nat → List Tr → Prop
  | 0, L => L = []
  | d + 1, L => L.length ≤ maxLen ∧ ∀ x ∈ L, x.wd.size ≤ maxLen ∧ x.tx.size ≤ maxLen ∧ x.af.size ≤ maxLen ∧ LimL d x.ps
theorem LimL.len {d : Nat} {L : List Tr} (h : LimL d L) : L.length ≤ maxLen := by
  cases d with
  | zero => rw [show L = [] from h]; exact Nat.zero_le _
  | succ d => exact h.1

/-- a node as a value -/
@[reducible] def ndV (op : Int) (wd tx af : ByteArray) (A : Option Addr) (n c : Nat) : Value := .agg #[.int .i64 op, .string wd, .string tx, .string af, .slice A n c]
/-- a style as a value -/
@[reducible] def stV (nm op : Int) (wd tx af : ByteArray) (A : Option Addr) (n c : Nat) : Value := .agg #[.int .i64 nm, .int .i64 op, .string wd, .string tx, .string af, .slice A n c]

/-- the nodes that lie at A read as L; d: how deep they may be -/
def RdL : Nat → World → Option Addr → List Tr → Prop
  | 0, _, _, L => L = []
  | d + 1, w, A, L => ∀ (j : Nat) x, L[j]? = some x → ∃ g o B c, A = some ⟨g, o, none⟩ ∧ g < w.heap.size ∧
      w.cell? ⟨g, o + j * 5, none⟩ = some (.int .i64 x.op) ∧ w.cell? ⟨g, o + j * 5 + 1, none⟩ = some (.string x.wd) ∧ w.cell? ⟨g, o + j * 5 + 2, none⟩ = some (.string x.tx) ∧
      w.cell? ⟨g, o + j * 5 + 3, none⟩ = some (.string x.af) ∧ w.cell? ⟨g, o + j * 5 + 4, none⟩ = some (.slice B x.ps.length c) ∧ RdL d w B x.ps
theorem RdL.below {d : Nat} : ∀ {w w' : World} {A : Option Addr} {L : List Tr}, RdL d w A L → Below w.heap.size w w' → RdL d w' A L := by
  induction d with
  | zero => intro w w' A L h _; exact h
  | succ d ih =>
    intro w w' A L h hb j x hx
    obtain ⟨g, o, B, c, rfl, hg, c0, c1, c2, c3, c4, hr⟩ := h j x hx
    have hk : ∀ i, w'.cell? ⟨g, i, none⟩ = w.cell? ⟨g, i, none⟩ := fun i => hb.cell (p := ⟨g, i, none⟩) hg
    exact ⟨g, o, B, c, rfl, Nat.lt_of_lt_of_le hg hb.size, (hk _).trans c0, (hk _).trans c1, (hk _).trans c2, (hk _).trans c3, (hk _).trans c4, ih hr hb⟩
theorem RdL.get {d : Nat} {w : World} {A : Option Addr} {L : List Tr} (h : RdL d w A L) {j : Nat} {x : Tr} (hx : L[j]? = some x) :
    ∃ d' g o B c, d = d' + 1 ∧ A = some ⟨g, o, none⟩ ∧ g < w.heap.size ∧
      w.cell? ⟨g, o + j * 5, none⟩ = some (.int .i64 x.op) ∧ w.cell? ⟨g, o + j * 5 + 1, none⟩ = some (.string x.wd) ∧ w.cell? ⟨g, o + j * 5 + 2, none⟩ = some (.string x.tx) ∧
      w.cell? ⟨g, o + j * 5 + 3, none⟩ = some (.string x.af) ∧ w.cell? ⟨g, o + j * 5 + 4, none⟩ = some (.slice B x.ps.length c) ∧ RdL d' w B x.ps := by
  cases d with
  | zero => rw [show L = [] from h] at hx; simp at hx
  | succ d =>
    obtain ⟨g, o, B, c, h'⟩ := h j x hx
    exact ⟨d, g, o, B, c, rfl, h'⟩

/-- a node with the place of its parts -/
structure El where
  x : Tr
  B : Option Addr
  c : Nat
instance : Inhabited El := ⟨⟨default, none, 0⟩⟩
def El.cells (e : El) : List Value := [.int .i64 e.x.op, .string e.x.wd, .string e.x.tx, .string e.x.af, .slice e.B e.x.ps.length e.c]
def ecells (E : List El) : List Value := E.flatMap El.cells
theorem ecells_cons (e : El) (r : List El) : ecells (e :: r) = e.cells ++ ecells r := rfl
theorem ecells_len (E : List El) : (ecells E).length = E.length * 5 := by
  induction E with
  | nil => rfl
  | cons x r ih =>
    rw [ecells_cons, List.length_append, ih, List.length_cons]
    simp [El.cells]
    omega
theorem ecells_at {E : List El} {j : Nat} {e : El} (h : E[j]? = some e) (i : Nat) (hi : i < 5) : (ecells E)[j * 5 + i]? = e.cells[i]? := by
  induction E generalizing j with
  | nil => simp at h
  | cons y r ih =>
    rw [ecells_cons]
    have hy : y.cells.length = 5 := rfl
    cases j with
    | zero =>
      simp at h
      subst h
      rw [Nat.zero_mul, Nat.zero_add, List.getElem?_append_left (by omega)]
    | succ j =>
      have h0 := ih (j := j) (by simpa using h)
      rw [List.getElem?_append_right (by omega), hy, show (j + 1) * 5 + i - 5 = j * 5 + i by omega]
      exact h0
theorem ecells_snoc (M : List El) (y : El) : ecells (M ++ [y]) = ecells M ++ y.cells := by
  unfold ecells
  rw [List.flatMap_append]
  simp
theorem ecells_app (M K : List El) : ecells (M ++ K) = ecells M ++ ecells K := by
  unfold ecells
  rw [List.flatMap_append]
theorem set5_row {M : List El} {k : Nat} {Z : List Value} (y : El) (hM : M.length = k) (hz : (k + 1) * 5 ≤ Z.length) :
    (((((ecells M ++ Z.drop (k * 5)).set (k * 5) (.int .i64 y.x.op)).set (k * 5 + 1) (.string y.x.wd)).set (k * 5 + 2) (.string y.x.tx)).set (k * 5 + 3) (.string y.x.af)).set (k * 5 + 4) (.slice y.B y.x.ps.length y.c) = ecells (M ++ [y]) ++ Z.drop ((k + 1) * 5) := by
  have hl : (ecells M).length = k * 5 := by rw [ecells_len, hM]
  have hd : Z.drop (k * 5) = Z[k * 5] :: Z[k * 5 + 1] :: Z[k * 5 + 2] :: Z[k * 5 + 3] :: Z[k * 5 + 4] :: Z.drop ((k + 1) * 5) := by
    rw [List.drop_eq_getElem_cons (by omega), List.drop_eq_getElem_cons (by omega), List.drop_eq_getElem_cons (by omega), List.drop_eq_getElem_cons (by omega), List.drop_eq_getElem_cons (by omega), show (k + 1) * 5 = k * 5 + 1 + 1 + 1 + 1 + 1 by omega]
  rw [hd, ecells_snoc]
  rw [List.set_append_right _ _ (by omega), List.set_append_right _ _ (by omega), List.set_append_right _ _ (by omega), List.set_append_right _ _ (by omega), List.set_append_right _ _ (by omega), hl]
  rw [show k * 5 - k * 5 = 0 by omega, show k * 5 + 1 - k * 5 = 1 by omega, show k * 5 + 2 - k * 5 = 2 by omega, show k * 5 + 3 - k * 5 = 3 by omega, show k * 5 + 4 - k * 5 = 4 by omega]
  simp [El.cells]
/-- five stores into the row -/
theorem own_set5 {w : World} {base : Nat} {e : TypeId} {g n cap : Nat} {M : List El} {k : Nat} {Z : List Value} (h : w.ownsRow base e 5 (.slice (some ⟨g, 0, none⟩) n cap) n (ecells M ++ Z.drop (k * 5))) (y : El) (hM : M.length = k) (hz : (k + 1) * 5 ≤ Z.length) :
    (((((w.setCell ⟨g, k * 5, none⟩ (.int .i64 y.x.op)).setCell ⟨g, k * 5 + 1, none⟩ (.string y.x.wd)).setCell ⟨g, k * 5 + 2, none⟩ (.string y.x.tx)).setCell ⟨g, k * 5 + 3, none⟩ (.string y.x.af)).setCell ⟨g, k * 5 + 4, none⟩ (.slice y.B y.x.ps.length y.c)).ownsRow base e 5 (.slice (some ⟨g, 0, none⟩) n cap) n (ecells (M ++ [y]) ++ Z.drop ((k + 1) * 5)) := by
  have h1 := (((((h.stored (k * 5) (.int .i64 y.x.op)).1.stored (k * 5 + 1) (.string y.x.wd)).1.stored (k * 5 + 2) (.string y.x.tx)).1.stored (k * 5 + 3) (.string y.x.af)).1.stored (k * 5 + 4) (.slice y.B y.x.ps.length y.c)).1
  rw [set5_row y hM hz] at h1
  exact h1
theorem own_heap {w w' : World} {base : Nat} {e : TypeId} {size n g c : Nat} {xs : List Value} (h : w.ownsRow base e size (.slice (some ⟨g, 0, none⟩) n c) n xs) (hb : w'.heap[g]? = w.heap[g]?) : w'.ownsRow base e size (.slice (some ⟨g, 0, none⟩) n c) n xs := by
  refine ⟨h.1, ?_⟩
  rcases h.2 with ⟨h', _⟩ | ⟨g', cap', cur, h', hb', hg, h3⟩
  · simp at h'
  · simp only [Value.slice.injEq, Option.some.injEq, Addr.mk.injEq, and_true, true_and] at h'
    obtain ⟨rfl, rfl⟩ := h'
    exact .inr ⟨g, c, cur, rfl, hb', hb.trans hg, h3⟩
theorem own_kept {w w' : World} {base : Nat} {e : TypeId} {size n : Nat} {v : Value} {xs : List Value} (h : w.ownsRow base e size v n xs) (hb : Below w.heap.size w w') : w'.ownsRow base e size v n xs :=
  h.kept (row := none) ⟨hb.os, hb.tape, hb.output, hb.size, fun k hk _ => hb.block k hk⟩ (by
    cases hv : v.ownBlock with
    | none => exact .inl rfl
    | some g => exact .inr (fun e => by cases e))
/-- the nodes L lie at A, in blocks of their own: F -/
def OwL : Nat → World → Option Addr → Nat → List Tr → List Nat → Prop
  | 0, _, _, _, L, F => L = [] ∧ F = []
  | d + 1, w, A, c, L, F => (L = [] ∧ F = []) ∨ ∃ (g : Nat) (E : List El) (Fs : List (List Nat)), A = some ⟨g, 0, none⟩ ∧ w.ownsRow 0 33 5 (.slice (some ⟨g, 0, none⟩) L.length c) L.length (ecells E) ∧ E.map El.x = L ∧ F = g :: Fs.flatten ∧ Fs.length = E.length ∧
      ∀ (j : Nat) e f, E[j]? = some e → Fs[j]? = some f → OwL d w e.B e.c e.x.ps f
theorem OwL.nil {d : Nat} {w : World} {A : Option Addr} {c : Nat} : OwL d w A c [] [] := by
  cases d with
  | zero => exact ⟨rfl, rfl⟩
  | succ d => exact Or.inl ⟨rfl, rfl⟩
theorem mem_flat {Fs : List (List Nat)} {j : Nat} {f : List Nat} (h : Fs[j]? = some f) {b : Nat} (hb : b ∈ f) : b ∈ Fs.flatten :=
  List.mem_flatten.2 ⟨f, List.mem_of_getElem? h, hb⟩
theorem OwL.keep {d : Nat} : ∀ {w w' : World} {A : Option Addr} {c : Nat} {L : List Tr} {F : List Nat}, OwL d w A c L F → (∀ b ∈ F, w'.heap[b]? = w.heap[b]?) → OwL d w' A c L F := by
  induction d with
  | zero => intro w w' A c L F h _; exact (show L = [] ∧ F = [] from h)
  | succ d ih =>
    intro w w' A c L F h hb
    rcases h with h | ⟨g, E, Fs, rfl, ho, hE, rfl, hl, hr⟩
    · exact .inl h
    · exact .inr ⟨g, E, Fs, rfl, own_heap ho (hb g (List.mem_cons_self ..)), hE, rfl, hl, fun j e f he hf => ih (hr j e f he hf) (fun b hbf => hb b (List.mem_cons_of_mem _ (mem_flat hf hbf)))⟩
theorem OwL.lt {d : Nat} : ∀ {w : World} {A : Option Addr} {c : Nat} {L : List Tr} {F : List Nat}, OwL d w A c L F → ∀ b ∈ F, b < w.heap.size := by
  induction d with
  | zero => intro w A c L F h b hb; rw [h.2] at hb; cases hb
  | succ d ih =>
    intro w A c L F h b hb
    rcases h with h | ⟨g, E, Fs, rfl, ho, hE, rfl, hl, hr⟩
    · rw [h.2] at hb; cases hb
    · rcases List.mem_cons.1 hb with rfl | hb
      · rcases ho.2 with ⟨h', _⟩ | ⟨g', cap', cur, h', _, hg, _⟩
        · simp at h'
        · simp only [Value.slice.injEq, Option.some.injEq, Addr.mk.injEq, and_true, true_and] at h'
          rw [h'.1]
          exact (Array.getElem?_eq_some_iff.1 hg).1
      · obtain ⟨f, hf, hbf⟩ := List.mem_flatten.1 hb
        obtain ⟨j, hj, hjf⟩ := List.mem_iff_getElem.1 hf
        exact ih (hr j _ f (List.getElem?_eq_getElem (by omega)) (by rw [← hjf]; exact List.getElem?_eq_getElem hj)) b hbf
theorem OwL.below {d : Nat} {w w' : World} {A : Option Addr} {c : Nat} {L : List Tr} {F : List Nat} (h : OwL d w A c L F) (hb : Below w.heap.size w w') : OwL d w' A c L F :=
  h.keep (fun b hbF => hb.block b (h.lt b hbF))
theorem OwL.rd {d : Nat} : ∀ {w : World} {A : Option Addr} {c : Nat} {L : List Tr} {F : List Nat}, OwL d w A c L F → RdL d w A L := by
  induction d with
  | zero => intro w A c L F h; exact h.1
  | succ d ih =>
    intro w A c L F h j x hx
    have hlt := h.lt
    rcases h with h | ⟨g, E, Fs, rfl, ho, hE, rfl, hl, hr⟩
    · rw [h.1] at hx; simp at hx
    · have hj : j < L.length := (List.getElem?_eq_some_iff.1 hx).1
      have hEl : E.length = L.length := by rw [← hE]; simp
      have he : E[j]? = some E[j] := List.getElem?_eq_getElem (by omega)
      obtain rfl : E[j].x = x := by rw [← hE, List.getElem?_map, he] at hx; simpa using hx
      have hcell : ∀ i, i < 5 → w.cell? ⟨g, j * 5 + i, none⟩ = E[j].cells[i]? := fun i hi => (World.ownsRow.cellAt ho (j * 5 + i) (by omega)).trans (ecells_at he i hi)
      have hf : Fs[j]? = some Fs[j] := List.getElem?_eq_getElem (by omega)
      refine ⟨g, 0, E[j].B, E[j].c, rfl, hlt g (List.mem_cons_self ..), ?_, ?_, ?_, ?_, ?_, ih (hr j _ _ he hf)⟩
      all_goals rw [Nat.zero_add]
      · exact hcell 0 (by decide)
      · exact hcell 1 (by decide)
      · exact hcell 2 (by decide)
      · exact hcell 3 (by decide)
      · exact hcell 4 (by decide)
end Go.Proofs.YtbibjcmfgpmddaaDoor.NdPl
