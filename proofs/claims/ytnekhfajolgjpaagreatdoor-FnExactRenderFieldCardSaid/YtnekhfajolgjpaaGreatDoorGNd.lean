/-
  Several texts of one claim in one file: NdPl, NdS, NdS2, NdS3.
-/
import Derived.Test.YtnekhfajolgjpaaGreatDoorRows
import Derived.WalkKit
import Derived.Below
import Derived.Lib.Hide
import Derived.Laws.AppendOwn
import Derived.Laws.OwnMore
import Derived.Test.YtnekhfajolgjpaaGreatDoorPr
import Derived.Test.YtnekhfajolgjpaaGreatDoorLaidS
import Derived.Test.YtnekhfajolgjpaaGreatDoorShelf
import Derived.LoopTactic
import Derived.Deep.QuietTactic
import Derived.BigQuiet
import Derived.Lib.SlicesS
import Derived.Lib.IndexAny
import Derived.Laws.BytesArg
import Derived.Maps.AppendAt
import Derived.Test.YtnekhfajolgjpaaGreatDoorShelf2
import Derived.Laws.NewBlocks
import Derived.ChangeKeysEq
/-
  Trees of nodes as the laws' readings see them: sizes, and how a tree lies in memory. No walk.
-/
namespace Go.Proofs.YtnekhfajolgjpaaGreatDoor.NdPl
open Go.RowKit
set_option linter.unusedSimpArgs false
set_option linter.unusedVariables false

/-- a node with its parts -/
inductive Tr where
  | mk (op : Int) (wd tx af : ByteArray) (ps : List Tr)
namespace Tr
def op : Tr → Int | .mk o _ _ _ _ => o
def wd : Tr → ByteArray | .mk _ a _ _ _ => a
def tx : Tr → ByteArray | .mk _ _ a _ _ => a
def af : Tr → ByteArray | .mk _ _ _ a _ => a
def ps : Tr → List Tr | .mk _ _ _ _ l => l
end Tr
instance : Inhabited Tr := ⟨.mk 0 ⟨#[]⟩ ⟨#[]⟩ ⟨#[]⟩ []⟩
mutual
/-- what the laws' helpers count of a node -/
def szT : Tr → Nat
  | .mk _ a b c l => a.size + b.size + c.size + (l.length + szS l)
def szS : List Tr → Nat
  | [] => 0
  | x :: r => szT x + szS r
end
theorem szS_append (A B : List Tr) : szS (A ++ B) = szS A + szS B := by
  induction A with
  | nil => simp [szS]
  | cons x r ih => simp [szS, ih]; omega
theorem szS_take {L : List Tr} {k : Nat} {x : Tr} (h : L[k]? = some x) : szS (L.take (k + 1)) = szS (L.take k) + szT x := by
  rw [List.take_add_one, h, szS_append]; simp [szS]
theorem szS_le (L : List Tr) (k : Nat) : szS (L.take k) ≤ szS L := by
  have h := szS_append (L.take k) (L.drop k)
  rw [List.take_append_drop] at h
  omega
theorem szS_mem {L : List Tr} {k : Nat} {x : Tr} (h : L[k]? = some x) : szT x ≤ szS L := by
  have h1 := szS_take h
  have h2 := szS_le L (k + 1)
  omega
theorem szT_eq (x : Tr) : szT x = x.wd.size + x.tx.size + x.af.size + (x.ps.length + szS x.ps) := by cases x; rfl
/-- what szNode answers -/
def szR (left s : Nat) : Int := if s ≤ left then (left : Int) - s else -1
theorem szR_ok {left s : Nat} (h : s ≤ left) : szR left s = ((left - s : Nat) : Int) := by unfold szR; rw [if_pos h]; omega
theorem szR_no {left s : Nat} (h : ¬ s ≤ left) : szR left s = -1 := if_neg h
/-- no string and no list is longer than any machine's -/
def LimL : Nat → List Tr → Prop
  | 0, L => L = []
  | d + 1, L => L.length ≤ maxLen ∧ ∀ x ∈ L, x.wd.size ≤ maxLen ∧ x.tx.size ≤ maxLen ∧ x.af.size ≤ maxLen ∧ LimL d x.ps
theorem LimL.len {d : Nat} {L : List Tr} (h : LimL d L) : L.length ≤ maxLen := by
  cases d with
  | zero => rw [show L = [] from h]; exact Nat.zero_le _
  | succ d => exact h.1

/-- a node as a value -/
@[reducible] def ndV (op : Int) (wd tx af : ByteArray) (A : Option Addr) (n c : Nat) : Value := .agg #[.int .i64 op, .string wd, .string tx, .string af, .slice A n c]
/-- a style as a value -/
@[reducible] def stV (nm op : Int) (wd tx af : ByteArray) (A : Option Addr) (n c : Nat) : Value := .agg #[.int .i64 nm, .int .i64 op, .string wd, .string tx, .string af, .slice A n c]

/-- the nodes that lie at A read as L; d: how deep they may be -/
def RdL : Nat → World → Option Addr → List Tr → Prop
  | 0, _, _, L => L = []
  | d + 1, w, A, L => ∀ (j : Nat) x, L[j]? = some x → ∃ g o B c, A = some ⟨g, o, none⟩ ∧ g < w.heap.size ∧
      w.cell? ⟨g, o + j * 5, none⟩ = some (.int .i64 x.op) ∧ w.cell? ⟨g, o + j * 5 + 1, none⟩ = some (.string x.wd) ∧ w.cell? ⟨g, o + j * 5 + 2, none⟩ = some (.string x.tx) ∧
      w.cell? ⟨g, o + j * 5 + 3, none⟩ = some (.string x.af) ∧ w.cell? ⟨g, o + j * 5 + 4, none⟩ = some (.slice B x.ps.length c) ∧ RdL d w B x.ps
theorem RdL.below {d : Nat} : ∀ {w w' : World} {A : Option Addr} {L : List Tr}, RdL d w A L → Below w.heap.size w w' → RdL d w' A L := by
  induction d with
  | zero => intro w w' A L h _; exact h
  | succ d ih =>
    intro w w' A L h hb j x hx
    obtain ⟨g, o, B, c, rfl, hg, c0, c1, c2, c3, c4, hr⟩ := h j x hx
    have hk : ∀ i, w'.cell? ⟨g, i, none⟩ = w.cell? ⟨g, i, none⟩ := fun i => hb.cell (p := ⟨g, i, none⟩) hg
    exact ⟨g, o, B, c, rfl, Nat.lt_of_lt_of_le hg hb.size, (hk _).trans c0, (hk _).trans c1, (hk _).trans c2, (hk _).trans c3, (hk _).trans c4, ih hr hb⟩
theorem RdL.get {d : Nat} {w : World} {A : Option Addr} {L : List Tr} (h : RdL d w A L) {j : Nat} {x : Tr} (hx : L[j]? = some x) :
    ∃ d' g o B c, d = d' + 1 ∧ A = some ⟨g, o, none⟩ ∧ g < w.heap.size ∧
      w.cell? ⟨g, o + j * 5, none⟩ = some (.int .i64 x.op) ∧ w.cell? ⟨g, o + j * 5 + 1, none⟩ = some (.string x.wd) ∧ w.cell? ⟨g, o + j * 5 + 2, none⟩ = some (.string x.tx) ∧
      w.cell? ⟨g, o + j * 5 + 3, none⟩ = some (.string x.af) ∧ w.cell? ⟨g, o + j * 5 + 4, none⟩ = some (.slice B x.ps.length c) ∧ RdL d' w B x.ps := by
  cases d with
  | zero => rw [show L = [] from h] at hx; simp at hx
  | succ d =>
    obtain ⟨g, o, B, c, h'⟩ := h j x hx
    exact ⟨d, g, o, B, c, rfl, h'⟩

/-- a node with the place of its parts -/
structure El where
  x : Tr
  B : Option Addr
  c : Nat
instance : Inhabited El := ⟨⟨default, none, 0⟩⟩
def El.cells (e : El) : List Value := [.int .i64 e.x.op, .string e.x.wd, .string e.x.tx, .string e.x.af, .slice e.B e.x.ps.length e.c]
def ecells (E : List El) : List Value := E.flatMap El.cells
theorem ecells_cons (e : El) (r : List El) : ecells (e :: r) = e.cells ++ ecells r := rfl
theorem ecells_len (E : List El) : (ecells E).length = E.length * 5 := by
  induction E with
  | nil => rfl
  | cons x r ih =>
    rw [ecells_cons, List.length_append, ih, List.length_cons]
    simp [El.cells]
    omega
theorem ecells_at {E : List El} {j : Nat} {e : El} (h : E[j]? = some e) (i : Nat) (hi : i < 5) : (ecells E)[j * 5 + i]? = e.cells[i]? := by
  induction E generalizing j with
  | nil => simp at h
  | cons y r ih =>
    rw [ecells_cons]
    have hy : y.cells.length = 5 := rfl
    cases j with
    | zero =>
      simp at h
      subst h
      rw [Nat.zero_mul, Nat.zero_add, List.getElem?_append_left (by omega)]
    | succ j =>
      have h0 := ih (j := j) (by simpa using h)
      rw [List.getElem?_append_right (by omega), hy, show (j + 1) * 5 + i - 5 = j * 5 + i by omega]
      exact h0
theorem ecells_snoc (M : List El) (y : El) : ecells (M ++ [y]) = ecells M ++ y.cells := by
  unfold ecells
  rw [List.flatMap_append]
  simp
theorem ecells_app (M K : List El) : ecells (M ++ K) = ecells M ++ ecells K := by
  unfold ecells
  rw [List.flatMap_append]
theorem set5_row {M : List El} {k : Nat} {Z : List Value} (y : El) (hM : M.length = k) (hz : (k + 1) * 5 ≤ Z.length) :
    (((((ecells M ++ Z.drop (k * 5)).set (k * 5) (.int .i64 y.x.op)).set (k * 5 + 1) (.string y.x.wd)).set (k * 5 + 2) (.string y.x.tx)).set (k * 5 + 3) (.string y.x.af)).set (k * 5 + 4) (.slice y.B y.x.ps.length y.c) = ecells (M ++ [y]) ++ Z.drop ((k + 1) * 5) := by
  have hl : (ecells M).length = k * 5 := by rw [ecells_len, hM]
  have hd : Z.drop (k * 5) = Z[k * 5] :: Z[k * 5 + 1] :: Z[k * 5 + 2] :: Z[k * 5 + 3] :: Z[k * 5 + 4] :: Z.drop ((k + 1) * 5) := by
    rw [List.drop_eq_getElem_cons (by omega), List.drop_eq_getElem_cons (by omega), List.drop_eq_getElem_cons (by omega), List.drop_eq_getElem_cons (by omega), List.drop_eq_getElem_cons (by omega), show (k + 1) * 5 = k * 5 + 1 + 1 + 1 + 1 + 1 by omega]
  rw [hd, ecells_snoc]
  rw [List.set_append_right _ _ (by omega), List.set_append_right _ _ (by omega), List.set_append_right _ _ (by omega), List.set_append_right _ _ (by omega), List.set_append_right _ _ (by omega), hl]
  rw [show k * 5 - k * 5 = 0 by omega, show k * 5 + 1 - k * 5 = 1 by omega, show k * 5 + 2 - k * 5 = 2 by omega, show k * 5 + 3 - k * 5 = 3 by omega, show k * 5 + 4 - k * 5 = 4 by omega]
  simp [El.cells]
/-- five stores into the row -/
theorem own_set5 {w : World} {base : Nat} {e : TypeId} {g n cap : Nat} {M : List El} {k : Nat} {Z : List Value} (h : w.ownsRow base e 5 (.slice (some ⟨g, 0, none⟩) n cap) n (ecells M ++ Z.drop (k * 5))) (y : El) (hM : M.length = k) (hz : (k + 1) * 5 ≤ Z.length) :
    (((((w.setCell ⟨g, k * 5, none⟩ (.int .i64 y.x.op)).setCell ⟨g, k * 5 + 1, none⟩ (.string y.x.wd)).setCell ⟨g, k * 5 + 2, none⟩ (.string y.x.tx)).setCell ⟨g, k * 5 + 3, none⟩ (.string y.x.af)).setCell ⟨g, k * 5 + 4, none⟩ (.slice y.B y.x.ps.length y.c)).ownsRow base e 5 (.slice (some ⟨g, 0, none⟩) n cap) n (ecells (M ++ [y]) ++ Z.drop ((k + 1) * 5)) := by
  have h1 := (((((h.stored (k * 5) (.int .i64 y.x.op)).1.stored (k * 5 + 1) (.string y.x.wd)).1.stored (k * 5 + 2) (.string y.x.tx)).1.stored (k * 5 + 3) (.string y.x.af)).1.stored (k * 5 + 4) (.slice y.B y.x.ps.length y.c)).1
  rw [set5_row y hM hz] at h1
  exact h1
theorem own_heap {w w' : World} {base : Nat} {e : TypeId} {size n g c : Nat} {xs : List Value} (h : w.ownsRow base e size (.slice (some ⟨g, 0, none⟩) n c) n xs) (hb : w'.heap[g]? = w.heap[g]?) : w'.ownsRow base e size (.slice (some ⟨g, 0, none⟩) n c) n xs := by
  refine ⟨h.1, ?_⟩
  rcases h.2 with ⟨h', _⟩ | ⟨g', cap', cur, h', hb', hg, h3⟩
  · simp at h'
  · simp only [Value.slice.injEq, Option.some.injEq, Addr.mk.injEq, and_true, true_and] at h'
    obtain ⟨rfl, rfl⟩ := h'
    exact .inr ⟨g, c, cur, rfl, hb', hb.trans hg, h3⟩
theorem own_kept {w w' : World} {base : Nat} {e : TypeId} {size n : Nat} {v : Value} {xs : List Value} (h : w.ownsRow base e size v n xs) (hb : Below w.heap.size w w') : w'.ownsRow base e size v n xs :=
  h.kept (row := none) ⟨hb.os, hb.tape, hb.output, hb.size, fun k hk _ => hb.block k hk⟩ (by
    cases hv : v.ownBlock with
    | none => exact .inl rfl
    | some g => exact .inr (fun e => by cases e))
theorem mem_flat {Fs : List (List Nat)} {j : Nat} {f : List Nat} (h : Fs[j]? = some f) {b : Nat} (hb : b ∈ f) : b ∈ Fs.flatten :=
  List.mem_flatten.2 ⟨f, List.mem_of_getElem? h, hb⟩
end Go.Proofs.YtnekhfajolgjpaaGreatDoor.NdPl
/-
  Words of styles: contracts of isPiece, l9Piece; styleFields, isStyleField, l9In, l9Field; kindOfWord, l9Kind.
-/
namespace Go.Proofs.YtnekhfajolgjpaaGreatDoor.Ns
open Go.RowKit NdPl Pl NmPl LaidS
set_option linter.unusedSimpArgs false
set_option linter.unusedVariables false

theorem ret_bool {a b : Bool} (h : a = b) : Ending.returned (.bool a) = .returned (.bool b) := by rw [h]
/-- a piece -/
def pcC (c : UInt8) : Bool := Kt.pr c && !(c == 34)
def pcB (s : ByteArray) : Bool := decide (s.size ≤ 12) && s.data.toList.all pcC
theorem pc_emp : pcB ⟨#[]⟩ = true := rfl
theorem idx_mem (l : List UInt8) (c : UInt8) : decide (0 ≤ Lib.indexByte l c) = l.contains c := (Lib.contains_iff_indexByte l c).symm
theorem pc_all (l : List UInt8) : l.all pcC = (l.all Kt.pr && !(l.contains 34)) := by
  induction l with
  | nil => rfl
  | cons x r ih =>
    rw [List.all_cons, List.all_cons, List.contains_cons, ih]
    unfold pcC
    rw [show ((34 : UInt8) == x) = (x == 34) from Bool.eq_iff_iff.2 (by rw [beq_iff_eq, beq_iff_eq]; exact eq_comm)]
    cases Kt.pr x <;> cases (x == 34) <;> cases r.all Kt.pr <;> cases r.contains 34 <;> rfl
/-- the fields of entries, and year and key behind them -/
def fws : List ByteArray := [⟨#[97, 117, 116, 104, 111, 114, 115]⟩, ⟨#[101, 100, 105, 116, 111, 114, 115]⟩, ⟨#[116, 105, 116, 108, 101]⟩, ⟨#[99, 111, 110, 116, 97, 105, 110, 101, 114]⟩, ⟨#[112, 117, 98, 108, 105, 115, 104, 101, 114]⟩, ⟨#[100, 97, 116, 101]⟩, ⟨#[118, 111, 108, 117, 109, 101]⟩, ⟨#[112, 97, 103, 101, 115]⟩]
def yrB : ByteArray := ⟨#[121, 101, 97, 114]⟩
def kyB : ByteArray := ⟨#[107, 101, 121]⟩
def sfs : List ByteArray := fws ++ [yrB, kyB]
/-- a style field -/
def isSF (s : ByteArray) : Bool := Lib.containsS sfs s
theorem fws_at {w : World} {cs : Array Value} {t : TypeId} (h : cs = (fws.map Value.string).toArray) : ∀ j, j < fws.length → (w.alloc (.cells cs t)).cell? ⟨w.heap.size, j, none⟩ = some (.string (fws.getD j ByteArray.empty)) := by
  intro j hj
  subst h
  have hj' : j < 8 := hj
  simp
  rcases j with _ | _ | _ | _ | _ | _ | _ | _ | j
  all_goals first | rfl | omega
set_option maxHeartbeats 1000000 in
theorem fieldWords (w : World) : Calls Tryz.prog 64 #[] w fun e w' => e = .returned (.slice (some ⟨w.heap.size, 0, none⟩) 8 8) ∧ w'.ownsRow w.heap.size 9 1 (.slice (some ⟨w.heap.size, 0, none⟩) 8 8) 8 (fws.map Value.string) ∧ Below w.heap.size w w' := by
  go_enter Tryz.func64, Tryz.ntmps64
  go_wp2_with fail
  go_ret
  refine ⟨rfl, ?_, (Below.refl _ w).alloc (Nat.le_refl _) _⟩
  exact World.ownsRow_lit (base := w.heap.size) (e := 9) (size := 1) w (fws.map Value.string).toArray 8 (Nat.le_refl _) (by unfold maxLen; omega) rfl
set_option maxHeartbeats 1000000 in
theorem l4Fields (w : World) : Calls Tryz.prog 27 #[] w fun e w' => e = .returned (.slice (some ⟨w.heap.size, 0, none⟩) 8 8) ∧ (∀ j, j < 8 → w'.cell? ⟨w.heap.size, j, none⟩ = some (.string (fws.getD j ByteArray.empty))) ∧ Below w.heap.size w w' := by
  go_enter Tryz.func27, Tryz.ntmps27
  go_wp2_with fail
  go_ret
  exact ⟨rfl, fws_at rfl, (Below.refl _ w).alloc (Nat.le_refl _) _⟩
end Go.Proofs.YtnekhfajolgjpaaGreatDoor.Ns
/-
  Words of styles: contracts of styleFields, isStyleField, l9In, l9Field; kindOfWord, l9Kind.
-/
namespace Go.Proofs.YtnekhfajolgjpaaGreatDoor.Ns
open Go.RowKit NdPl Pl NmPl LaidS
set_option linter.unusedSimpArgs false
set_option linter.unusedVariables false

theorem infoS : (Tryz.prog.info? 9).map (fun i => (i.zero, i.size, i.bytes)) = some (some (.string ByteArray.empty), 1, 16) := by kernel_rfl
theorem info_parts {P : Program} {t : TypeId} {z : Option Value} {a b : Nat} (h : (P.info? t).map (fun i => (i.zero, i.size, i.bytes)) = some (z, a, b)) : ∃ i, P.info? t = some i ∧ i.zero = z ∧ i.size = a ∧ i.bytes = b := by
  cases e : P.info? t with
  | none => rw [e] at h; cases h
  | some i => rw [e] at h; cases h; exact ⟨i, rfl, rfl, rfl, rfl⟩
theorem two_new (w : World) (x y : Value) (t : TypeId) : ∀ j u, [x, y][j]? = some u → (w.alloc (.cells #[x, y] t)).cell? ((⟨w.heap.size, 0, none⟩ : Addr).add j) = some u := by
  intro j u hj
  match j, hj with
  | 0, hj => simp at hj; subst hj; simp [Addr.add]
  | 1, hj => simp at hj; subst hj; simp [Addr.add]
  | j + 2, hj => simp at hj
set_option maxHeartbeats 1000000 in
theorem styleFields (w : World) : Calls Tryz.prog 39 #[] w fun e w' => ∃ v, e = .returned v ∧ w'.ownsRow w.heap.size 9 1 v 10 (sfs.map Value.string) ∧ Below w.heap.size w w' := by
  obtain ⟨i0, hi, hz0, hz1, hz2⟩ := info_parts infoS
  go_enter Tryz.func39, Tryz.ntmps39
  go_wp2_with fail
  refine (fieldWords _).mono ?_
  rintro e w1 ⟨rfl, ho, b1⟩
  go_wp2_with (first | (at_builtin; refine wpList_append_own _ rfl _ _ 50 rfl w.heap.size 9 i0 (.string ByteArray.empty) 1 16 Tryz.underlying50 hi hz0 hz1 hz2 rfl (by decide) _ _ _ rfl (ho.alloc _) ⟨w1.heap.size, 0, none⟩ 2 2 [.string yrB, .string kyB] rfl rfl (two_new _ _ _ _) (by simp [Value.oneCell']) (by unfold maxLen; omega) (by omega) (by have := b1.size; simp; omega) ?_; intro v2 w2 o2 k2 _))
  go_ret
  exact ⟨v2, rfl, o2, (b1.alloc b1.size _).grown k2 (by have := b1.size; simp; omega) (fun g hg => (ho.lt g hg).1)⟩
theorem own_cells {w : World} {base : Nat} {e : TypeId} {v : Value} {n : Nat} {L : List ByteArray} (hp : 0 < n) (h : w.ownsRow base e 1 v n (L.map Value.string)) :
    ∃ g c, v = .slice (some ⟨g, 0, none⟩) n c ∧ g < w.heap.size ∧ L.length = n ∧ n ≤ c ∧ ∀ j, j < L.length → w.cell? ⟨g, j, none⟩ = some (.string (L.getD j ByteArray.empty)) := by
  have hl : L.length = n := by have := h.1; simpa using this
  rcases h.2 with ⟨_, h0⟩ | ⟨g, cap, cur, rfl, _, hg, hc, _⟩
  · omega
  · refine ⟨g, cap, rfl, (Array.getElem?_eq_some_iff.1 hg).1, hl, hc, fun j hj => ?_⟩
    rw [World.ownsRow.cellAt h j (by omega), List.getElem?_map, List.getD_eq_getElem?_getD, List.getElem?_eq_getElem hj]
    rfl
set_option maxHeartbeats 1000000 in
theorem sfield_i (s : ByteArray) (r : Bool) (w : World) (hr : isSF s = r) : Calls Tryz.prog 17 #[.string s] w fun e w' => e = .returned (.bool r) ∧ Below w.heap.size w w' := by
  have HR := Lib.hid hr
  clear hr
  go_enter Tryz.func17, Tryz.ntmps17
  go_wp2_with fail
  refine (styleFields _).mono ?_
  rintro e w1 ⟨v, rfl, ho, b1⟩
  obtain ⟨g, c, rfl, hg, hl, hn, hc⟩ := own_cells (by decide) ho
  have HS := Lib.hid (Tryz.slices_Contains_string g 0 10 c sfs s w1 (by decide) (by decide) (by simpa using hc))
  have e10 : Lib.containsS (sfs.take 10) s = r := HR.out
  rw [e10] at HS
  clear hc ho e10
  go_wp2_with fail
  refine HS.out.mono ?_
  rintro e w2 ⟨rfl, rfl⟩
  go_wp2_with fail
  go_ret
  exact ⟨rfl, b1⟩
/-- a list of strings has one -/
def anyEq (l : List ByteArray) (s : ByteArray) : Bool := l.any (fun x => x.data.toList == s.data.toList)
theorem any_at {l : List ByteArray} {s : ByteArray} {k : Nat} (h : k < l.length) : anyEq (l.drop k) s = ((l.getD k ByteArray.empty).data.toList == s.data.toList || anyEq (l.drop (k + 1)) s) := by
  rw [List.drop_eq_getElem_cons h, List.getD_eq_getElem?_getD, List.getElem?_eq_getElem h]
  rfl
theorem any_mem (l : List ByteArray) (s : ByteArray) : anyEq l s = Lib.containsS l s := by
  rw [Bool.eq_iff_iff, Lib.containsS_iff]
  unfold anyEq
  rw [List.any_eq_true]
  constructor
  · rintro ⟨x, hx, he⟩
    have : x = s := by
      have h1 := eq_of_beq he
      rw [← ba_toList x, h1, ba_toList]
    exact this ▸ hx
  · intro h
    exact ⟨s, h, beq_self_eq_true _⟩
set_option maxHeartbeats 1000000 in
theorem l9In (g c n : Nat) (l : List ByteArray) (s : ByteArray) (r : Bool) (w : World) (hn : l.length = n) (hm : n ≤ 1048576) (hc : ∀ j, j < n → w.cell? ⟨g, j, none⟩ = some (.string (l.getD j ByteArray.empty))) (hr : Lib.containsS l s = r) :
    Calls Tryz.prog 26 #[.slice (some ⟨g, 0, none⟩) n c, .string s] w fun e w' => e = .returned (.bool r) ∧ w = w' := by
  have HR := Lib.hid hr.symm
  rw [← any_mem] at HR
  have HC := Lib.hid hc
  have HN := Lib.hid hn
  clear hr hc hn
  go_enter Tryz.func26, Tryz.ntmps26
  go_wp2_with fail
  go_loop [5] (fun i => ∃ k : Nat, k ≤ n ∧ i = .int .i64 k ∧ Hid (anyEq (l.drop k) s = anyEq l s)) (fun i => n - (intOf i).toNat)
  case atStart => exact ⟨0, Nat.zero_le _, rfl, Lib.hid rfl⟩
  case round =>
    obtain ⟨k, hk, rfl, HD⟩ := hrel
    by_cases hlt : k < n
    · have HA := Lib.hid (any_at (s := s) (show k < l.length by rw [HN.out]; exact hlt))
      have hc0 := HC.out k hlt
      generalize l.getD k ByteArray.empty = x at *
      cases he : (x.data.toList == s.data.toList) with
      | true =>
        have HF : Hid (r = true) := Lib.hid (by rw [HR.out, ← HD.out, HA.out, he]; rfl)
        obtain rfl : x = s := by rw [← ba_toList x, eq_of_beq he, ba_toList]
        clear he
        go_wp2_with fail
        go_ret
        exact ⟨by rw [HF.out]; rfl, rfl⟩
      | false =>
        have HF : Hid (anyEq (l.drop (k + 1)) s = anyEq l s) := Lib.hid (by rw [← HD.out, HA.out, he]; rfl)
        have he2 : (x.toList == s.toList) = false := by rw [Lib.toList_data, Lib.toList_data]; exact he
        clear he
        go_wp2_with fail
        go_round
        case rel => exact ⟨k + 1, by omega, by go_num, HF⟩
        case measure => simp [intOf]; omega
    · have HF : Hid (r = false) := Lib.hid (by rw [HR.out, ← HD.out, List.drop_eq_nil_of_le (by rw [HN.out]; omega)]; rfl)
      go_wp2_with fail
      go_ret
      exact ⟨by rw [HF.out]; rfl, rfl⟩
end Go.Proofs.YtnekhfajolgjpaaGreatDoor.Ns
/-
  Words of styles: contracts of l9Field, kindOfWord, l9Kind.
-/
namespace Go.Proofs.YtnekhfajolgjpaaGreatDoor.Ns
open Go.RowKit NdPl Pl NmPl LaidS
set_option linter.unusedSimpArgs false
set_option linter.unusedVariables false

theorem ne_lit {s : ByteArray} {l : List UInt8} (h : s ≠ ⟨l.toArray⟩) : (s.toList == l) = false := by
  rw [beq_eq_false_iff_ne, Lib.toList_data]
  intro e
  apply h
  apply ByteArray.ext
  rw [← e]
theorem sf_or (s : ByteArray) (h1 : s ≠ yrB) (h2 : s ≠ kyB) : isSF s = Lib.containsS fws s := by
  unfold isSF
  rw [Bool.eq_iff_iff, Lib.containsS_iff, Lib.containsS_iff]
  unfold sfs
  simp [h1, h2]
set_option maxHeartbeats 1000000 in
theorem sfield_s (s : ByteArray) (r : Bool) (w : World) (hr : isSF s = r) : Calls Tryz.prog 12 #[.string s] w fun e w' => e = .returned (.bool r) ∧ Below w.heap.size w w' := by
  by_cases h1 : s = yrB
  · subst h1
    have HR : Hid (r = true) := Lib.hid (by rw [← hr]; rfl)
    clear hr
    unfold yrB
    go_enter Tryz.func12, Tryz.ntmps12
    go_wp2_with fail
    go_ret
    exact ⟨by rw [HR.out]; rfl, Below.refl _ _⟩
  · by_cases h2 : s = kyB
    · subst h2
      have HR : Hid (r = true) := Lib.hid (by rw [← hr]; rfl)
      clear hr h1
      unfold kyB
      go_enter Tryz.func12, Tryz.ntmps12
      go_wp2_with fail
      go_ret
      exact ⟨by rw [HR.out]; rfl, Below.refl _ _⟩
    · have e1 := ne_lit (l := [121, 101, 97, 114]) h1
      have e2 := ne_lit (l := [107, 101, 121]) h2
      have HR := Lib.hid ((sf_or s h1 h2).symm.trans hr)
      clear hr h1 h2
      go_enter Tryz.func12, Tryz.ntmps12
      go_wp2_with fail
      refine (l4Fields _).mono ?_
      rintro e w1 ⟨rfl, hc, b1⟩
      have HI := Lib.hid (l9In _ 8 8 fws s r w1 rfl (by decide) hc HR.out)
      clear hc
      go_wp2_with fail
      refine HI.out.mono ?_
      rintro e w2 ⟨rfl, rfl⟩
      go_wp2_with fail
      go_ret
      exact ⟨rfl, b1⟩
/-- the words of the kinds -/
def kdw : List (List UInt8) := [[98, 111, 111, 107], [97, 114, 116, 105, 99, 108, 101], [99, 104, 97, 112, 116, 101, 114], [114, 101, 112, 111, 114, 116]]
/-- the kind of a word, or 0 -/
def kd (s : ByteArray) : Nat := if s = ba [98, 111, 111, 107] then 1 else if s = ba [97, 114, 116, 105, 99, 108, 101] then 2 else if s = ba [99, 104, 97, 112, 116, 101, 114] then 3 else if s = ba [114, 101, 112, 111, 114, 116] then 4 else 0
theorem ba_ne {s : ByteArray} {l : List UInt8} (h : s ≠ ba l) : (s.toList == l) = false := ne_lit h
theorem ba_ne' {s : ByteArray} {l : List UInt8} (h : s ≠ ba l) : (l == s.toList) = false := by
  rw [beq_eq_false_iff_ne]
  intro e
  have := ba_ne h
  rw [← e] at this
  simp at this
theorem ba_ne2 {s : ByteArray} {l : List UInt8} (h : s ≠ ba l) : ((ba l).toList == s.toList) = false := by
  rw [beq_eq_false_iff_ne, Lib.toList_data, Lib.toList_data]
  intro e
  apply h
  rw [← ba_toList s, ← e, toList_ba]
theorem kd_le (s : ByteArray) : kd s ≤ 4 := by unfold kd; repeat' split <;> try omega
/-- what kindOfWord answers -/
def kdV (s : ByteArray) : Value := if kd s = 0 then .tuple #[.int .i64 0, .bool false] else .tuple #[.int .i64 (kd s), .bool true]
/-- the words of the kinds, behind an empty one -/
def kws : List ByteArray := [⟨#[]⟩, ⟨#[98, 111, 111, 107]⟩, ⟨#[97, 114, 116, 105, 99, 108, 101]⟩, ⟨#[99, 104, 97, 112, 116, 101, 114]⟩, ⟨#[114, 101, 112, 111, 114, 116]⟩]
/-- the k-th word is the first from 1 on -/
theorem kd_at {s : ByteArray} {k : Nat} (h1 : 1 ≤ k) (h4 : k ≤ 4) (h : ∀ j, 1 ≤ j → j < k → kws.getD j ⟨#[]⟩ ≠ s) (he : kws.getD k ⟨#[]⟩ = s) : kd s = k := by
  subst he
  rcases k with _ | _ | _ | _ | _ | k
  all_goals first | omega | decide
theorem kd_none {s : ByteArray} (h : ∀ j, 1 ≤ j → j < 5 → kws.getD j ⟨#[]⟩ ≠ s) : kd s = 0 := by
  unfold kd
  rw [if_neg (fun e => h 1 (by decide) (by decide) e.symm), if_neg (fun e => h 2 (by decide) (by decide) e.symm), if_neg (fun e => h 3 (by decide) (by decide) e.symm), if_neg (fun e => h 4 (by decide) (by decide) e.symm)]
end Go.Proofs.YtnekhfajolgjpaaGreatDoor.Ns
