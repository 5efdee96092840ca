/-
  Contracts of quoteMarked and nodeText of the program.
-/
import Derived.Test.YtdjlcjmaikdeiaaDoorNdX
import Derived.Test.YtdjlcjmaikdeiaaDoorNdG4
import Derived.Test.YtdjlcjmaikdeiaaDoorShelf
import Derived.Deep.DeepCutAuto
namespace Go.Proofs.YtdjlcjmaikdeiaaDoor.Nd
open Go.RowKit NdPl Ns
set_option linter.unusedSimpArgs false
set_option linter.unusedVariables false

theorem quote_i (s : ByteArray) (w : World) (h : s.size ≤ 1048576) : Calls Tryd.prog 39 #[.string s] w fun e w' => e = .returned (.string ((⟨#[34]⟩ : ByteArray) ++ s ++ (⟨#[34]⟩ : ByteArray))) ∧ w = w' := by
  go_enter Tryd.func39, Tryd.ntmps39
  go_wp2_with fail
  go_ret
  exact ⟨rfl, rfl⟩
theorem bx_grown {w w' : World} {b : Nat} {vs : List Value} {row : Option Nat} (h : Bx w b vs) (hg : w.grownBy w' row) (hne : some b ≠ row) : Bx w' b vs := by
  have hk := hg.block b h.1 hne
  exact ⟨Nat.lt_of_lt_of_le h.1 hg.size, fun i v hv => (World.cell?_of_block (a := ⟨b, i, none⟩) hk).trans (h.2 i v hv)⟩
theorem al (w : World) (o : Obj) : Below w.heap.size w (w.alloc o) := (Below.refl _ w).alloc (Nat.le_refl _) o
theorem cell_one (w : World) (x : Value) (t : TypeId) : ∀ j u, [x][j]? = some u → (w.alloc (.cells #[x] t)).cell? ((⟨w.heap.size, 0, none⟩ : Addr).add j) = some u := by
  intro j u hj
  match j, hj with
  | 0, hj => simp at hj; subst hj; simp [Addr.add]
  | j + 1, hj => simp at hj
/-- texts of a call's own, from block B on -/
def Rw (w : World) (B : Nat) (v : Value) (n : Nat) (T : List ByteArray) : Prop := w.ownsRow B 9 1 v n (T.map Value.string) ∧ T.length = n
theorem Rw.below {w w' : World} {B : Nat} {v : Value} {n : Nat} {T : List ByteArray} (h : Rw w B v n T) (hb : Below w.heap.size w w') : Rw w' B v n T := ⟨own_kept h.1 hb, h.2⟩
theorem Rw.big {w : World} {B : Nat} {v : Value} {n : Nat} {T : List ByteArray} (h : Rw w B v n T) {b : Nat} (hv : v.ownBlock = some b) : B ≤ b := by
  rcases h.1.2 with ⟨rfl, _⟩ | ⟨g, cap, cur, rfl, hB, hg, _⟩
  · cases hv
  · cases hv; exact hB
theorem Rw.form {w : World} {B : Nat} {v : Value} {n : Nat} {T : List ByteArray} (h : Rw w B v n T) : ∃ A c, v = .slice A n c := by
  rcases h.1.2 with ⟨rfl, rfl⟩ | ⟨g, cap, cur, rfl, _⟩
  · exact ⟨none, 0, rfl⟩
  · exact ⟨_, _, rfl⟩
/-- strings.Join at a space -/
theorem join_row {w : World} {B : Nat} {A : Option Addr} {c n : Nat} {T : List ByteArray} (h : Rw w B (.slice A n c) n T) (hs : (Lib.join (T.map (·.data.toList)) [32]).length ≤ 140737488355328) (hn : n ≤ 2097152) :
    Calls Tryd.prog 40 #[.slice A n c, .string ⟨#[32]⟩] w fun e w' => e = .returned (.string (Pl.ba (Lib.join (T.map (·.data.toList)) [32]))) ∧ Below w.heap.size w w' := by
  rcases Nat.eq_zero_or_pos n with h0 | hp
  · have hT : T = [] := List.eq_nil_of_length_eq_zero (by have := h.2; omega)
    subst hT h0
    exact (Tryd.strings_Join_none A c ⟨#[32]⟩ w).mono fun e w' ⟨he, hw⟩ => ⟨he, hw ▸ Below.refl _ _⟩
  · obtain ⟨g, c', e, hg, hl, hc, hx⟩ := own_cells hp h.1
    cases e
    have := Tryd.strings_Join g 0 c T ⟨#[32]⟩ w (fun j x hj => by
      have hj' := (List.getElem?_eq_some_iff.1 hj).1
      rw [Nat.zero_add, hx j hj', List.getD_eq_getElem?_getD, hj]; rfl) hg (by omega) (by omega) hs
    rw [h.2] at this
    exact this
theorem tail_tS (L : List Tr) : Lib.joinTail [32] (L.map tT) = tS L := by
  induction L with
  | nil => rfl
  | cons x r ih => show ([32] ++ tT x) ++ Lib.joinTail [32] (r.map tT) = _; rw [ih]; rfl
theorem map_ba (L : List Tr) : (L.map fun y => Pl.ba (tT y)).map (·.data.toList) = L.map tT := by
  rw [List.map_map]
  exact List.map_congr_left (fun y _ => by simp [Pl.toList_ba])
/-- the texts of the first nodes -/
def txs (L : List Tr) : List ByteArray := L.map fun y => Pl.ba (tT y)
theorem txs_take {L : List Tr} {j : Nat} {x : Tr} (h : L[j]? = some x) : txs (L.take (j + 1)) = txs (L.take j) ++ [Pl.ba (tT x)] := by
  unfold txs; rw [List.take_add_one, h, List.map_append]; rfl
theorem join_pre (P : List ByteArray) (p : ByteArray) (L : List Tr) : Lib.join (((p :: P) ++ txs L).map (·.data.toList)) [32] = p.data.toList ++ Lib.joinTail [32] (P.map (·.data.toList)) ++ tS L := by
  rw [List.cons_append, List.map_cons, Lib.join_cons, List.map_append, txs, map_ba]
  unfold Lib.joinTail
  rw [List.map_append, List.flatten_append]
  have := tail_tS L
  unfold Lib.joinTail at this
  rw [this, List.append_assoc]
theorem join_first (x : Tr) (L : List Tr) : [32] ++ Lib.join ((txs (x :: L)).map (·.data.toList)) [32] = tS (x :: L) := by
  rw [txs, map_ba, List.map_cons, Lib.join_cons, tail_tS]
  rfl
def NtT (d : Nat) : Prop := ∀ (x : Tr) (B : Option Addr) (c k : Nat) (w : World), RdL d w B x.ps → szT x ≤ 1048576 → okT k x = true → Tabs w →
  Calls Tryd.prog 23 #[ndV x.op x.wd x.tx x.af B x.ps.length c] w fun e w' => e = .returned (.string (Pl.ba (tT x))) ∧ Below w.heap.size w w'
end Go.Proofs.YtdjlcjmaikdeiaaDoor.Nd
