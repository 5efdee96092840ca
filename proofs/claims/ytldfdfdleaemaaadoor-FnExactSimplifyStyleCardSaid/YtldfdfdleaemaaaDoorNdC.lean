/-
  Trees that are built by appending: a row of nodes of a call's own and where their parts lie; a change of every node. No walk.
-/
import Derived.Test.YtldfdfdleaemaaaDoorNdM2
import Derived.Test.YtldfdfdleaemaaaDoorNdS2
namespace Go.Proofs.YtldfdfdleaemaaaDoor.Nd
open Go.RowKit NdPl
set_option linter.unusedSimpArgs false
set_option linter.unusedVariables false

mutual
/-- a change of every node, the parts ahead of the node -/
def chT (f : Tr → Tr) : Tr → Tr
  | .mk o a b c l => f (.mk o a b c (chS f l))
def chS (f : Tr → Tr) : List Tr → List Tr
  | [] => []
  | x :: r => chT f x :: chS f r
end
theorem chS_map (f : Tr → Tr) (L : List Tr) : chS f L = L.map (chT f) := by
  induction L with
  | nil => rfl
  | cons x r ih => simp [chS, ih]
theorem chS_len (f : Tr → Tr) (L : List Tr) : (chS f L).length = L.length := by rw [chS_map, List.length_map]
theorem chT_eq (f : Tr → Tr) (x : Tr) : chT f x = f (.mk x.op x.wd x.tx x.af (chS f x.ps)) := by cases x; rfl
theorem chS_take (f : Tr → Tr) {L : List Tr} {j : Nat} {x : Tr} (h : L[j]? = some x) : chS f (L.take (j + 1)) = chS f (L.take j) ++ [chT f x] := by
  rw [chS_map, chS_map, List.take_add_one, h, List.map_append]; rfl

theorem OwL.up {d : Nat} : ∀ {w : World} {A : Option Addr} {c : Nat} {L : List Tr} {F : List Nat}, OwL d w A c L F → OwL (d + 1) w A c L F := by
  induction d with
  | zero => intro w A c L F h; exact Or.inl h
  | succ d ih =>
    intro w A c L F h
    rcases h with h | ⟨g, E, Fs, rfl, ho, hE, rfl, hl, hr⟩
    · exact Or.inl h
    · exact Or.inr ⟨g, E, Fs, rfl, ho, hE, rfl, hl, fun j e f he hf => ih (hr j e f he hf)⟩
/-- a row of nodes L of a call's own, in blocks from B on -/
def GrL (d : Nat) (w : World) (B : Nat) (v : Value) (n : Nat) (L : List Tr) (E : List El) : Prop :=
  w.ownsRow B 30 5 v n (ecells E) ∧ E.map El.x = L ∧ L.length = n ∧ ∃ Fs : List (List Nat), Fs.length = E.length ∧ (∀ (j : Nat) e f, E[j]? = some e → Fs[j]? = some f → OwL d w e.B e.c e.x.ps f) ∧ Fs.flatten.Nodup ∧ ∀ b ∈ Fs.flatten, B ≤ b ∧ b < w.heap.size ∧ v.ownBlock ≠ some b
theorem GrL.nil (d : Nat) (w : World) (B : Nat) : GrL d w B (.slice none 0 0) 0 [] [] :=
  ⟨World.ownsRow_nil _ _ _ _, rfl, rfl, [], rfl, fun j e f he => by simp at he, by simp, fun b hb => by simp at hb⟩
theorem GrL.below {d : Nat} {w w' : World} {B : Nat} {v : Value} {n : Nat} {L : List Tr} {E : List El} (h : GrL d w B v n L E) (hb : Below w.heap.size w w') : GrL d w' B v n L E := by
  obtain ⟨h1, h2, h3, Fs, h4, h5, h6, h7⟩ := h
  exact ⟨own_kept h1 hb, h2, h3, Fs, h4, fun j e f he hf => (h5 j e f he hf).below hb, h6, fun b hbF => ⟨(h7 b hbF).1, Nat.lt_of_lt_of_le (h7 b hbF).2.1 hb.size, (h7 b hbF).2.2⟩⟩
theorem GrL.form {d : Nat} {w : World} {B : Nat} {v : Value} {n : Nat} {L : List Tr} {E : List El} (h : GrL d w B v n L E) : ∃ A c, v = .slice A n c := by
  rcases h.1.2 with ⟨rfl, rfl⟩ | ⟨g, cap, cur, rfl, _⟩
  · exact ⟨none, 0, rfl⟩
  · exact ⟨_, _, rfl⟩
theorem GrL.big {d : Nat} {w : World} {B : Nat} {v : Value} {n : Nat} {L : List Tr} {E : List El} (h : GrL d w B v n L E) {b : Nat} (hv : v.ownBlock = some b) : B ≤ b ∧ b < w.heap.size := by
  rcases h.1.2 with ⟨rfl, _⟩ | ⟨g, cap, cur, rfl, hB, hg, _⟩
  · cases hv
  · cases hv; exact ⟨hB, (Array.getElem?_eq_some_iff.1 hg).1⟩
theorem GrL.off {d : Nat} {w : World} {B : Nat} {v : Value} {n : Nat} {L : List Tr} {E : List El} (h : GrL d w B v n L E) {g o : Nat} (hg : g < B) (u : Value) : GrL d (w.setCell ⟨g, o, none⟩ u) B v n L E := by
  have hbig := fun b hv => h.big (b := b) hv
  obtain ⟨h1, h2, h3, Fs, h4, h5, h6, h7⟩ := h
  refine ⟨?_, h2, h3, Fs, h4, fun j e f he hf => (h5 j e f he hf).keep (fun b hb => Below.heap_setCell w ⟨g, o, none⟩ u b (by have := (h7 b (mem_flat hf hb)).1; show b ≠ g; omega)), h6, fun b hbF => ⟨(h7 b hbF).1, by simpa using (h7 b hbF).2.1, (h7 b hbF).2.2⟩⟩
  rcases h1.2 with ⟨rfl, rfl⟩ | ⟨g', cap, cur, rfl, hB, hg', hr⟩
  · exact ⟨h1.1, .inl ⟨rfl, rfl⟩⟩
  · exact own_heap h1 (Below.heap_setCell w ⟨g, o, none⟩ u g' (by show g' ≠ g; omega))
/-- one more node -/
theorem GrL.snoc {d : Nat} {w w2 w9 : World} {B : Nat} {v v' : Value} {n : Nat} {L : List Tr} {E : List El} {x : Tr} {A : Option Addr} {c : Nat} {F : List Nat} {o : Obj} (h : GrL d w B v n L E) (hb : Below w.heap.size w w2) (hB : B ≤ w.heap.size) (ho : OwL d w2 A c x.ps F) (hn : F.Nodup) (hF : ∀ b ∈ F, w.heap.size ≤ b)
    (hown : w9.ownsRow B 30 5 v' (n + 1) (ecells E ++ (⟨x, A, c⟩ : El).cells)) (hgrow : (w2.alloc o).grownBy w9 v.ownBlock) (hat : v'.ownBlock = v.ownBlock ∨ v'.ownBlock = some (w2.alloc o).heap.size) : GrL d w9 B v' (n + 1) (L ++ [x]) (E ++ [⟨x, A, c⟩]) := by
  have hbig := fun b hv => h.big (b := b) hv
  obtain ⟨h1, h2, h3, Fs, h4, h5, h6, h7⟩ := h
  have hsz2 : w2.heap.size < (w2.alloc o).heap.size := by simp
  have hk : ∀ b, b < w2.heap.size → v.ownBlock ≠ some b → w9.heap[b]? = w2.heap[b]? := fun b hb2 hne =>
    (hgrow.block b (by omega) (fun e => hne e.symm)).trans (((Below.refl w2.heap.size w2).alloc (Nat.le_refl _) o).block b hb2)
  have hFv : ∀ b ∈ F, v.ownBlock ≠ some b := fun b hbF e => by have := (hbig b e).2; have := hF b hbF; omega
  refine ⟨by rw [ecells_snoc]; exact hown, by rw [List.map_append, h2]; rfl, by rw [List.length_append, h3]; rfl, Fs ++ [F], by rw [List.length_append, List.length_append, h4]; rfl, fun j e f he hf => ?_, ?_, fun b hbm => ?_⟩
  · rcases get_snoc he with he | ⟨e1, rfl⟩
    · have hj : j < E.length := (List.getElem?_eq_some_iff.1 he).1
      rcases get_snoc hf with hf | ⟨e2, _⟩
      · have hc := (h5 j e f he hf).below hb
        exact hc.keep (fun b hbf => hk b (hc.lt b hbf) (h7 b (mem_flat hf hbf)).2.2)
      · omega
    · rcases get_snoc hf with hf | ⟨_, rfl⟩
      · have := (List.getElem?_eq_some_iff.1 hf).1
        omega
      · exact ho.keep (fun b hbf => hk b (ho.lt b hbf) (hFv b hbf))
  · rw [List.flatten_append, List.nodup_append]
    refine ⟨h6, by simpa using hn, fun a ha b hb' e => ?_⟩
    have := (h7 a ha).2.1
    have := hF b (by simpa using hb')
    omega
  · have hlt9 : w2.heap.size < w9.heap.size := Nat.lt_of_lt_of_le hsz2 hgrow.size
    have hv9 : ∀ b, b < (w2.alloc o).heap.size → v.ownBlock ≠ some b → v'.ownBlock ≠ some b := fun b hb2 hne e => by
      rcases hat with h | h
      · rw [h] at e; exact hne e
      · rw [h] at e; cases e; omega
    rw [List.flatten_append, List.mem_append] at hbm
    rcases hbm with hbm | hbm
    · have h8 := h7 b hbm
      have hs := hb.size
      exact ⟨h8.1, by omega, hv9 b (by omega) h8.2.2⟩
    · have hbF : b ∈ F := by simpa using hbm
      have h8 := hF b hbF
      have h9 := ho.lt b hbF
      exact ⟨by omega, by omega, hv9 b (by omega) (hFv b hbF)⟩
/-- the whole, as the list of a node's parts -/
theorem GrL.own {d : Nat} {w : World} {B : Nat} {A : Option Addr} {c n : Nat} {L : List Tr} {E : List El} (h : GrL d w B (.slice A n c) n L E) : ∃ F, OwL (d + 1) w A c L F ∧ F.Nodup ∧ ∀ b ∈ F, B ≤ b := by
  obtain ⟨h1, h2, h3, Fs, h4, h5, h6, h7⟩ := h
  rcases h1.2 with ⟨e, rfl⟩ | ⟨g, cap, cur, e, hB, hg, hr⟩
  · cases e
    obtain rfl := List.eq_nil_of_length_eq_zero h3
    exact ⟨[], Or.inl ⟨rfl, rfl⟩, List.nodup_nil, fun b hb => by cases hb⟩
  · cases e
    refine ⟨g :: Fs.flatten, Or.inr ⟨g, E, Fs, rfl, ?_, h2, rfl, h4, h5⟩, List.nodup_cons.2 ⟨fun hm => (h7 g hm).2.2 rfl, h6⟩, fun b hb => ?_⟩
    · rw [h3]
      exact World.ownsRow.mono h1 (Nat.zero_le _)
    · rcases List.mem_cons.1 hb with rfl | hb
      · exact hB
      · exact (h7 b hb).1
/-- the five cells of a new node -/
theorem five_new (w : World) (a b c d e : Value) (t : TypeId) : ∀ j u, [a, b, c, d, e][j]? = some u → (w.alloc (.cells #[a, b, c, d, e] t)).cell? ((⟨w.heap.size, 0, none⟩ : Addr).add j) = some u := by
  intro j u hj
  match j, hj with
  | 0, hj => simp at hj; subst hj; simp [Addr.add]
  | 1, hj => simp at hj; subst hj; simp [Addr.add]
  | 2, hj => simp at hj; subst hj; simp [Addr.add]
  | 3, hj => simp at hj; subst hj; simp [Addr.add]
  | 4, hj => simp at hj; subst hj; simp [Addr.add]
  | j + 5, hj => simp at hj
end Go.Proofs.YtldfdfdleaemaaaDoor.Nd
