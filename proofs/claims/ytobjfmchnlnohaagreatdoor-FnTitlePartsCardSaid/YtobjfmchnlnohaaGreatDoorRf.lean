/-
  A range over a function whose iterator keeps its state in a box of its own: the caller's invariant must bear stores into that box. Rounds that go on; nothing of the program is named here.
-/
import Derived.RangeFuncNested
import Derived.RangeFuncBound
import Derived.RangeFuncCalls
import Derived.RangeFuncLeaves
namespace Go.Proofs.YtobjfmchnlnohaaGreatDoor.Rf
open Go.RowKit
variable {F : Fence} {n : Nat} {P : Program}

/-- the iterator yields the list ys; its state lies in block Bs -/
def Yields {α : Type} (F : Fence) (n : Nat) (P : Program) (gf : Nat) (lb : Array Value) (encs : α → Array Value) (Kp : World → World → Prop) (ys : List α) (Bs : Nat) (w : World) : Prop :=
  ∀ (l : Nat) (J : List α → World → Prop) (W : World), Below w.heap.size w W → W.heap[Bs]? = w.heap[Bs]? → AbidesFrom W.heap.size J → (∀ s W v, J s W → J s (W.setCell ⟨Bs, 0, none⟩ v)) →
    (∀ pre x W1, J pre W1 → pre ++ [x] <+: ys → YieldAt F (n - 1) P l (encs x) W1 fun e W' => e = .returned (.bool true) ∧ J (pre ++ [x]) W' ∧ Kp W1 W') →
    J [] W → CallsIn F n P gf (#[.func (.yield l) #[] #[]] ++ lb) W fun e W' => (∃ v, e = .returned v) ∧ J ys W'

set_option maxHeartbeats 400000 in
theorem range_state {α : Type} {g : Operand} {ps : Array Tmp} {assign body : Code} {Q : Exit → Act → World → Prop} {a : Act} {w : World}
    (hro : F.round = none) (h1 : 1 ≤ n) {gf : Nat} {lb : Array Value} (hg : a.eval g = .func (.func gf) #[] lb) (hFg : F.fn gf) (eg : ∀ args w, (callFunc gf args).run P w = .ok (.enter gf args) w)
    {encs : α → Array Value} {Kp : World → World → Prop} {ys : List α} {Bs : Nat} (hseq : Yields F (n - 1) P gf lb encs Kp ys Bs w) (hBs : Bs < w.heap.size)
    (hKt : ∀ {A B C : World}, Kp A B → Kp B C → Kp A C) (hKb : ∀ (W : World) (l : Nat) (o o' : Obj), w.heap.size ≤ l → W.heap[l]? = some o → o.isCells = false → o.isWalk = false → Kp W (W.putObj l o')) (hps : ∀ x, (encs x).size = ps.size)
    (I : List α → World → Prop) (hI : OwnFrom w.heap.size I) (hIs : ∀ s W v, I s W → I s (W.setCell ⟨Bs, 0, none⟩ v)) (h0 : I [] w) (a₁ : α → Act)
    (hassign : ∀ (l : Nat) (x : α) (W : World) (K : Act → World → Prop), K (a₁ x) W →
      assign.wpIn (F.inRound l) (n - 1 - 1) P (Exit.then K (fun _ _ _ => False)) { tmps := (ps.zip (encs x)).foldl (fun t (p, v) => t.setIfInBounds p v) a.tmps, defers := [] } W)
    (hbody : ∀ (l : Nat) (pre : List α) (x : α) (W : World), I pre W → pre ++ [x] <+: ys → body.wpIn (F.inRound l) (n - 1 - 1) P (ownPostG w.heap.size Kp I (fun _ _ _ => False) (pre ++ [x]) W) (a₁ x) W)
    (hdone : ∀ (D : Nat) (W : World), w.heap.size ≤ D → I ys W → W.heap[D]? = some (.deferred (some [])) → Q .normal { a with defers := { target := .collected D, args := #[] } :: a.defers } W) :
    (Code.rangeFunc g ps assign body).wpIn F n P Q a w := by
  refine wpIn_rangeFunc ?_
  intro fn hfn
  rw [hro]
  -- the loop's record in its states, and the world in which the iterator begins
  have record : ∃ L : LoopState → Option Code → Loop, L = fun s j => { state := s, pending := j, fn, tmps := a.tmps, params := ps, assign, body, defers := w.heap.size } := ⟨_, rfl⟩
  obtain ⟨L, hL⟩ := record
  have begun : ∃ V, V = (w.alloc (.deferred (some []))).alloc (.loop (L .ready none)) := ⟨_, rfl⟩
  obtain ⟨V, hV⟩ := begun
  have szV : V.heap.size = w.heap.size + 2 := by rw [hV]; simp
  have bV : Below w.heap.size w V := by rw [hV]; exact ((Below.refl _ w).alloc (Nat.le_refl _) _).alloc (by simp) _
  have atD : V.heap[w.heap.size]? = some (.deferred (some [])) := by
    rw [hV, Below.heap_alloc _ _ _ (by simp)]; exact World.alloc_heap_new w _
  have atL : V.heap[w.heap.size + 1]? = some (.loop (L .ready none)) := by
    have h := World.alloc_heap_new (w.alloc (.deferred (some []))) (.loop (L .ready none))
    rw [World.size_alloc] at h
    rw [hV]; exact h
  have iV : I [] V := by rw [hV]; exact hI.alloc _ (hI.alloc _ h0)
  let Bk : World → Prop := fun W => W.heap[w.heap.size + 1]? = some (.loop (L .ready none)) ∧ W.heap[w.heap.size]? = some (.deferred (some []))
  have hcall := hseq (w.heap.size + 1) (fun pre W => I pre W ∧ Bk W) V bV (bV.block Bs hBs)
    (fun s A B row hs hgr hrow => by
      refine ⟨hI s A B row hs.1 hgr (fun r e => ?_), (grownBy_keeps hgr (fun r e => (hrow r e).2) hs.2.1 rfl).trans hs.2.1, (grownBy_keeps hgr (fun r e => (hrow r e).2) hs.2.2 rfl).trans hs.2.2⟩
      obtain ⟨hr, o, ho, hw⟩ := hrow r e
      exact ⟨by omega, o, ho, Obj.not_cells_of_walk hw⟩)
    (fun s A v hs => ⟨hIs s A v hs.1, (Below.heap_setCell _ _ _ _ (by show w.heap.size + 1 ≠ Bs; omega)).trans hs.2.1, (Below.heap_setCell _ _ _ _ (by show w.heap.size ≠ Bs; omega)).trans hs.2.2⟩)
    (fun pre x A hA hpre => by
      obtain ⟨hi, hl, hd⟩ := hA
      have ltA : w.heap.size + 1 < A.heap.size := (Array.getElem?_eq_some_iff.1 hl).1
      have hy := run_yield (P := P) (args := encs x) hl (by rw [hL]; exact hps x)
      rw [hL] at hy
      refine ⟨fn, _, assign, body, hy, roundIn_of_wpIn hfn (hassign _ x A _ ⟨_, run_beginRound hl (by rw [hL]), ?_⟩)⟩
      have kC : Kp A (A.putObj (w.heap.size + 1) (.loop { L .ready none with state := .busy })) := hKb _ _ _ _ (by omega) hl rfl rfl
      have lC : (A.putObj (w.heap.size + 1) (.loop { L .ready none with state := .busy })).heap[w.heap.size + 1]? = some (.loop { L .ready none with state := .busy }) := World.putObj_heap_same ltA
      have dC : (A.putObj (w.heap.size + 1) (.loop { L .ready none with state := .busy })).heap[w.heap.size]? = some (.deferred (some [])) := (World.putObj_heap_other (by omega)).trans hd
      have iC : I pre (A.putObj (w.heap.size + 1) (.loop { L .ready none with state := .busy })) := hI.putObj _ hi (by omega) hl rfl
      refine wpIn_mono (hbody _ pre x _ iC hpre) ?_
      rintro e b E he
      cases e with
      | normal =>
        obtain ⟨keep, kE, iE⟩ := he
        have lE := keep.same _ _ (by omega) lC rfl
        have dE := keep.same _ _ (Nat.le_refl _) dC rfl
        have hend := run_endRound (P := P) none lE
        have ltE := (Array.getElem?_eq_some_iff.1 lE).1
        rw [hL] at hend
        refine ⟨_, _, hend, rfl, ⟨hI.putObj _ iE (by omega) lE rfl, ?_, (World.putObj_heap_other (by omega)).trans dE⟩, hKt (hKt kC kE) (hKb _ _ _ _ (by omega) lE rfl rfl)⟩
        rw [hL]
        exact World.putObj_heap_same ltE
      | ret => exact he.2.elim
      | exit id => exact he.2.elim
      | goto t => exact he.2.elim
      | panic c => exact he.elim
      | outgrown => exact he.elim)
    ⟨iV, atL, atD⟩
  refine ⟨w.heap.size + 1, [{ target := .collected w.heap.size, args := #[] }], V, { target := .fn (.func gf) lb, args := #[.func (.yield (w.heap.size + 1)) #[] #[]] }, V, gf, #[.func (.yield (w.heap.size + 1)) #[] #[]] ++ lb, V, ?_, ?_, ?_, ?_, fun _ => h1, ?_⟩
  · rw [hV, hL]; exact run_enterLoop_outer _ _ _ _ _
  · simp only [resolve, hg]
    simp [go_sem]
  · intro f' hf'
    simp [Target.leads] at hf'
    subst hf'
    exact hFg
  · simp [invoke, go_sem, eg]
  · refine hcall.mono ?_
    rintro e E ⟨⟨v, rfl⟩, iE, lE, dE⟩
    have hend := run_endLoop (P := P) lE (by rw [hL]; simp)
    rw [hL] at hend lE
    exact ⟨none, _, hend, hdone _ _ (Nat.le_refl _) (hI.putObj _ iE (by omega) lE rfl) ((World.putObj_heap_other (by omega)).trans dE)⟩
end Go.Proofs.YtobjfmchnlnohaaGreatDoor.Rf

