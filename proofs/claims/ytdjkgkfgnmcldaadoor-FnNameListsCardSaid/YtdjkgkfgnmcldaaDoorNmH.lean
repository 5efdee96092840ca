/-
  Contracts of the laws' helpers over lists of names: szNameS, toNameS, eqNameS.
-/
import Derived.Test.YtdjkgkfgnmcldaaDoorNm
import Derived.Deep.RegionHeld3
namespace Go.Proofs.YtdjkgkfgnmcldaaDoor.Nms
open Go.RowKit Pl Strs Help Name Stands SplitPl NmPl Word Part NGood

theorem infoNm : (Tryd.prog.info? 43).map (fun i => (i.zero, i.size, i.bytes)) = some (some (.agg #[.slice none 0 0, .string ByteArray.empty, .string ByteArray.empty, .string ByteArray.empty]), 4, 72) := by kernel_rfl
/-- the four cells of each name -/
def ncells (L : List Nm) : List Value := L.flatMap fun x => [.slice x.A x.n x.c, .string x.p, .string x.f, .string x.s]
theorem ncells_len (L : List Nm) : (ncells L).length = L.length * 4 := by
  induction L with
  | nil => rfl
  | cons x r ih =>
    have e : ncells (x :: r) = [.slice x.A x.n x.c, .string x.p, .string x.f, .string x.s] ++ ncells r := rfl
    rw [e, List.length_append, ih, List.length_cons]
    simp
    omega
theorem ncells_at {L : List Nm} {j : Nat} {x : Nm} (h : L[j]? = some x) : (ncells L)[j * 4]? = some (.slice x.A x.n x.c) ∧ (ncells L)[j * 4 + 1]? = some (.string x.p) ∧ (ncells L)[j * 4 + 2]? = some (.string x.f) ∧ (ncells L)[j * 4 + 3]? = some (.string x.s) := by
  induction L generalizing j with
  | nil => simp at h
  | cons y r ih =>
    have e : ncells (y :: r) = [.slice y.A y.n y.c, .string y.p, .string y.f, .string y.s] ++ ncells r := rfl
    rw [e]
    cases j with
    | zero =>
      simp at h
      subst h
      exact ⟨rfl, rfl, rfl, rfl⟩
    | succ j =>
      obtain ⟨h0, h1, h2, h3⟩ := ih (j := j) (by simpa using h)
      have e0 : (j + 1) * 4 = j * 4 + 4 := by omega
      refine ⟨?_, ?_, ?_, ?_⟩
      · rw [e0, List.getElem?_append_right (by simp)]; simpa using h0
      · rw [e0, List.getElem?_append_right (by simp)]; simpa using h1
      · rw [e0, List.getElem?_append_right (by simp)]; simpa using h2
      · rw [e0, List.getElem?_append_right (by simp)]; simpa using h3
theorem ncells_snoc (M : List Nm) (y : Nm) : ncells (M ++ [y]) = ncells M ++ [.slice y.A y.n y.c, .string y.p, .string y.f, .string y.s] := by
  unfold ncells
  rw [List.flatMap_append]
  simp
theorem set4_row {M : List Nm} {k : Nat} {Z : List Value} (y : Nm) (hM : M.length = k) (hz : (k + 1) * 4 ≤ Z.length) :
    ((((ncells M ++ Z.drop (k * 4)).set (k * 4) (.slice y.A y.n y.c)).set (k * 4 + 1) (.string y.p)).set (k * 4 + 2) (.string y.f)).set (k * 4 + 3) (.string y.s) = ncells (M ++ [y]) ++ Z.drop ((k + 1) * 4) := by
  have hl : (ncells M).length = k * 4 := by rw [ncells_len, hM]
  have hd : Z.drop (k * 4) = Z[k * 4] :: Z[k * 4 + 1] :: Z[k * 4 + 2] :: Z[k * 4 + 3] :: Z.drop ((k + 1) * 4) := by
    rw [List.drop_eq_getElem_cons (by omega), List.drop_eq_getElem_cons (by omega), List.drop_eq_getElem_cons (by omega), List.drop_eq_getElem_cons (by omega), show (k + 1) * 4 = k * 4 + 1 + 1 + 1 + 1 by omega]
  rw [hd, ncells_snoc]
  rw [List.set_append_right _ _ (by omega), List.set_append_right _ _ (by omega), List.set_append_right _ _ (by omega), List.set_append_right _ _ (by omega), hl]
  rw [show k * 4 - k * 4 = 0 by omega, show k * 4 + 1 - k * 4 = 1 by omega, show k * 4 + 2 - k * 4 = 2 by omega, show k * 4 + 3 - k * 4 = 3 by omega]
  simp
theorem own_kept {w w' : World} {base : Nat} {e : TypeId} {size n : Nat} {v : Value} {xs : List Value} (h : w.ownsRow base e size v n xs) (hb : Below w.heap.size w w') : w'.ownsRow base e size v n xs :=
  h.kept (row := none) ⟨hb.os, hb.tape, hb.output, hb.size, fun k hk _ => hb.block k hk⟩ (by
    cases hv : v.ownBlock with
    | none => exact .inl rfl
    | some g => exact .inr (fun e => by cases e))
/-- four stores into the row -/
theorem own_set4 {w : World} {base : Nat} {e : TypeId} {g n cap : Nat} {M : List Nm} {k : Nat} {Z : List Value} (h : w.ownsRow base e 4 (.slice (some ⟨g, 0, none⟩) n cap) n (ncells M ++ Z.drop (k * 4))) (y : Nm) (hM : M.length = k) (hz : (k + 1) * 4 ≤ Z.length) :
    ((((w.setCell ⟨g, k * 4, none⟩ (.slice y.A y.n y.c)).setCell ⟨g, k * 4 + 1, none⟩ (.string y.p)).setCell ⟨g, k * 4 + 2, none⟩ (.string y.f)).setCell ⟨g, k * 4 + 3, none⟩ (.string y.s)).ownsRow base e 4 (.slice (some ⟨g, 0, none⟩) n cap) n (ncells (M ++ [y]) ++ Z.drop ((k + 1) * 4)) := by
  have h1 := ((((h.stored (k * 4) (.slice y.A y.n y.c)).1.stored (k * 4 + 1) (.string y.p)).1.stored (k * 4 + 2) (.string y.f)).1.stored (k * 4 + 3) (.string y.s)).1
  rw [set4_row y hM hz] at h1
  exact h1
/-- block g holds cells, none of them frozen -/
def NF (w : World) (g : Nat) : Prop := ∃ cs t, w.heap[g]? = some (.cells cs t (0, 0))
theorem NF.lt {w : World} {g : Nat} (h : NF w g) : g < w.heap.size := by obtain ⟨_, _, h⟩ := h; exact (Array.getElem?_eq_some_iff.1 h).1
theorem NF.below {w w' : World} {g : Nat} (h : NF w g) (hb : Below w.heap.size w w') : NF w' g := by
  obtain ⟨cs, t, e⟩ := h
  exact ⟨cs, t, (hb.block g (Array.getElem?_eq_some_iff.1 e).1).trans e⟩
theorem NF.set {w : World} {g : Nat} (h : NF w g) (a : Addr) (v : Value) : NF (w.setCell a v) g := by
  obtain ⟨cs, t, e⟩ := h
  unfold NF
  simp only [World.setCell, Array.getElem?_modify]
  by_cases hb : a.block = g
  · rw [if_pos hb, e]; exact ⟨_, _, rfl⟩
  · rw [if_neg hb]; exact ⟨_, _, e⟩
theorem NF.frozen {w : World} {g : Nat} (h : NF w g) (o : Nat) (s : _) : w.frozen? ⟨g, o, s⟩ = false := by
  obtain ⟨cs, t, e⟩ := h
  simp [World.frozen?, e]
theorem NF.own {w : World} {base : Nat} {e : TypeId} {size : Nat} {a : Addr} {n c : Nat} {xs : List Value} (h : w.ownsRow base e size (.slice (some a) n c) n xs) : NF w a.block := by
  rcases h.2 with ⟨h, _⟩ | ⟨g, cap, cur, h, _, hg, _⟩
  · cases h
  · cases h; exact ⟨_, _, hg⟩
/-- a name's words lie behind block b -/
def Nm.Far (x : Nm) (w : World) (b : Nat) : Prop := Rdn w x.A x.n x.xs ∧ x.n ≤ x.c ∧ (0 < x.n → ∀ a, x.A = some a → b < a.block ∧ NF w a.block)
theorem Nm.Far.set {x : Nm} {w : World} {b : Nat} (h : x.Far w b) (j : Nat) (v : Value) : x.Far (w.setCell ⟨b, j, none⟩ v) b := by
  refine ⟨⟨h.1.1.of fun hp a ha => ?_, fun hp a ha => by simpa [World.setCell] using h.1.2.1 hp a ha, h.1.2.2⟩, h.2.1, fun hp a ha => ⟨(h.2.2 hp a ha).1, (h.2.2 hp a ha).2.set _ _⟩⟩
  have hlt := (h.2.2 (by rw [← h.1.2.2]; exact hp) a ha).1
  exact Below.heap_setCell _ _ _ a.block (fun e => by have : a.block = b := e; omega)
theorem Nm.Far.below {x : Nm} {w w' : World} {b : Nat} (h : x.Far w b) (hb : Below w.heap.size w w') : x.Far w' b := ⟨h.1.below hb, h.2.1, fun hp a ha => ⟨(h.2.2 hp a ha).1, (h.2.2 hp a ha).2.below hb⟩⟩

/-- a fresh list of names, behind a store into an older block -/
theorem RdN0.older {W : World} {g b i : Nat} {M : List Nm} (v : Value) (h : RdN0 W (some ⟨g, 0, none⟩) M) (hf : ∀ x ∈ M, x.Far W g) (hb : b < g) : RdN0 (W.setCell ⟨b, i, none⟩ v) (some ⟨g, 0, none⟩) M := by
  intro j x hx
  obtain ⟨_, g', o', e, hg, c0, c1, c2, c3⟩ := h j x hx
  obtain ⟨hr, -, hA⟩ := hf x (List.mem_of_getElem? hx)
  cases e
  have key : ∀ k, (W.setCell ⟨b, i, none⟩ v).cell? ⟨g, k, none⟩ = W.cell? ⟨g, k, none⟩ := fun k => World.cell?_setCell_other W _ _ _ (fun e => by cases e; exact absurd rfl (Nat.ne_of_lt hb))
  refine ⟨⟨hr.1.of fun hp a ha => ?_, fun hp a ha => by simpa [World.setCell] using hr.2.1 hp a ha, hr.2.2⟩, g, 0, rfl, by simpa [World.setCell] using hg, ?_, ?_, ?_, ?_⟩
  · have hlt := (hA (by rw [← hr.2.2]; exact hp) a ha).1
    exact Below.heap_setCell _ _ _ a.block (fun e => by have : a.block = b := e; omega)
  all_goals rw [key]; assumption
theorem far_older {W : World} {g b i : Nat} {M : List Nm} (v : Value) (hf : ∀ x ∈ M, x.Far W g) (hb : b < g) : ∀ x ∈ M, x.Far (W.setCell ⟨b, i, none⟩ v) g := by
  intro x hx
  obtain ⟨hr, hc, hA⟩ := hf x hx
  refine ⟨⟨hr.1.of fun hp a ha => ?_, fun hp a ha => by simpa [World.setCell] using hr.2.1 hp a ha, hr.2.2⟩, hc, fun hp a ha => ⟨(hA hp a ha).1, (hA hp a ha).2.set _ _⟩⟩
  have hlt := (hA (by rw [← hr.2.2]; exact hp) a ha).1
  exact Below.heap_setCell _ _ _ a.block (fun e => by have : a.block = b := e; omega)

end Go.Proofs.YtdjkgkfgnmcldaaDoor.Nms
