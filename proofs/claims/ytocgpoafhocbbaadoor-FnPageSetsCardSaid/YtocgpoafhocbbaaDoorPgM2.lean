/-
  Contracts of l7Merge of the model.
-/
import Derived.Test.YtocgpoafhocbbaaDoorPgM1
import Derived.Deep.AppendLies
import Derived.Deep.RegionHeld3
namespace Go.Proofs.YtocgpoafhocbbaaDoor.PgM
open Go.RowKit PgPl NmPl Pg PgMe PgSo PgHit
set_option linter.unusedSimpArgs false
set_option linter.unusedVariables false

set_option maxHeartbeats 1000000 in
theorem before_s (x y : Pr) (r : Bool) (w : World) (hx : x.ok = true) (hy : y.ok = true) (hr : decide (K x < K y) = r) :
    Calls Tryd.prog 32 #[prV x.l x.f x.t, prV y.l y.f y.t] w fun e w' => e = .returned (.bool r) ∧ Below w.heap.size w w' := by
  have h1 := less_lk (okR_yes hx).1 (okR_yes hy).1
  have h2 := eq_lk (okR_yes hx).1 (okR_yes hy).1
  have e1 := fun h => lk_inj (okR_yes hx).1 (okR_yes hy).1 h
  have HK : Hid ((lk x.l < lk y.l → r = true) ∧ (lk x.l = lk y.l → decide (x.f < y.f) = r) ∧ (lk y.l < lk x.l → r = false)) := Lib.hid (by
    have h := K_lt hx hy
    refine ⟨fun h3 => ?_, fun h3 => ?_, fun h3 => ?_⟩
    · rw [← hr]; exact decide_eq_true (h.2 (.inl h3))
    · rw [← hr, Bool.eq_iff_iff, decide_eq_true_iff, decide_eq_true_iff, h]
      exact ⟨fun h4 => .inr ⟨e1 h3, h4⟩, fun h4 => by rcases h4 with h4 | ⟨_, h4⟩; (· omega); (· exact h4)⟩
    · rw [← hr]
      refine decide_eq_false fun h4 => ?_
      rcases h.1 h4 with h5 | ⟨h5, _⟩
      · omega
      · rw [h5] at h3; omega)
  clear hx hy hr e1
  obtain ⟨l, f, t⟩ := x
  obtain ⟨l', f', t'⟩ := y
  dsimp only at *
  have HB : Hid (Below w.heap.size w ((w.alloc (.cells #[.string l, .int .i64 f, .int .i64 t] 34)).alloc (.cells #[.string l', .int .i64 f', .int .i64 t'] 34))) := Lib.hid (((Below.refl _ _).alloc (Nat.le_refl _) _).alloc (by simp) _)
  generalize lk l = a at *
  generalize lk l' = b at *
  rcases Nat.lt_trichotomy a b with h | h | h
  · rw [decide_eq_true h] at h1
    have HR := Lib.hid (HK.out.1 h)
    clear h h2
    go_enter Tryd.func32, Tryd.ntmps32
    go_wp2_with fail
    go_ret
    exact ⟨by rw [HR.out]; rfl, HB.out⟩
  · rw [decide_eq_false (by omega)] at h1
    rw [decide_eq_true h] at h2
    have HR := Lib.hid (HK.out.2.1 h)
    clear h
    go_enter Tryd.func32, Tryd.ntmps32
    go_wp2_with fail
    all_goals go_ret
    all_goals exact ⟨ret_bool HR.out, HB.out⟩
  · rw [decide_eq_false (by omega)] at h1 h2
    have HR := Lib.hid (HK.out.2.2 h)
    clear h
    go_enter Tryd.func32, Tryd.ntmps32
    go_wp2_with fail
    go_ret
    exact ⟨by rw [HR.out]; rfl, HB.out⟩
theorem most_s (a b : Int) (w : World) :
    Calls Tryd.prog 33 #[.int .i64 a, .int .i64 b] w fun e w' => e = .returned (.int .i64 (max a b)) ∧ w = w' := by
  go_enter Tryd.func33, Tryd.ntmps33
  go_wp2_with fail
  all_goals go_ret
  all_goals exact ⟨congrArg (fun z => Ending.returned (Value.int .i64 z)) (by omega), rfl⟩

theorem below_drewN' {W w : World} (h : Kp W w) (q : Nat) : Kp W (w.drewN q) := ⟨h.os, h.tape, h.output, h.size, h.block⟩
theorem Kp.dr {W w : World} (h : Kp W w) : Kp W w.drew := Below.drew h
theorem Kp.al {W w : World} (h : Kp W w) (o : Obj) : Kp W (w.alloc o) := Below.alloc h (Below.size h) o
theorem Kp.refl' (W : World) : Kp W W := Below.refl _ _
theorem Kp.gr {W w w' : World} {row : Option Nat} (h : Kp W w) (hg : w.grownBy w' row) (hrow : ∀ k, row = some k → W.heap.size ≤ k) : Kp W w' := below_grown h hg (Below.size h) hrow
/-- an append at a step of a region that draws its order -/
theorem step_own {P : Program} {w : World} {ops : Array Oper} {o : Oper} {a : Act} {K : Act → World → Prop} {Q : Exit → Act → World → Prop} {E : Prop} (hgd : o.guard = none) (s x : Operand) (t : TypeId)
    (ho : o.op = .call { callee := .builtin .append, args := #[s, x], argTypes := #[t, t] })
    (base : Nat) (e : TypeId) (i : TypeInfo) (z : Value) (size bytes : Nat) (ht : P.underlying t = some (.slice e)) (hi : P.info? e = some i) (hz : i.zero = some z)
    (hsize : i.size = size) (hby : i.bytes = bytes) (hzs : z.cells.size = size) (hsz : 0 < size)
    (v : Value) (n : Nat) (xs : List Value) (hs : a.eval s = v) (hown : w.ownsRow base e size v n xs)
    (ad : Addr) (m c : Nat) (news : List Value) (hx : a.eval x = .slice (some ad) m c) (hl : news.length = m * size) (hnews : ∀ j u, news[j]? = some u → w.cell? (ad.add j) = some u) (h1 : ∀ u ∈ news, u.oneCell' = true)
    (h63 : n + m ≤ maxLen) (hbytes : (n + m) * bytes ≤ 140737488355328) (hbase : base ≤ w.heap.size)
    (h : ∀ v' w', w'.ownsRow base e size v' (n + m) (xs ++ news) → w.grownBy w' v.ownBlock → (v' = .slice none 0 0 ↔ v = .slice none 0 0 ∧ m = 0) → K (a.put o.dst v') w') :
    if Region.wanted o (yielded ops a.tmps) = true then Oper.wp P o a w K Q else E := by
  have hw : Region.wanted o (yielded ops a.tmps) = true := by simp [Region.wanted, hgd]
  rw [if_pos hw]
  exact wp_append_own w s x t ho base e i z size bytes ht hi hz hsize hby hzs hsz v n xs hs hown ad m c news hx hl hnews h1 h63 hbytes hbase h
theorem heap_at2 (w : World) (a b : Obj) : ((w.alloc a).alloc b).heap[w.heap.size + 1]? = some b := by
  have := heap_alloc_new (w.alloc a) b
  rw [show (w.alloc a).heap.size = w.heap.size + 1 by simp] at this
  exact this
theorem heap_at1 (w : World) (a b : Obj) : ((w.alloc a).alloc b).heap[w.heap.size]? = some a :=
  (heap_alloc_old _ _ (by simp)).trans (heap_alloc_new _ _)
theorem own_form {w : World} {base : Nat} {e : TypeId} {size n m : Nat} {v : Value} {xs : List Value} (h : w.ownsRow base e size v n xs) (hv : v ≠ .slice none 0 0) (hn : n = m) : ∃ g c, v = .slice (some ⟨g, 0, none⟩) m c ∧ w.ownsRow base e size (.slice (some ⟨g, 0, none⟩) m c) m xs := by
  subst hn
  rcases h.2 with ⟨h0, _⟩ | ⟨g, cap, cur, rfl, _⟩
  · exact absurd h0 hv
  · exact ⟨g, cap, rfl, h⟩
theorem pc_mid (S : List Pr) (k : Nat) (x : Pr) : [] ++ pcells (S.take k) ++ [.string x.l, .int .i64 x.f, .int .i64 x.t] ++ pcells (S.drop k) = pcells (S.take k ++ x :: S.drop k) := by
  rw [pcells_app]
  simp [pcells]
theorem mg_not {M : List Pr} {x y : Pr} {j : Nat} (hj : M.length = j + 1) (hy : M[j]? = some y) (hc : cont y x = false) : mg M x = M ++ [x] := by
  rcases snoc_cases M with rfl | ⟨m, z, rfl⟩
  · simp at hj
  · have : j = m.length := by simp at hj; omega
    subst this
    simp at hy
    subst hy
    rw [mg_snoc, if_neg (by rw [hc]; exact Bool.false_ne_true)]
theorem mg_nil_app (x : Pr) : mg [] x = [] ++ [x] := rfl
theorem cont_no1 {x y : Pr} (h : x.l ≠ y.l) : cont y x = false := by unfold cont; rw [decide_eq_false h]; rfl
theorem cont_no2 {x y : Pr} (h : ¬ x.f ≤ y.t + 1) : cont y x = false := by unfold cont; rw [decide_eq_false h]; simp
theorem cont_yes {x y : Pr} (h : x.l = y.l) (h2 : x.f ≤ y.t + 1) : cont y x = true := by unfold cont; rw [decide_eq_true h, decide_eq_true h2]; rfl
theorem set_all {L : List Pr} {k : Nat} {y z : Pr} (hy : L[k]? = some y) (hl : z.l = y.l) (hf : z.f = y.f) : (((pcells L).set (k * 3) (.string z.l)).set (k * 3 + 1) (.int .i64 z.f)).set (k * 3 + 2) (.int .i64 z.t) = pcells (L.set k z) := pcells_set z (List.getElem?_eq_some_iff.1 hy).1
theorem P3.set2 {W : World} {b : Nat} {l : ByteArray} {f t : Int} (h : P3 W b l f t) (t' : Int) : P3 (W.setCell ⟨b, 2, none⟩ (.int .i64 t')) b l f t' := by
  obtain ⟨h0, h1, h2, h3⟩ := h
  refine ⟨by simpa [World.setCell] using h0, ?_, ?_, ?_⟩
  · rw [World.cell?_setCell_other W _ _ _ (by simp)]; exact h1
  · rw [World.cell?_setCell_other W _ _ _ (by simp)]; exact h2
  · exact World.cell?_setCell_same W _ _ h3
theorem own_lit0 {w : World} {base b : Nat} {e : TypeId} {size : Nat} (hb : w.heap[b]? = some (.cells #[] e (0, 0))) (h : base ≤ b) : w.ownsRow base e size (.slice (some ⟨b, 0, none⟩) 0 0) 0 [] :=
  ⟨by simp, .inr ⟨b, 0, #[], rfl, h, hb, Nat.le_refl _, by decide, by simp, by simp⟩⟩
theorem cells3_heap {w : World} {g : Nat} {a b c : Value} {t : TypeId} {fr : Nat × Nat} (h : w.heap[g]? = some (.cells #[a, b, c] t fr)) : ∀ (j : Nat) (u : Value), [a, b, c][j]? = some u → w.cell? ((⟨g, 0, none⟩ : Addr).add j) = some u := by
  intro j u hu
  rw [Go.WideShapes.add_plain, Nat.zero_add]
  match j, hu with
  | 0, hu => cases hu; simp [World.cell?, h]
  | 1, hu => cases hu; simp [World.cell?, h]
  | 2, hu => cases hu; simp [World.cell?, h]
  | j + 3, hu => simp at hu
theorem elT : Tryd.prog.underlying 24 = some (.slice (Tryd.prog.elem 24)) := by kernel_rfl
theorem elE : Tryd.prog.elem 24 = 34 := by kernel_rfl
/-- the tail of a slice of the call's own -/
theorem cut_tail {g i c k : Nat} (kz : Int) (hz : kz = (k : Int)) (hk : k ≤ i) (hc : i ≤ c) :
    ∃ oo cc, (∀ w', (Instr.slice 24 (.slice (some ⟨g, 0, none⟩) i c) (some (.int .i64 kz)) none none).run Tryd.prog w' = .ok (.slice (some ⟨g, oo, none⟩) (i - k) cc) w') ∧ (0 < i - k → oo = k * 3) := by
  subst hz
  by_cases h : c = k
  · refine ⟨0, c - k, fun w' => ?_, fun h0 => by omega⟩
    rw [run_slice_l (P := Tryd.prog) w' 24 (some ⟨g, 0, none⟩) i c elT .i64 k (by omega) (by omega), elE, Tryd.sizeOf34 w']
    simp [Result.andThen, sliced, h]
  · refine ⟨k * 3, c - k, fun w' => ?_, fun _ => rfl⟩
    rw [run_slice_l (P := Tryd.prog) w' 24 (some ⟨g, 0, none⟩) i c elT .i64 k (by omega) (by omega), elE, Tryd.sizeOf34 w']
    simp [Result.andThen, sliced, h, Go.WideShapes.add_plain]
theorem cut_head {g i c k : Nat} (kz : Int) (hz : kz = (k : Int)) (hk : k ≤ i) (hc : i ≤ c) (w' : World) :
    (Instr.slice 24 (.slice (some ⟨g, 0, none⟩) i c) none (some (.int .i64 kz)) none).run Tryd.prog w' = .ok (.slice (some ⟨g, 0, none⟩) k c) w' := by
  subst hz
  rw [run_slice_h (P := Tryd.prog) w' 24 (some ⟨g, 0, none⟩) i c elT .i64 k (by omega) (by omega), elE, Tryd.sizeOf34 w']
  simp [Result.andThen, sliced, Go.WideShapes.add_plain]

/-- the cells of a part of a slice that holds ranges -/
theorem rdp_part {w : World} {g : Nat} {L : List Pr} (h : RdP w (some ⟨g, 0, none⟩) L) (a b : Nat) : ∀ j v, (pcells ((L.drop a).take b))[j]? = some v → w.cell? ((⟨g, a * 3, none⟩ : Addr).add j) = some v := by
  intro j v hv
  have hR : RdP w (some ⟨g, a * 3, none⟩) ((L.drop a).take b) := by
    intro q x hx
    rw [List.getElem?_take] at hx
    split at hx
    · rw [List.getElem?_drop] at hx
      obtain ⟨g', o', e, hg, c0, c1, c2⟩ := h (a + q) x hx
      cases e
      refine ⟨g, a * 3, rfl, hg, ?_, ?_, ?_⟩
      · rw [show a * 3 + q * 3 = 0 + (a + q) * 3 by omega]; exact c0
      · rw [show a * 3 + q * 3 + 1 = 0 + (a + q) * 3 + 1 by omega]; exact c1
      · rw [show a * 3 + q * 3 + 2 = 0 + (a + q) * 3 + 2 by omega]; exact c2
    · cases hx
  have hj : j < (pcells ((L.drop a).take b)).length := (List.getElem?_eq_some_iff.1 hv).1
  rw [pcells_len] at hj
  obtain ⟨g', o', e, _, hc⟩ := rdp_cells hR (by omega)
  cases e
  rw [Go.WideShapes.add_plain]
  exact hc j v hv
end Go.Proofs.YtocgpoafhocbbaaDoor.PgM
