/-
  Putting a number to its place: l1Put of the model; slices of numbers.
-/
import Derived.Test.YtilaaegdkjlifaaDoorNuPl
import Derived.Test.YtilaaegdkjlifaaDoorNfC
import Derived.Deep.RegionHeld3
import Derived.LoopTactic
import Derived.Sort.Walk0
import Derived.Maps.AppendAt
namespace Go.Proofs.YtilaaegdkjlifaaDoor.Nu
open Go.RowKit Pl NuPl
open Kpz (Kp)
set_option linter.unusedSimpArgs false
set_option linter.unusedVariables false

theorem infoI : (Tryd.prog.info? 3).map (fun i => (i.zero, i.size, i.bytes)) = some (some (.int .i64 0), 1, 8) := by kernel_rfl
abbrev encI (x : Int) : Value := .int .i64 x
theorem enc_one (W : List Int) : ∀ u ∈ W.map encI, u.oneCell' = true := by
  intro u hu
  obtain ⟨x, _, rfl⟩ := List.mem_map.1 hu
  rfl
theorem own_cells1 {w : World} {base : Nat} {e : TypeId} {g n c : Nat} {xs : List Value} (h : w.ownsRow base e 1 (.slice (some ⟨g, 0, none⟩) n c) n xs) : ∀ (j : Nat) (u : Value), xs[j]? = some u → w.cell? ((⟨g, 0, none⟩ : Addr).add j) = some u := by
  intro j u hu
  have hj : j < n := by
    have h1 := (List.getElem?_eq_some_iff.1 hu).1
    have h2 := h.1
    omega
  rw [Go.WideShapes.add_plain, Nat.zero_add, World.ownsRow.cellAt h j (by omega)]
  exact hu
theorem form1 {w : World} {base : Nat} {e : TypeId} {size n : Nat} {v : Value} {xs : List Value} (h : w.ownsRow base e size v n xs) (hv : v ≠ .slice none 0 0) : ∃ g c, v = .slice (some ⟨g, 0, none⟩) n c := by
  rcases h.2 with ⟨h0, _⟩ | ⟨g, cap, cur, rfl, _⟩
  · exact absurd h0 hv
  · exact ⟨g, cap, rfl⟩
theorem Kp.dr {W w : World} (h : Kp W w) : Kp W w.drew := Below.drew h
theorem Kp.al {W w : World} (h : Kp W w) (o : Obj) : Kp W (w.alloc o) := Below.alloc h (Below.size h) o
theorem Kp.refl' (W : World) : Kp W W := Below.refl _ _
theorem Kp.gr {W w w' : World} {row : Option Nat} (h : Kp W w) (hg : w.grownBy w' row) (hrow : ∀ k, row = some k → W.heap.size ≤ k) : Kp W w' := Below.grown h hg (Below.size h) hrow
/-- an append at a step of a region that draws its order -/
theorem step_own {P : Program} {w : World} {ops : Array Oper} {o : Oper} {a : Act} {K : Act → World → Prop} {Q : Exit → Act → World → Prop} {E : Prop} (hgd : o.guard = none) (s x : Operand) (t : TypeId)
    (ho : o.op = .call { callee := .builtin .append, args := #[s, x], argTypes := #[t, t] })
    (base : Nat) (e : TypeId) (i : TypeInfo) (z : Value) (size bytes : Nat) (ht : P.underlying t = some (.slice e)) (hi : P.info? e = some i) (hz : i.zero = some z)
    (hsize : i.size = size) (hby : i.bytes = bytes) (hzs : z.cells.size = size) (hsz : 0 < size)
    (v : Value) (n : Nat) (xs : List Value) (hs : a.eval s = v) (hown : w.ownsRow base e size v n xs)
    (ad : Addr) (m c : Nat) (news : List Value) (hx : a.eval x = .slice (some ad) m c) (hl : news.length = m * size) (hnews : ∀ j u, news[j]? = some u → w.cell? (ad.add j) = some u) (h1 : ∀ u ∈ news, u.oneCell' = true)
    (h63 : n + m ≤ maxLen) (hbytes : (n + m) * bytes ≤ 140737488355328) (hbase : base ≤ w.heap.size)
    (h : ∀ v' w', w'.ownsRow base e size v' (n + m) (xs ++ news) → w.grownBy w' v.ownBlock → (v' = .slice none 0 0 ↔ v = .slice none 0 0 ∧ m = 0) → K (a.put o.dst v') w') :
    if Region.wanted o (yielded ops a.tmps) = true then Oper.wp P o a w K Q else E := by
  have hw : Region.wanted o (yielded ops a.tmps) = true := by simp [Region.wanted, hgd]
  rw [if_pos hw]
  exact wp_append_own w s x t ho base e i z size bytes ht hi hz hsize hby hzs hsz v n xs hs hown ad m c news hx hl hnews h1 h63 hbytes hbase h
theorem heap_at2 (w : World) (a b : Obj) : ((w.alloc a).alloc b).heap[w.heap.size + 1]? = some b := by
  have := heap_alloc_new (w.alloc a) b
  rw [show (w.alloc a).heap.size = w.heap.size + 1 by simp] at this
  exact this
theorem heap_at1 (w : World) (a b : Obj) : ((w.alloc a).alloc b).heap[w.heap.size]? = some a :=
  (heap_alloc_old _ _ (by simp)).trans (heap_alloc_new _ _)
theorem own_lit0 {w : World} {base b : Nat} {e : TypeId} {size : Nat} (hb : w.heap[b]? = some (.cells #[] e (0, 0))) (h : base ≤ b) : w.ownsRow base e size (.slice (some ⟨b, 0, none⟩) 0 0) 0 [] :=
  ⟨by simp, .inr ⟨b, 0, #[], rfl, h, hb, Nat.le_refl _, by decide, by simp, by simp⟩⟩
theorem cells1_heap {w : World} {g : Nat} {a : Value} {t : TypeId} {fr : Nat × Nat} (h : w.heap[g]? = some (.cells #[a] t fr)) : ∀ (j : Nat) (u : Value), [a][j]? = some u → w.cell? ((⟨g, 0, none⟩ : Addr).add j) = some u := by
  intro j u hu
  rw [Go.WideShapes.add_plain, Nat.zero_add]
  match j, hu with
  | 0, hu => cases hu; simp [World.cell?, h]
  | j + 1, hu => simp at hu
theorem elT1 : Tryd.prog.underlying 22 = some (.slice (Tryd.prog.elem 22)) := by kernel_rfl
theorem elE1 : Tryd.prog.elem 22 = 3 := by kernel_rfl
theorem cut_tail {g i c k : Nat} (kz : Int) (hz : kz = (k : Int)) (hk : k ≤ i) (hc : i ≤ c) :
    ∃ oo cc, (∀ w', (Instr.slice 22 (.slice (some ⟨g, 0, none⟩) i c) (some (.int .i64 kz)) none none).run Tryd.prog w' = .ok (.slice (some ⟨g, oo, none⟩) (i - k) cc) w') ∧ (0 < i - k → oo = k) := by
  subst hz
  by_cases h : c = k
  · refine ⟨0, c - k, fun w' => ?_, fun h0 => by omega⟩
    rw [run_slice_l (P := Tryd.prog) w' 22 (some ⟨g, 0, none⟩) i c elT1 .i64 k (by omega) (by omega), elE1, Tryd.sizeOf3 w']
    simp [Result.andThen, sliced, h]
  · refine ⟨k, c - k, fun w' => ?_, fun _ => rfl⟩
    rw [run_slice_l (P := Tryd.prog) w' 22 (some ⟨g, 0, none⟩) i c elT1 .i64 k (by omega) (by omega), elE1, Tryd.sizeOf3 w']
    simp [Result.andThen, sliced, h, Go.WideShapes.add_plain]
theorem cut_head {g i c k : Nat} (kz : Int) (hz : kz = (k : Int)) (hk : k ≤ i) (hc : i ≤ c) (w' : World) :
    (Instr.slice 22 (.slice (some ⟨g, 0, none⟩) i c) none (some (.int .i64 kz)) none).run Tryd.prog w' = .ok (.slice (some ⟨g, 0, none⟩) k c) w' := by
  subst hz
  rw [run_slice_h (P := Tryd.prog) w' 22 (some ⟨g, 0, none⟩) i c elT1 .i64 k (by omega) (by omega), elE1, Tryd.sizeOf3 w']
  simp [Result.andThen, sliced, Go.WideShapes.add_plain]

/-- block g holds the numbers -/
def Rd1 (w : World) (g : Nat) (L : List Int) : Prop := g < w.heap.size ∧ ∀ j x, L[j]? = some x → w.cell? ⟨g, j, none⟩ = some (encI x)
theorem Rd1.below {w w' : World} {g : Nat} {L : List Int} (h : Rd1 w g L) (hb : Below w.heap.size w w') : Rd1 w' g L :=
  ⟨Nat.lt_of_lt_of_le h.1 hb.size, fun j x hx => (hb.cell (p := ⟨g, j, none⟩) h.1).trans (h.2 j x hx)⟩
theorem Rd1.part {w : World} {g : Nat} {L : List Int} (h : Rd1 w g L) (a b : Nat) : ∀ (j : Nat) (u : Value), (((L.drop a).take b).map encI)[j]? = some u → w.cell? ((⟨g, a, none⟩ : Addr).add j) = some u := by
  intro j u hu
  rw [List.getElem?_map, List.getElem?_take] at hu
  split at hu
  · rw [List.getElem?_drop] at hu
    cases hx : L[a + j]? with
    | none => rw [hx] at hu; cases hu
    | some x =>
      rw [hx] at hu
      cases hu
      rw [Go.WideShapes.add_plain]
      exact h.2 _ _ hx
  · cases hu
def AdPost (w : World) (L : List Int) (e : Ending) (w' : World) : Prop := ∃ g c, e = .returned (.slice (some ⟨g, 0, none⟩) L.length c) ∧ Rd1 w' g L ∧ L.length ≤ c ∧ Below w.heap.size w w'
theorem own_rd1 {w : World} {base : Nat} {e : TypeId} {g n c : Nat} {L : List Int} (h : w.ownsRow base e 1 (.slice (some ⟨g, 0, none⟩) n c) n (L.map encI)) : Rd1 w g L ∧ n ≤ c := by
  have hl : L.length = n := by have := h.1; simpa using this
  refine ⟨⟨(h.lt g rfl).2, fun j x hx => ?_⟩, ?_⟩
  · have := own_cells1 h j (encI x) (by rw [List.getElem?_map, hx]; rfl)
    rwa [Go.WideShapes.add_plain, Nat.zero_add] at this
  · rcases h.2 with ⟨h0, _⟩ | ⟨g', cap, cur, h0, _, _, h5, _⟩
    · cases h0
    · cases h0; exact h5
set_option maxRecDepth 100000 in
set_option maxHeartbeats 8000000 in
theorem add_s (g c n : Nat) (L : List Int) (sb : Int) (w : World) (h : Rd1 w g L) (hn : L.length = n) (hm : n ≤ 1048576) (hc : n ≤ c) :
    Calls Tryd.prog 14 #[.slice (some ⟨g, 0, none⟩) n c, .int .i64 sb] w (AdPost w (putI sb L)) := by
  obtain ⟨i0, hi, hz0, hz1, hz2⟩ := info_parts infoI
  have HR := Lib.hid h
  have HN := Lib.hid hn
  obtain ⟨M, HM⟩ : ∃ M, Hid (M = putI sb L) := ⟨_, Lib.hid rfl⟩
  rw [← HM.out]
  clear h hn
  go_enter Tryd.func14, Tryd.ntmps14
  go_wp2_with fail
  go_loop [5] (fun i => ∃ k : Nat, k ≤ n ∧ i = .int .i64 k ∧ Hid (∀ j y, j < k → L[j]? = some y → y < sb)) (fun i => n - (intOf i).toNat)
  case atStart => exact ⟨0, Nat.zero_le _, rfl, Lib.hid (fun j y hj => by omega)⟩
  case round =>
    obtain ⟨k, hk, rfl, HL⟩ := hrel
    have hI0 : (0 : Int) ≤ (k : Int) := Int.natCast_nonneg _
    by_cases hlt : k < n
    · have hkx : k < L.length := by rw [HN.out]; exact hlt
      have hx? := List.getElem?_eq_getElem hkx
      have c0 := HR.out.2 k _ hx?
      have HX? := Lib.hid hx?
      clear hx?
      generalize L[k] = y at *
      have hI1 : (k : Int) < (n : Int) := by omega
      by_cases hls : y < sb
      · have hbl : decide (y < sb) = true := decide_eq_true hls
        have HL2 : Hid (∀ j y, j < k + 1 → L[j]? = some y → y < sb) := Lib.hid (fun j z hj hz => by
          rcases Nat.lt_or_ge j k with h9 | h9
          · exact HL.out j z h9 hz
          · obtain rfl : j = k := by omega
            rw [HX?.out] at hz
            cases hz
            exact hls)
        clear hls HL
        go_wp2_with fail
        go_round
        case rel => exact ⟨k + 1, by omega, by go_num, HL2⟩
        case measure => simp [intOf]; omega
      · have hbl : decide (y < sb) = false := decide_eq_false hls
        have HI := Lib.hid (putI_at L sb k (by have := HN.out; omega) HL.out (.inr ⟨y, HX?.out, hls⟩))
        by_cases hys : y = sb
        · have heq : (y == sb) = true := by simp [hys]
          have HF : Hid (M = L) := Lib.hid (by rw [HM.out, HI.out, if_pos (by rw [HX?.out, hys])])
          clear hls hys
          go_wp2_with fail
          go_ret
          exact ⟨g, c, by rw [HF.out, HN.out]; rfl, by rw [HF.out]; exact HR.out, by rw [HF.out, HN.out]; exact hc, Below.refl _ _⟩
        · have heq : (y == sb) = false := by simp [hys]
          have HF : Hid (M = L.take k ++ sb :: L.drop k) := Lib.hid (by rw [HM.out, HI.out, if_neg (fun e => hys (by rw [HX?.out] at e; exact Option.some.inj e))])
          clear hls hys HI HX? HL
          obtain ⟨oo, cc, hcut, hoo⟩ := cut_tail (g := g) (i := n) (c := c) (k := k) (k : Int) rfl (by omega) hc
          have hhead := fun w' => cut_head (g := g) (i := n) (c := c) (k := k) (k : Int) rfl (by omega) hc w'
          have HN1 : Hid (∀ w', Kp w w' → ∀ (j : Nat) (u : Value), ((L.take k).map encI)[j]? = some u → w'.cell? ((⟨g, 0, none⟩ : Addr).add j) = some u) := Lib.hid (fun w' h j u hu => (HR.out.below h).part 0 k j u (by rw [List.drop_zero]; exact hu))
          have HN3 : Hid (∀ w', Kp w w' → ∀ (j : Nat) (u : Value), ((L.drop k).map encI)[j]? = some u → w'.cell? ((⟨g, oo, none⟩ : Addr).add j) = some u) := Lib.hid (fun w' h j u hu => by
            by_cases h0 : 0 < n - k
            · have := (HR.out.below h).part k (n - k) j u (by rw [List.take_of_length_le (by rw [List.length_drop, HN.out]; exact Nat.le_refl _)]; exact hu)
              rw [← hoo h0] at this
              exact this
            · rw [List.drop_eq_nil_of_le (by rw [HN.out]; omega)] at hu
              simp at hu)
          have HL1 : Hid (((L.take k).map encI).length = k * 1) := Lib.hid (by rw [List.length_map, List.length_take, HN.out]; omega)
          have HL3 : Hid (((L.drop k).map encI).length = (n - k) * 1) := Lib.hid (by rw [List.length_map, List.length_drop, HN.out]; omega)
          clear hoo
          go_wp2_with fail
          go_region_held3 (fun w' => Kp w w')
            (exact (by repeat (first | assumption | exact Kp.refl' _ | refine Kp.dr ?_ | refine Kp.al ?_ _)))
            (first
              | (refine step_own (by rfl) _ _ _ (by rfl) w.heap.size 3 i0 _ 1 8 Tryd.underlying22 hi hz0 hz1 hz2 rfl (by decide) _ 0 [] (by rfl) (own_lit0 (by first | exact heap_alloc_new _ _ | exact heap_at2 _ _ _ | exact heap_at1 _ _ _) (by first | exact Nat.le_refl _ | (simp; done))) ⟨g, 0, none⟩ k c ((L.take k).map encI) (by rfl) HL1.out (HN1.out _ (by repeat (first | assumption | exact Kp.refl' _ | refine Kp.dr ?_ | refine Kp.al ?_ _))) (enc_one _) (by unfold maxLen; omega) (by omega) (by first | exact Nat.le_refl _ | (simp; done) | (simp; omega)) ?_; intro v1 w1 hown1 hgrow1 hne1; have hk1 : Kp w w1 := Kp.gr (by repeat (first | assumption | exact Kp.refl' _ | refine Kp.dr ?_ | refine Kp.al ?_ _)) hgrow1 (fun q hq => by cases hq; first | exact Nat.le_refl _ | simp))
              | (refine step_own (by rfl) _ _ _ (by rfl) w.heap.size 3 i0 _ 1 8 Tryd.underlying22 hi hz0 hz1 hz2 rfl (by decide) v1 (0 + k) ([] ++ (L.take k).map encI) (by rfl) (by first | exact hown1 | exact hown1.alloc _) ⟨_, 0, none⟩ 1 1 [.int .i64 sb] (by rfl) rfl (cells1_heap (t := 3) (fr := (0, 0)) (by first | exact heap_alloc_new _ _ | (refine (hgrow1.block _ (by simp <;> omega) (by simp [Value.ownBlock])).trans ?_; first | exact heap_alloc_new _ _ | exact heap_at2 _ _ _ | exact heap_at1 _ _ _))) (by simp [Value.oneCell']) (by unfold maxLen; omega) (by omega) (by first | exact (Below.size hk1) | (have := Below.size hk1; simp; omega)) ?_; intro v2 w2 hown2 hgrow2 hne2; have hk2 : Kp w w2 := Kp.gr (by repeat (first | assumption | exact Kp.refl' _ | refine Kp.dr ?_ | refine Kp.al ?_ _)) hgrow2 (fun q hq => (hown1.lt q hq).1))
              | (refine step_own (by rfl) _ _ _ (by rfl) w.heap.size 3 i0 _ 1 8 Tryd.underlying22 hi hz0 hz1 hz2 rfl (by decide) v2 (0 + k + 1) (([] ++ (L.take k).map encI) ++ [.int .i64 sb]) (by rfl) hown2 ⟨g, oo, none⟩ (n - k) cc ((L.drop k).map encI) (by rfl) HL3.out (HN3.out _ (by repeat (first | assumption | exact Kp.refl' _ | refine Kp.dr ?_ | refine Kp.al ?_ _))) (enc_one _) (by unfold maxLen; omega) (by omega) (by first | exact (Below.size hk2) | (have := Below.size hk2; simp; omega)) ?_; intro v3 w3 hown3 hgrow3 hne3; have hk3 : Kp w w3 := Kp.gr (by repeat (first | assumption | exact Kp.refl' _ | refine Kp.dr ?_ | refine Kp.al ?_ _)) hgrow3 (fun q hq => (hown2.lt q hq).1))
              | fail)
          all_goals
            have hv1 : v1 ≠ .slice none 0 0 := fun e => by have h9 := (hne1.1 e).1; cases h9
            have hv2 : v2 ≠ .slice none 0 0 := fun e => hv1 (hne2.1 e).1
            have hv3 : v3 ≠ .slice none 0 0 := fun e => hv2 (hne3.1 e).1
            obtain ⟨g4, c4, rfl⟩ := form1 hown3 hv3
            have hMl : M.length = 0 + k + 1 + (n - k) := by rw [HF.out, List.length_append, List.length_cons, List.length_take, List.length_drop, HN.out]; omega
            have hMc : ([] ++ (L.take k).map encI ++ [.int .i64 sb]) ++ (L.drop k).map encI = M.map encI := by rw [HF.out]; simp [encI]
            rw [hMc] at hown3
            obtain ⟨r1, r2⟩ := own_rd1 hown3
            clear hown1 hown2 hown3 hgrow1 hgrow2 hgrow3 hne1 hne2 hne3 hv1 hv2 hv3 hcut hhead
            (try clear hHeld)
            go_wp2_with fail
            go_ret
            refine ⟨g4, c4, ?_, r1, by rw [hMl]; exact r2, hk3⟩
            rw [hMl]; rfl
    · have hNl := HN.out
      have HI := Lib.hid (putI_at L sb k (by omega) HL.out (.inl (by omega)))
      have HF : Hid (M = L.take k ++ sb :: L.drop k) := Lib.hid (by rw [HM.out, HI.out, if_neg (by rw [List.getElem?_eq_none (by omega)]; simp)])
      have hI1 : ¬ ((k : Int) < (n : Int)) := by omega
      clear HI HL hNl
      obtain ⟨oo, cc, hcut, hoo⟩ := cut_tail (g := g) (i := n) (c := c) (k := k) (k : Int) rfl (by omega) hc
      have hhead := fun w' => cut_head (g := g) (i := n) (c := c) (k := k) (k : Int) rfl (by omega) hc w'
      have HN1 : Hid (∀ w', Kp w w' → ∀ (j : Nat) (u : Value), ((L.take k).map encI)[j]? = some u → w'.cell? ((⟨g, 0, none⟩ : Addr).add j) = some u) := Lib.hid (fun w' h j u hu => (HR.out.below h).part 0 k j u (by rw [List.drop_zero]; exact hu))
      have HN3 : Hid (∀ w', Kp w w' → ∀ (j : Nat) (u : Value), ((L.drop k).map encI)[j]? = some u → w'.cell? ((⟨g, oo, none⟩ : Addr).add j) = some u) := Lib.hid (fun w' h j u hu => by
        by_cases h0 : 0 < n - k
        · have := (HR.out.below h).part k (n - k) j u (by rw [List.take_of_length_le (by rw [List.length_drop, HN.out]; exact Nat.le_refl _)]; exact hu)
          rw [← hoo h0] at this
          exact this
        · rw [List.drop_eq_nil_of_le (by rw [HN.out]; omega)] at hu
          simp at hu)
      have HL1 : Hid (((L.take k).map encI).length = k * 1) := Lib.hid (by rw [List.length_map, List.length_take, HN.out]; omega)
      have HL3 : Hid (((L.drop k).map encI).length = (n - k) * 1) := Lib.hid (by rw [List.length_map, List.length_drop, HN.out]; omega)
      clear hoo
      go_wp2_with fail
      go_region_held3 (fun w' => Kp w w')
        (exact (by repeat (first | assumption | exact Kp.refl' _ | refine Kp.dr ?_ | refine Kp.al ?_ _)))
        (first
          | (refine step_own (by rfl) _ _ _ (by rfl) w.heap.size 3 i0 _ 1 8 Tryd.underlying22 hi hz0 hz1 hz2 rfl (by decide) _ 0 [] (by rfl) (own_lit0 (by first | exact heap_alloc_new _ _ | exact heap_at2 _ _ _ | exact heap_at1 _ _ _) (by first | exact Nat.le_refl _ | (simp; done))) ⟨g, 0, none⟩ k c ((L.take k).map encI) (by rfl) HL1.out (HN1.out _ (by repeat (first | assumption | exact Kp.refl' _ | refine Kp.dr ?_ | refine Kp.al ?_ _))) (enc_one _) (by unfold maxLen; omega) (by omega) (by first | exact Nat.le_refl _ | (simp; done) | (simp; omega)) ?_; intro v1 w1 hown1 hgrow1 hne1; have hk1 : Kp w w1 := Kp.gr (by repeat (first | assumption | exact Kp.refl' _ | refine Kp.dr ?_ | refine Kp.al ?_ _)) hgrow1 (fun q hq => by cases hq; first | exact Nat.le_refl _ | simp))
          | (refine step_own (by rfl) _ _ _ (by rfl) w.heap.size 3 i0 _ 1 8 Tryd.underlying22 hi hz0 hz1 hz2 rfl (by decide) v1 (0 + k) ([] ++ (L.take k).map encI) (by rfl) (by first | exact hown1 | exact hown1.alloc _) ⟨_, 0, none⟩ 1 1 [.int .i64 sb] (by rfl) rfl (cells1_heap (t := 3) (fr := (0, 0)) (by first | exact heap_alloc_new _ _ | (refine (hgrow1.block _ (by simp <;> omega) (by simp [Value.ownBlock])).trans ?_; first | exact heap_alloc_new _ _ | exact heap_at2 _ _ _ | exact heap_at1 _ _ _))) (by simp [Value.oneCell']) (by unfold maxLen; omega) (by omega) (by first | exact (Below.size hk1) | (have := Below.size hk1; simp; omega)) ?_; intro v2 w2 hown2 hgrow2 hne2; have hk2 : Kp w w2 := Kp.gr (by repeat (first | assumption | exact Kp.refl' _ | refine Kp.dr ?_ | refine Kp.al ?_ _)) hgrow2 (fun q hq => (hown1.lt q hq).1))
          | (refine step_own (by rfl) _ _ _ (by rfl) w.heap.size 3 i0 _ 1 8 Tryd.underlying22 hi hz0 hz1 hz2 rfl (by decide) v2 (0 + k + 1) (([] ++ (L.take k).map encI) ++ [.int .i64 sb]) (by rfl) hown2 ⟨g, oo, none⟩ (n - k) cc ((L.drop k).map encI) (by rfl) HL3.out (HN3.out _ (by repeat (first | assumption | exact Kp.refl' _ | refine Kp.dr ?_ | refine Kp.al ?_ _))) (enc_one _) (by unfold maxLen; omega) (by omega) (by first | exact (Below.size hk2) | (have := Below.size hk2; simp; omega)) ?_; intro v3 w3 hown3 hgrow3 hne3; have hk3 : Kp w w3 := Kp.gr (by repeat (first | assumption | exact Kp.refl' _ | refine Kp.dr ?_ | refine Kp.al ?_ _)) hgrow3 (fun q hq => (hown2.lt q hq).1))
          | fail)
      all_goals
        have hv1 : v1 ≠ .slice none 0 0 := fun e => by have h9 := (hne1.1 e).1; cases h9
        have hv2 : v2 ≠ .slice none 0 0 := fun e => hv1 (hne2.1 e).1
        have hv3 : v3 ≠ .slice none 0 0 := fun e => hv2 (hne3.1 e).1
        obtain ⟨g4, c4, rfl⟩ := form1 hown3 hv3
        have hMl : M.length = 0 + k + 1 + (n - k) := by rw [HF.out, List.length_append, List.length_cons, List.length_take, List.length_drop, HN.out]; omega
        have hMc : ([] ++ (L.take k).map encI ++ [.int .i64 sb]) ++ (L.drop k).map encI = M.map encI := by rw [HF.out]; simp [encI]
        rw [hMc] at hown3
        obtain ⟨r1, r2⟩ := own_rd1 hown3
        clear hown1 hown2 hown3 hgrow1 hgrow2 hgrow3 hne1 hne2 hne3 hv1 hv2 hv3 hcut hhead
        (try clear hHeld)
        go_wp2_with fail
        go_ret
        refine ⟨g4, c4, ?_, r1, by rw [hMl]; exact r2, hk3⟩
        rw [hMl]; rfl
end Go.Proofs.YtilaaegdkjlifaaDoor.Nu
