/-
  Contracts of mergePages of the program: continuesRange, copy, mergePages, MergePages.
-/
import Derived.Test.YtocgpoafhocbbaaDoorPgSo
import Derived.Laws.CopyOwn
import Derived.Maps.AppendAt
namespace Go.Proofs.YtocgpoafhocbbaaDoor.PgM
open Go.RowKit PgPl NmPl Pg PgMe PgSo PgHit
set_option linter.unusedSimpArgs false
set_option linter.unusedVariables false

theorem str_neq {a b : ByteArray} (h : a ≠ b) : (a.toList == b.toList) = false := by
  rw [beq_eq_false_iff_ne, Lib.toList_data, Lib.toList_data]
  intro e
  exact h (ByteArray.ext (Array.ext' e))
theorem cont_i (y x : Pr) (r : Bool) (w : World) (hy : y.ok = true) (hr : cont y x = r) :
    Calls Tryd.prog 29 #[prV y.l y.f y.t, prV x.l x.f x.t] w fun e w' => e = .returned (.bool r) ∧ Below w.heap.size w w' := by
  obtain ⟨_, h1, h2, h3⟩ := okR_yes hy
  obtain ⟨l, f, t⟩ := y
  obtain ⟨l', f', t'⟩ := x
  dsimp only at *
  have HR : Hid ((decide (l' = l) && decide (f' ≤ t + 1)) = r) := Lib.hid hr
  have HB : Hid (Below w.heap.size w ((w.alloc (.cells #[.string l, .int .i64 f, .int .i64 t] 34)).alloc (.cells #[.string l', .int .i64 f', .int .i64 t'] 34))) := Lib.hid (((Below.refl _ _).alloc (Nat.le_refl _) _).alloc (by simp) _)
  clear hr hy
  by_cases hl : l' = l
  · subst hl
    rw [decide_eq_true rfl, Bool.true_and] at HR
    go_enter Tryd.func29, Tryd.ntmps29
    go_wp2_with fail
    all_goals go_ret
    all_goals exact ⟨ret_bool (by rw [← HR.out] <;> (rw [Bool.eq_iff_iff]; simp; omega)), HB.out⟩
  · have hne := str_neq hl
    rw [decide_eq_false hl, Bool.false_and] at HR
    clear hl
    go_enter Tryd.func29, Tryd.ntmps29
    go_wp2_with fail
    go_ret
    exact ⟨by rw [← HR.out]; rfl, HB.out⟩

/-- copy of a whole list into a row of the same length, elements of k cells -/
theorem run_copy_k {P : Program} (w : World) (dT sT ty elem : TypeId) (g dCap : Nat) (a : Addr) (N sCap k : Nat) (cur : Array Value) (t : TypeId) (cs : List Value)
    (hu : P.underlying dT = some (.slice elem)) (hs : (P.info? elem).map (·.size) = some k)
    (hg : w.heap[g]? = some (.cells cur t (0, 0))) (hn : cs.length = N * k)
    (hsrc : ∀ j v, cs[j]? = some v → w.cell? (a.add j) = some v) (hfit : cs.length ≤ cur.size) (h1 : ∀ v ∈ cs, v.oneCell' = true) :
    (Builtin.copy_ #[dT, sT] ty #[.slice (some ⟨g, 0, none⟩) N dCap, .slice (some a) N sCap]).run P w =
      .ok (goInt N) (w.setRow g (cs ++ cur.toList.drop cs.length).toArray) := by
  have hl := run_loadCells_list (P := P) w a cs hsrc
  have hst := run_storeCells_at P g 0 t cs 0 cur w hg (by simpa using hfit) h1
  cases hq : P.info? elem with
  | none => simp [hq] at hs
  | some i =>
    have hi : i.size = k := by simpa [hq] using hs
    rw [hn] at hl hst
    simp [Builtin.copy_, run_underlying hu, Builtin.lenOf, Builtin.firstCells, sizeOf, typeInfo, hq, hi, hl, hst, hn]
theorem pc_one (L : List Pr) : ∀ v ∈ pcells L, v.oneCell' = true := by
  intro v hv
  obtain ⟨x, _, hx⟩ := List.mem_flatMap.1 hv
  simp at hx
  rcases hx with rfl | rfl | rfl <;> rfl
/-- the cells of a slice that holds ranges -/
theorem rdp_cells {w : World} {A : Option Addr} {L : List Pr} (h : RdP w A L) (hp : 0 < L.length) : ∃ g o, A = some ⟨g, o, none⟩ ∧ g < w.heap.size ∧ ∀ j v, (pcells L)[j]? = some v → w.cell? ⟨g, o + j, none⟩ = some v := by
  obtain ⟨g, o, hA, hg, _⟩ := h 0 L[0] (List.getElem?_eq_getElem hp)
  refine ⟨g, o, hA, hg, fun j v hv => ?_⟩
  have hj : j < (pcells L).length := (List.getElem?_eq_some_iff.1 hv).1
  rw [pcells_len] at hj
  have hjk : j / 3 < L.length := by omega
  have hx := List.getElem?_eq_getElem hjk
  obtain ⟨g', o', hA', _, c0, c1, c2⟩ := h (j / 3) L[j / 3] hx
  obtain ⟨e0, e1, e2⟩ := pcells_at hx
  rw [hA] at hA'
  cases hA'
  have h3 : j % 3 = 0 ∨ j % 3 = 1 ∨ j % 3 = 2 := by omega
  rcases h3 with h3 | h3 | h3
  · have e : j / 3 * 3 = j := by omega
    rw [e] at e0 c0
    rw [e0] at hv; cases hv; exact c0
  · have e : j / 3 * 3 + 1 = j := by omega
    rw [e] at e1
    rw [e1] at hv; cases hv
    rw [show o + j = o + j / 3 * 3 + 1 by omega]; exact c1
  · have e : j / 3 * 3 + 2 = j := by omega
    rw [e] at e2
    rw [e2] at hv; cases hv
    rw [show o + j = o + j / 3 * 3 + 2 by omega]; exact c2
/-- the box of a range -/
def P3 (W : World) (b : Nat) (l : ByteArray) (f t : Int) : Prop := b < W.heap.size ∧ W.cell? ⟨b, 0, none⟩ = some (.string l) ∧ W.cell? ⟨b, 1, none⟩ = some (.int .i64 f) ∧ W.cell? ⟨b, 2, none⟩ = some (.int .i64 t)
theorem P3.new (w : World) (l : ByteArray) (f t : Int) (ty : TypeId) : P3 (w.alloc (.cells #[.string l, .int .i64 f, .int .i64 t] ty)) w.heap.size l f t :=
  ⟨by simp, by simp, by simp, by simp⟩
theorem P3.below {W w' : World} {b : Nat} {l : ByteArray} {f t : Int} (h : P3 W b l f t) (hb : Below W.heap.size W w') : P3 w' b l f t := by
  obtain ⟨h0, h1, h2, h3⟩ := h
  exact ⟨Nat.lt_of_lt_of_le h0 hb.size, (hb.cell (p := ⟨b, 0, none⟩) h0).trans h1, (hb.cell (p := ⟨b, 1, none⟩) h0).trans h2, (hb.cell (p := ⟨b, 2, none⟩) h0).trans h3⟩
theorem row_base' {w : World} {b b' : Nat} {e : TypeId} {size : Nat} {v : Value} {n : Nat} {xs : List Value} (h : b' ≤ b) (ho : w.ownsRow b e size v n xs) : w.ownsRow b' e size v n xs := by
  refine ⟨ho.1, ?_⟩
  rcases ho.2 with h' | ⟨g, cap, cur, e1, e2, e3⟩
  · exact .inl h'
  · exact .inr ⟨g, cap, cur, e1, Nat.le_trans h e2, e3⟩
theorem cell_three_new (w : World) (a b c : Value) (t : TypeId) : ∀ (j : Nat) (u : Value), [a, b, c][j]? = some u → (w.alloc (.cells #[a, b, c] t)).cell? ((⟨w.heap.size, 0, none⟩ : Addr).add j) = some u := by
  intro j u hu
  rw [Go.WideShapes.add_plain, Nat.zero_add]
  match j, hu with
  | 0, hu => cases hu; simp
  | 1, hu => cases hu; simp
  | 2, hu => cases hu; simp
  | j + 3, hu => simp at hu
theorem szPr : (Tryd.prog.info? 34).map (·.size) = some 3 := by kernel_rfl

/-- a row of the call's own that stays while another block is stored into or the heap grows -/
theorem own_far {w w' : World} {base : Nat} {e : TypeId} {size n : Nat} {v : Value} {xs : List Value} {row : Option Nat} (h : w.ownsRow base e size v n xs) (hg : w.grownBy w' row) (hne : v.ownBlock ≠ row) : w'.ownsRow base e size v n xs :=
  h.kept hg (.inr hne)
theorem grown_below' {w w1 w2 : World} {row : Option Nat} (h : w.grownBy w1 row) (hb : Below w1.heap.size w1 w2) : w.grownBy w2 row :=
  ⟨hb.os.trans h.os, hb.tape.trans h.tape, hb.output.trans h.output, Nat.le_trans h.size hb.size, fun k hk hr => (hb.block k (Nat.lt_of_lt_of_le hk h.size)).trans (h.block k hk hr)⟩
theorem below_grown {B : Nat} {w0 w w' : World} {row : Option Nat} (h : Below B w0 w) (hg : w.grownBy w' row) (hB : B ≤ w.heap.size) (hrow : ∀ k, row = some k → B ≤ k) : Below B w0 w' :=
  h.trans ⟨hg.os, hg.tape, hg.output, hg.size, fun k hk => hg.block k (Nat.lt_of_lt_of_le hk hB) (fun e => by have := hrow k e.symm; omega)⟩
/-- the last page of a range set -/
theorem pc_set2 {L : List Pr} {k : Nat} {y : Pr} (hy : L[k]? = some y) (t : Int) : (pcells L).set (k * 3 + 2) (.int .i64 t) = pcells (L.set k ⟨y.l, y.f, t⟩) := by
  obtain ⟨hk, e⟩ := List.getElem?_eq_some_iff.1 hy
  rw [← pcells_set ⟨y.l, y.f, t⟩ hk]
  obtain ⟨e0, e1, _⟩ := pcells_at hy
  dsimp only
  congr 1
  have h0 : (pcells L).set (k * 3) (.string y.l) = pcells L := by
    apply List.ext_getElem?
    intro j
    rw [List.getElem?_set]
    split
    · rename_i h; subst h; rw [e0]; rw [if_pos (List.getElem?_eq_some_iff.1 e0).1]
    · rfl
  rw [h0]
  apply List.ext_getElem?
  intro j
  rw [List.getElem?_set]
  split
  · rename_i h; subst h; rw [e1]; rw [if_pos (List.getElem?_eq_some_iff.1 e1).1]
  · rfl
set_option maxRecDepth 100000 in
set_option maxHeartbeats 4000000 in
theorem merge_i (A : Option Addr) (c N : Nat) (L : List Pr) (w : World) (h : RdP w A L) (hn : L.length = N) (h8 : N ≤ 8) (h1 : 1 ≤ N) (hok : ∀ x ∈ L, x.ok = true) :
    Calls Tryd.prog 16 #[.slice A N c] w fun e w' => ∃ v, e = .returned v ∧ w'.ownsRow w.heap.size 34 3 v (mL L).length (pcells (mL L)) ∧ Below w.heap.size w w' := by
  obtain ⟨i0, hi, hz0, hz1, hz2⟩ := info_parts infoPr
  obtain ⟨g0, o0, rfl, hg0, hsrc⟩ := rdp_cells h (by omega)
  have HN := Lib.hid hn
  have HK := Lib.hid hok
  have hmk : (Instr.makeSlice 24 (.int .i64 N) (.int .i64 N)).run Tryd.prog w = .ok (.slice (some ⟨w.heap.size, 0, none⟩) N N) (w.alloc (.cells (madeCells #[.string ByteArray.empty, .int .i64 0, .int .i64 0] (N * 3)) 34)) := by
    have h := run_make (P := Tryd.prog) w 24 34 i0 (.agg #[.string ByteArray.empty, .int .i64 0, .int .i64 0]) Tryd.underlying24 hi hz0 .i64 .i64 (N : Int) (N : Int) (by omega) (Int.le_refl _) (by rw [hz2]; omega) (by omega)
    rw [Int.toNat_natCast] at h
    simpa [hz1, Value.cells] using h
  have hheap : (w.alloc (.cells (madeCells #[.string ByteArray.empty, .int .i64 0, .int .i64 0] (N * 3)) 34)).heap[w.heap.size]? = some (.cells (madeCells #[.string ByteArray.empty, .int .i64 0, .int .i64 0] (N * 3)) 34 (0, 0)) := heap_alloc_new w _
  have hb0 : Below w.heap.size w (w.alloc (.cells (madeCells #[.string ByteArray.empty, .int .i64 0, .int .i64 0] (N * 3)) 34)) := (Below.refl _ w).alloc (Nat.le_refl _) _
  have hsz0 : (madeCells #[.string ByteArray.empty, .int .i64 0, .int .i64 0] (N * 3)).size = N * 3 := size_madeCells _ _
  generalize w.alloc (.cells (madeCells #[.string ByteArray.empty, .int .i64 0, .int .i64 0] (N * 3)) 34) = w1 at *
  generalize madeCells #[.string ByteArray.empty, .int .i64 0, .int .i64 0] (N * 3) = Z at *
  obtain ⟨w2, hw2⟩ : ∃ w2, w1.setRow w.heap.size (pcells L ++ Z.toList.drop (pcells L).length).toArray = w2 := ⟨_, rfl⟩
  have hpl : (pcells L).length = N * 3 := by rw [pcells_len, hn]
  have hdr : Z.toList.drop (pcells L).length = [] := List.drop_eq_nil_of_le (by rw [hpl, Array.length_toList, hsz0]; exact Nat.le_refl _)
  have hb2 : Below w.heap.size w w2 := by rw [← hw2]; exact below_setRow hb0 (Nat.le_refl _) _
  have ho2 : w2.ownsRow w.heap.size 34 3 (.slice (some ⟨w.heap.size, 0, none⟩) N N) N (pcells L) :=
    ⟨hpl, .inr ⟨w.heap.size, N, (pcells L ++ Z.toList.drop (pcells L).length).toArray, rfl, Nat.le_refl _, by rw [← hw2]; exact setRow_heap w1 _ _ _ _ _ hheap, Nat.le_refl _, by unfold maxLen; omega, by rw [hdr, List.append_nil, List.size_toArray, hpl], by rw [hdr, List.append_nil]; simp [← hpl]⟩⟩
  have HW2 := Lib.hid hw2
  have HH := Lib.hid hheap
  have HSrc : Hid (∀ j v, (pcells L)[j]? = some v → w1.cell? ((⟨g0, o0, none⟩ : Addr).add j) = some v) := Lib.hid (fun j v hv => by
    rw [Go.WideShapes.add_plain]
    exact (hb0.cell (p := ⟨g0, o0 + j, none⟩) hg0).trans (hsrc j v hv))
  have HPl := Lib.hid hpl
  have HZs := Lib.hid hsz0
  have HO2 := Lib.hid ho2
  have HB2 := Lib.hid hb2
  clear h hn hok hg0 hsrc hheap hb0 hsz0 hw2 hpl hdr ho2 hb2
  go_enter Tryd.func16, Tryd.ntmps16
  go_wp2_with fail
  refine wp_scope_straight ?_
  go_upto_region 2 with fail
  clear hmk
  have hcp : (Builtin.copy_ #[24, 24] 3 #[.slice (some ⟨w.heap.size, 0, none⟩) N N, .slice (some ⟨g0, o0, none⟩) N c]).run Tryd.prog w1 = .ok (.int .i64 N) w2 := by
    rw [← HW2.out]
    exact run_copy_k w1 24 24 3 34 w.heap.size N ⟨g0, o0, none⟩ N c 3 Z 34 (pcells L) Tryd.underlying24 szPr HH.out HPl.out HSrc.out (by rw [HPl.out, HZs.out]; exact Nat.le_refl _) (pc_one L)
  go_wp2_with fail
  clear hcp
  refine (sort_i _ _ N L w2 HO2.out HK.out h8).mono ?_
  rintro e w3 ⟨rfl, S, hp, hs, o3, g3⟩
  have HS : Hid (Sorted S ∧ ∀ x ∈ S, x.ok = true) := Lib.hid ⟨hs, fun x hx => HK.out x (hp.mem_iff.1 hx)⟩
  have HM : Hid (merge S = mL L) := Lib.hid (merge_is HK.out hp hs)
  have hSn : Hid (S.length = N) := Lib.hid (by rw [← HN.out]; exact hp.length_eq)
  have HO3 := Lib.hid o3
  have HB3 : Hid (Below w.heap.size w w3) := Lib.hid (below_grown HB2.out g3 HB2.out.size (fun k hk => by cases hk; exact Nat.le_refl _))
  have hlt3 : w.heap.size < w3.heap.size := by have := (o3.lt w.heap.size rfl).2; exact this
  have HB4 := Lib.hid (HB3.out.alloc HB3.out.size (.cells #[] 34))
  have HO4 := Lib.hid (own_kept o3 (box_below w3 (.cells #[] 34)))
  have HO5 : Hid ((w3.alloc (.cells #[] 34)).ownsRow w3.heap.size 34 3 (.slice (some ⟨w3.heap.size, 0, none⟩) 0 0) 0 (pcells [])) := Lib.hid (World.ownsRow_lit (base := w3.heap.size) (e := 34) (size := 3) w3 #[] 0 (Nat.le_refl _) (by decide) (by simp))
  clear o3 g3 hp hs HO3 HB3 HW2 HH HSrc HPl HZs HO2 HB2
  go_wp2_with fail
  refine wp_label ?_
  go_wp2_with fail
  go_loopw [4, 20] (fun v i wr => ∃ (k : Nat), k ≤ N ∧ i = .int .i64 k ∧ Hid (wr.ownsRow w3.heap.size 34 3 v (merge (S.take k)).length (pcells (merge (S.take k)))) ∧ Hid (wr.ownsRow w.heap.size 34 3 (.slice (some ⟨w.heap.size, 0, none⟩) N N) N (pcells S)) ∧ Below w.heap.size w wr ∧ w3.heap.size ≤ wr.heap.size) (fun _ i _ => N - (intOf i).toNat)
  case atStart => exact ⟨0, Nat.zero_le _, rfl, HO5, HO4, HB4.out, by simp⟩
  case round =>
    obtain ⟨k, hk, rfl, HO, HP, hb, hsz⟩ := hrel
    rename World => wo
    by_cases hlt : k < N
    · have hkx : k < S.length := by rw [hSn.out]; exact hlt
      have hx? := List.getElem?_eq_getElem hkx
      obtain ⟨g, o, he, hg, c0, c1, c2⟩ := (own_rd HP.out) k S[k] hx?
      cases he
      have HI := Lib.hid (inv_take HS.out.1 HS.out.2 hx?)
      have HMg := Lib.hid (merge_take hx?)
      have HXo := Lib.hid (HS.out.2 _ (List.getElem_mem hkx))
      have hM8 := merge_len k HS.out.1 HS.out.2
      clear hx?
      generalize merge (S.take k) = M at *
      generalize S[k] = x at *
      rw [Nat.zero_add] at c0 c1 c2
      obtain ⟨A2, c2', rfl, _, RM, hc2⟩ := own_rdp HO.out
      have HRM := Lib.hid RM
      have HB6 := Lib.hid (box_below wo (.cells #[.string x.l, .int .i64 x.f, .int .i64 x.t] 34))
      have D6 := Lib.hid (P3.new wo x.l x.f x.t 34)
      clear RM
      go_upto_region 8 with fail
      generalize hw6 : wo.alloc (.cells #[.string x.l, .int .i64 x.f, .int .i64 x.t] 34) = w6 at HB6 D6 ⊢
      clear hw6 c0 c1 c2
      go_wp2_with fail
      go_loopw [26] (fun i wq => ∃ (j : Nat), j ≤ M.length ∧ i = .int .i64 j ∧ Hid (∀ (q : Nat) (y : Pr), q < j → M[q]? = some y → cont y x = false) ∧ Below w6.heap.size w6 wq) (fun i _ => M.length - (intOf i).toNat)
      case atStart => exact ⟨0, Nat.zero_le _, rfl, Lib.hid (fun q y h => absurd h (Nat.not_lt_zero _)), Below.refl _ _⟩
      case round =>
        obtain ⟨j, hj, rfl, HNc, hbq⟩ := hrel
        have hs6 := HB6.out.size
        have K6 := HB6.out.trans (hbq.mono hs6)
        have D7 := Lib.hid (D6.out.below hbq)
        by_cases hjl : j < M.length
        · have hy? := List.getElem?_eq_getElem hjl
          obtain ⟨g2, o2, rfl, hg2, d0, d1, d2⟩ := (HRM.out.below K6) j M[j] hy?
          obtain rfl : o2 = 0 := by
            rcases HO.out.2 with ⟨hv, _⟩ | ⟨g', cap, cur, hv, _⟩
            · cases hv
            · cases hv; rfl
          have HYo := Lib.hid (HI.out.ok _ (List.getElem_mem hjl))
          have HY? := Lib.hid hy?
          clear hy?
          generalize M[j] = y at *
          rw [Nat.zero_add] at d0 d1 d2
          have HB8 := Lib.hid (box_below wr (.cells #[.string y.l, .int .i64 y.f, .int .i64 y.t] 34))
          have D8 := Lib.hid (P3.new wr y.l y.f y.t 34)
          have D9 := Lib.hid (D7.out.below HB8.out)
          go_upto_region 11 with fail
          generalize hw8 : wr.alloc (.cells #[.string y.l, .int .i64 y.f, .int .i64 y.t] 34) = w8 at HB8 D8 D9 ⊢
          clear hw8 d0 d1 d2
          have hs8 := HB8.out.size
          have hcy : ∃ r, cont y x = r := ⟨_, rfl⟩
          obtain ⟨r, hr⟩ := hcy
          have HR := Lib.hid hr
          clear hr
          obtain ⟨hl8, e0, e1, e2⟩ := D8.out
          obtain ⟨hl9, f0, f1, f2⟩ := D9.out
          cases r with
          | true =>
            go_wp2_with fail
            refine (cont_i y x true _ HYo.out HR.out).mono ?_
            rintro e w10 ⟨rfl, b10⟩
            have K10 := K6.trans ((HB8.out.trans (b10.mono hs8)).mono K6.size)
            have D11 := Lib.hid (D8.out.below b10)
            have D12 := Lib.hid (D9.out.below b10)
            have ho10 := own_kept HO.out K10
            have hp10 := own_kept HP.out K10
            have hfr := World.ownsRow.frozenAt ho10 (j * 3 + 2)
            obtain ⟨u0, v0⟩ : ∃ u, w10.cell? ⟨g2, j * 3 + 2, none⟩ = some u := by rw [World.ownsRow.cellAt ho10 (j * 3 + 2) (by omega)]; exact ⟨_, List.getElem?_eq_getElem (by rw [pcells_len]; omega)⟩
            obtain ⟨hl11, p0, p1, p2⟩ := D11.out
            obtain ⟨hl12, q0, q1, q2⟩ := D12.out
            have HOs := Lib.hid (ho10.stored (j * 3 + 2) (.int .i64 (max y.t x.t)))
            have hg2b : w3.heap.size ≤ g2 := (HO.out.lt g2 rfl).1
            have HPs := Lib.hid (own_far hp10 HOs.out.2 (fun e => by have h9 : w.heap.size = g2 := Option.some.inj e; omega))
            have HMt := Lib.hid (mg_at HI.out HXo.out HY?.out HR.out)
            have HKb := Lib.hid (hb.trans (K10.mono hb.size))
            have hs10 : w3.heap.size ≤ w10.heap.size := Nat.le_trans hsz K10.size
            clear e0 e1 e2 f0 f1 f2 hl8 hl9 ho10 hp10 b10 D11 D12
            go_wp2_with fail
            go_roundw
            case rel =>
              have hlen : (merge (S.take (k + 1))).length = M.length := by rw [HMg.out, HMt.out.2, List.length_set]
              refine ⟨k + 1, by omega, by go_num, Lib.hid ?_, Lib.hid HPs.out, ?_, by simpa [World.setCell] using hs10⟩
              · rw [hlen, HMg.out, HMt.out.2, ← pc_set2 HY?.out]
                exact HOs.out.1
              · exact HKb.out.setCell (p := ⟨g2, j * 3 + 2, none⟩) (by show w.heap.size ≤ g2; omega) _
            case measure => simp [intOf]; omega
          | false =>
            go_wp2_with fail
            refine (cont_i y x false _ HYo.out HR.out).mono ?_
            rintro e w10 ⟨rfl, b10⟩
            have hbn := hbq.trans ((HB8.out.trans (b10.mono hs8)).mono hbq.size)
            clear e0 e1 e2 f0 f1 f2 hl8 hl9 b10
            go_wp2_with fail
            go_roundw
            case rel =>
              refine ⟨j + 1, by omega, by go_num, Lib.hid (fun q z hq hz => ?_), hbn⟩
              rcases Nat.lt_or_ge q j with h | h
              · exact HNc.out q z h hz
              · obtain rfl : q = j := by omega
                rw [HY?.out] at hz
                cases hz
                exact HR.out
            case measure => simp [intOf]; omega
        · have HMa := Lib.hid (mg_all (M := M) (x := x) (fun q y hq => HNc.out q y (by have := (List.getElem?_eq_some_iff.1 hq).1; omega) hq))
          have ho7 := own_kept HO.out K6
          have hp7 := own_kept HP.out K6
          have HKb := Lib.hid (hb.trans (K6.mono hb.size))
          have hs7 : w3.heap.size ≤ wr.heap.size := Nat.le_trans hsz K6.size
          obtain ⟨hl7, f0, f1, f2⟩ := D7.out
          go_wp2_with (first
            | (at_builtin; refine wpList_append_own _ rfl _ _ 24 rfl w3.heap.size 34 i0 (.agg #[.string ByteArray.empty, .int .i64 0, .int .i64 0]) 3 32 Tryd.underlying24 hi hz0 hz1 hz2 rfl (by decide) _ _ _ rfl (ho7.alloc _) ⟨wr.heap.size, 0, none⟩ 1 1 [.string x.l, .int .i64 x.f, .int .i64 x.t] rfl rfl (cell_three_new _ _ _ _ _) (by simp [Value.oneCell']) (by unfold maxLen; omega) (by omega) (by simp; omega) ?_; intro v' w9 hown' hgrow _))
          go_roundw
          case rel =>
            have hlen : (merge (S.take (k + 1))).length = M.length + 1 := by rw [HMg.out, HMa.out]; simp
            refine ⟨k + 1, by omega, by go_num, Lib.hid ?_, Lib.hid ?_, ?_, ?_⟩
            · rw [hlen, HMg.out, HMa.out, pcells_app]
              exact hown'
            · refine own_far (own_kept hp7 (box_below wr _)) hgrow (fun e => ?_)
              have := ho7.lt w.heap.size e.symm
              omega
            · exact (HKb.out.alloc HKb.out.size _).grown hgrow (by have := HKb.out.size; simp; omega) (fun g hg => by have := (ho7.lt g hg).1; omega)
            · have := hgrow.size
              simp at this
              omega
          case measure => simp [intOf]; omega
    · obtain rfl : k = N := by omega
      have HE : Hid (merge (S.take k) = mL L) := Lib.hid (by rw [List.take_of_length_le (by rw [hSn.out]; omega), HM.out])
      have hown := HO.out
      rw [HE.out] at hown
      go_wp2_with fail
      rw [Exit.noGoto_ret]
      go_ret
      exact ⟨_, rfl, PgM.row_base' (by omega) hown, hb⟩
end Go.Proofs.YtocgpoafhocbbaaDoor.PgM
