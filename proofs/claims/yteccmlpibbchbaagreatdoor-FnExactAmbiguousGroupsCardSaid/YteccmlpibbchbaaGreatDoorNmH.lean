/-
  Contracts of the laws' helpers over lists of names: szNameS, toNameS, eqNameS.
-/
import Derived.Test.YteccmlpibbchbaaGreatDoorNfC
import Derived.Test.YteccmlpibbchbaaGreatDoorNm
import Derived.Deep.RegionHeld3
namespace Go.Proofs.YteccmlpibbchbaaGreatDoor.Nms
open Go.RowKit Pl Strs Help Name Stands SplitPl NmPl Word Part NGood

set_option maxHeartbeats 1000000 in
theorem szNameS_any (A : Option Addr) (c N : Nat) (L : List Nm) (left : Nat) (w : World) (h : RdN0 w A L) (hn : L.length = N) (hm : N ≤ maxLen) (hx : ∀ x ∈ L, x.Lim) (hl : left ≤ 1048576) :
    Calls Tryz.prog 62 #[.slice A N c, .int .i64 left] w fun e w' => e = .returned (.int .i64 (szNs left L)) ∧ Below w.heap.size w w' := by
  have H := Lib.hid h
  have HN := Lib.hid hn
  have HX := Lib.hid hx
  have HZ := Lib.hid (show szNs left L = if L.length + szL L ≤ left then (left : Int) - L.length - szL L else -1 from rfl)
  rw [hn] at HZ
  unfold maxLen at hm
  clear h hn hx
  by_cases h0 : N ≤ left
  · go_enter Tryz.func62, Tryz.ntmps62
    go_wp2_with fail
    go_loopw [1, 5] (fun l i wr => ∃ k : Nat, k ≤ N ∧ i = .int .i64 k ∧ (∃ t : Nat, t + N + szL (L.take k) = left ∧ l = .int .i64 t) ∧ Below w.heap.size w wr) (fun _ i _ => N - (intOf i).toNat)
    case atStart => exact ⟨0, Nat.zero_le _, rfl, ⟨left - N, by simp [szL]; omega, by congr 1; omega⟩, Below.refl _ _⟩
    case round =>
      obtain ⟨k, hk, rfl, ⟨t, ht, rfl⟩, hb⟩ := hrel
      by_cases hlt : k < N
      · have hkx : k < L.length := by rw [HN.out]; exact hlt
        have hx? := List.getElem?_eq_getElem hkx
        obtain ⟨hr, g, o, rfl, hg, c0, c1, c2, c3⟩ := (H.out.below hb) k L[k] hx?
        obtain ⟨l1, l2, l3, l4, l5⟩ := HX.out _ (List.getElem_mem hkx)
        have HT := Lib.hid (szL_take hx?)
        have HLe := Lib.hid (szL_le L (k + 1))
        clear hx?
        generalize L[k] = x at *
        have HS := Lib.hid (szName_any x.A x.c x.n x.xs x.p x.f x.s t wr hr.1 (by rw [hr.2.2]; exact hr.2.1) hr.2.2 l1 l2 l3 l4 l5 (by omega))
        clear l1 l2 l3 l4 l5 hr
        have HSz : Hid (szN t x.xs x.p x.f x.s = if x.sz ≤ t then (t : Int) - x.sz else -1) := Lib.hid (by
          unfold szN Nm.sz
          by_cases hh : x.xs.length + lens x.xs + x.p.size + x.f.size + x.s.size ≤ t
          · rw [if_pos hh, if_pos hh]; omega
          · rw [if_neg hh, if_neg hh])
        by_cases h1 : x.sz ≤ t
        · have e1 := HSz.out
          rw [if_pos h1] at e1
          obtain ⟨t', ht'⟩ : ∃ t' : Nat, t' + x.sz = t := ⟨t - x.sz, by omega⟩
          have e2 : (t : Int) - x.sz = (t' : Int) := by omega
          rw [e2] at e1
          rw [e1] at HS
          clear e1 e2 HSz h1
          have HT' := Lib.hid ht'
          have htl : t' ≤ 1048576 := by omega
          clear ht'
          have HTt := Lib.hid ht
          clear ht
          go_wp2_with fail
          refine HS.out.mono ?_
          rintro e w1 ⟨rfl, b1⟩
          have hb1 := hb.trans (b1.mono hb.size)
          clear b1
          go_wp2_with fail
          go_roundw
          case rel =>
            have := HT.out
            have := HTt.out
            have := HT'.out
            exact ⟨k + 1, by omega, by go_num, ⟨t', by omega, rfl⟩, hb1⟩
          case measure => simp [intOf]; omega
        · have e1 := HSz.out
          rw [if_neg h1] at e1
          rw [e1] at HS
          have HF : Hid (szNs left L = -1) := Lib.hid (by rw [HZ.out, if_neg]; have := HT.out; have := HLe.out; omega)
          clear e1 HSz h1 ht
          go_wp2_with fail
          refine HS.out.mono ?_
          rintro e w1 ⟨rfl, b1⟩
          have hb1 := hb.trans (b1.mono hb.size)
          clear b1
          go_wp2_with fail
          go_ret
          exact ⟨by rw [HF.out]; rfl, hb1⟩
      · have hkN : k = N := by omega
        have HF : Hid (szNs left L = (t : Int)) := Lib.hid (by
          have e : L.take k = L := List.take_of_length_le (by rw [HN.out]; omega)
          rw [e] at ht
          rw [HZ.out, if_pos (by omega)]
          omega)
        clear ht
        go_wp2_with fail
        go_ret
        exact ⟨by rw [HF.out]; rfl, hb⟩
  · have HF : Hid (szNs left L = -1) := Lib.hid (by rw [HZ.out, if_neg (by omega)])
    go_enter Tryz.func62, Tryz.ntmps62
    go_wp2_with fail
    go_ret
    exact ⟨by rw [HF.out]; rfl, Below.refl _ _⟩

theorem infoNm : (Tryz.prog.info? 111).map (fun i => (i.zero, i.size, i.bytes)) = some (some (.agg #[.slice none 0 0, .string ByteArray.empty, .string ByteArray.empty, .string ByteArray.empty]), 4, 72) := by kernel_rfl
/-- the four cells of each name -/
def ncells (L : List Nm) : List Value := L.flatMap fun x => [.slice x.A x.n x.c, .string x.p, .string x.f, .string x.s]
theorem ncells_len (L : List Nm) : (ncells L).length = L.length * 4 := by
  induction L with
  | nil => rfl
  | cons x r ih =>
    have e : ncells (x :: r) = [.slice x.A x.n x.c, .string x.p, .string x.f, .string x.s] ++ ncells r := rfl
    rw [e, List.length_append, ih, List.length_cons]
    simp
    omega
theorem ncells_at {L : List Nm} {j : Nat} {x : Nm} (h : L[j]? = some x) : (ncells L)[j * 4]? = some (.slice x.A x.n x.c) ∧ (ncells L)[j * 4 + 1]? = some (.string x.p) ∧ (ncells L)[j * 4 + 2]? = some (.string x.f) ∧ (ncells L)[j * 4 + 3]? = some (.string x.s) := by
  induction L generalizing j with
  | nil => simp at h
  | cons y r ih =>
    have e : ncells (y :: r) = [.slice y.A y.n y.c, .string y.p, .string y.f, .string y.s] ++ ncells r := rfl
    rw [e]
    cases j with
    | zero =>
      simp at h
      subst h
      exact ⟨rfl, rfl, rfl, rfl⟩
    | succ j =>
      obtain ⟨h0, h1, h2, h3⟩ := ih (j := j) (by simpa using h)
      have e0 : (j + 1) * 4 = j * 4 + 4 := by omega
      refine ⟨?_, ?_, ?_, ?_⟩
      · rw [e0, List.getElem?_append_right (by simp)]; simpa using h0
      · rw [e0, List.getElem?_append_right (by simp)]; simpa using h1
      · rw [e0, List.getElem?_append_right (by simp)]; simpa using h2
      · rw [e0, List.getElem?_append_right (by simp)]; simpa using h3
theorem ncells_snoc (M : List Nm) (y : Nm) : ncells (M ++ [y]) = ncells M ++ [.slice y.A y.n y.c, .string y.p, .string y.f, .string y.s] := by
  unfold ncells
  rw [List.flatMap_append]
  simp
theorem set4_row {M : List Nm} {k : Nat} {Z : List Value} (y : Nm) (hM : M.length = k) (hz : (k + 1) * 4 ≤ Z.length) :
    ((((ncells M ++ Z.drop (k * 4)).set (k * 4) (.slice y.A y.n y.c)).set (k * 4 + 1) (.string y.p)).set (k * 4 + 2) (.string y.f)).set (k * 4 + 3) (.string y.s) = ncells (M ++ [y]) ++ Z.drop ((k + 1) * 4) := by
  have hl : (ncells M).length = k * 4 := by rw [ncells_len, hM]
  have hd : Z.drop (k * 4) = Z[k * 4] :: Z[k * 4 + 1] :: Z[k * 4 + 2] :: Z[k * 4 + 3] :: Z.drop ((k + 1) * 4) := by
    rw [List.drop_eq_getElem_cons (by omega), List.drop_eq_getElem_cons (by omega), List.drop_eq_getElem_cons (by omega), List.drop_eq_getElem_cons (by omega), show (k + 1) * 4 = k * 4 + 1 + 1 + 1 + 1 by omega]
  rw [hd, ncells_snoc]
  rw [List.set_append_right _ _ (by omega), List.set_append_right _ _ (by omega), List.set_append_right _ _ (by omega), List.set_append_right _ _ (by omega), hl]
  rw [show k * 4 - k * 4 = 0 by omega, show k * 4 + 1 - k * 4 = 1 by omega, show k * 4 + 2 - k * 4 = 2 by omega, show k * 4 + 3 - k * 4 = 3 by omega]
  simp
theorem own_kept {w w' : World} {base : Nat} {e : TypeId} {size n : Nat} {v : Value} {xs : List Value} (h : w.ownsRow base e size v n xs) (hb : Below w.heap.size w w') : w'.ownsRow base e size v n xs :=
  h.kept (row := none) ⟨hb.os, hb.tape, hb.output, hb.size, fun k hk _ => hb.block k hk⟩ (by
    cases hv : v.ownBlock with
    | none => exact .inl rfl
    | some g => exact .inr (fun e => by cases e))
/-- four stores into the row -/
theorem own_set4 {w : World} {base : Nat} {e : TypeId} {g n cap : Nat} {M : List Nm} {k : Nat} {Z : List Value} (h : w.ownsRow base e 4 (.slice (some ⟨g, 0, none⟩) n cap) n (ncells M ++ Z.drop (k * 4))) (y : Nm) (hM : M.length = k) (hz : (k + 1) * 4 ≤ Z.length) :
    ((((w.setCell ⟨g, k * 4, none⟩ (.slice y.A y.n y.c)).setCell ⟨g, k * 4 + 1, none⟩ (.string y.p)).setCell ⟨g, k * 4 + 2, none⟩ (.string y.f)).setCell ⟨g, k * 4 + 3, none⟩ (.string y.s)).ownsRow base e 4 (.slice (some ⟨g, 0, none⟩) n cap) n (ncells (M ++ [y]) ++ Z.drop ((k + 1) * 4)) := by
  have h1 := ((((h.stored (k * 4) (.slice y.A y.n y.c)).1.stored (k * 4 + 1) (.string y.p)).1.stored (k * 4 + 2) (.string y.f)).1.stored (k * 4 + 3) (.string y.s)).1
  rw [set4_row y hM hz] at h1
  exact h1
/-- a name's words lie behind block b -/
def Nm.Far (x : Nm) (w : World) (b : Nat) : Prop := Rdn w x.A x.n x.xs ∧ x.n ≤ x.c ∧ (0 < x.n → ∀ a, x.A = some a → b < a.block ∧ NF w a.block)
theorem Nm.Far.set {x : Nm} {w : World} {b : Nat} (h : x.Far w b) (j : Nat) (v : Value) : x.Far (w.setCell ⟨b, j, none⟩ v) b := by
  refine ⟨⟨h.1.1.of fun hp a ha => ?_, fun hp a ha => by simpa [World.setCell] using h.1.2.1 hp a ha, h.1.2.2⟩, h.2.1, fun hp a ha => ⟨(h.2.2 hp a ha).1, (h.2.2 hp a ha).2.set _ _⟩⟩
  have hlt := (h.2.2 (by rw [← h.1.2.2]; exact hp) a ha).1
  exact Below.heap_setCell _ _ _ a.block (fun e => by have : a.block = b := e; omega)
theorem Nm.Far.below {x : Nm} {w w' : World} {b : Nat} (h : x.Far w b) (hb : Below w.heap.size w w') : x.Far w' b := ⟨h.1.below hb, h.2.1, fun hp a ha => ⟨(h.2.2 hp a ha).1, (h.2.2 hp a ha).2.below hb⟩⟩

set_option maxHeartbeats 2000000 in
theorem toNameS_far (A : Option Addr) (c N : Nat) (L : List Nm) (w : World) (h : RdN0 w A L) (hn : L.length = N) (hm : N ≤ 1048576) (hl : ∀ x ∈ L, x.n ≤ 1048576) :
    Calls Tryz.prog 70 #[.slice A N c] w fun e w' => ∃ M, e = .returned (.slice (some ⟨w.heap.size, 0, none⟩) N N) ∧ RdN0 w' (some ⟨w.heap.size, 0, none⟩) M ∧ M.map Nm.key = L.map Nm.key ∧ (∀ x ∈ M, x.n ≤ 1048576) ∧ (∀ x ∈ M, x.Far w' w.heap.size) ∧ NF w' w.heap.size ∧ Below w.heap.size w w' := by
  obtain ⟨i0, hi, hz0, hz1, hz2⟩ := info_parts infoNm
  have H := Lib.hid h
  have HN := Lib.hid hn
  have HL := Lib.hid hl
  clear h hn hl
  have hmk : (Instr.makeSlice 54 (.int .i64 N) (.int .i64 N)).run Tryz.prog w = .ok (.slice (some ⟨w.heap.size, 0, none⟩) N N) (w.alloc (.cells (madeCells #[.slice none 0 0, .string ByteArray.empty, .string ByteArray.empty, .string ByteArray.empty] (N * 4)) 111)) := by
    have h := run_make (P := Tryz.prog) w 54 111 i0 (.agg #[.slice none 0 0, .string ByteArray.empty, .string ByteArray.empty, .string ByteArray.empty]) Tryz.underlying54 hi hz0 .i64 .i64 (N : Int) (N : Int) (by omega) (Int.le_refl _) (by rw [hz2]; omega) (by omega)
    rw [Int.toNat_natCast] at h
    simpa [hz1, Value.cells] using h
  have hown0 := World.ownsRow_lit (base := w.heap.size) (e := 111) (size := 4) w (madeCells #[.slice none 0 0, .string ByteArray.empty, .string ByteArray.empty, .string ByteArray.empty] (N * 4)) N (Nat.le_refl _) (by unfold maxLen; omega) (size_madeCells _ _)
  have hb0 : Below w.heap.size w (w.alloc (.cells (madeCells #[.slice none 0 0, .string ByteArray.empty, .string ByteArray.empty, .string ByteArray.empty] (N * 4)) 111)) := (Below.refl _ w).alloc (Nat.le_refl _) _
  have hlt0 : w.heap.size < (w.alloc (.cells (madeCells #[.slice none 0 0, .string ByteArray.empty, .string ByteArray.empty, .string ByteArray.empty] (N * 4)) 111)).heap.size := by simp
  generalize w.alloc (.cells (madeCells #[.slice none 0 0, .string ByteArray.empty, .string ByteArray.empty, .string ByteArray.empty] (N * 4)) 111) = w1 at *
  generalize hZ : (madeCells #[.slice none 0 0, .string ByteArray.empty, .string ByteArray.empty, .string ByteArray.empty] (N * 4)).toList = Z at *
  have HZl : Hid (Z.length = N * 4) := Lib.hid (by rw [← hZ, Array.length_toList, size_madeCells])
  clear hZ
  have HO := Lib.hid hown0
  clear hown0
  go_enter Tryz.func70, Tryz.ntmps70
  go_wp2_with fail
  clear hmk
  go_loopw [4] (fun i wr => ∃ (k : Nat) (M : List Nm), k ≤ N ∧ i = .int .i64 k ∧ Hid (M.length = k ∧ M.map Nm.key = (L.take k).map Nm.key ∧ (∀ x ∈ M, x.Far wr w.heap.size ∧ x.n ≤ 1048576)) ∧ Hid (wr.ownsRow w.heap.size 111 4 (.slice (some ⟨w.heap.size, 0, none⟩) N N) N (ncells M ++ Z.drop (k * 4))) ∧ Below w.heap.size w wr ∧ w.heap.size < wr.heap.size) (fun i _ => N - (intOf i).toNat)
  case atStart => exact ⟨0, [], Nat.zero_le _, rfl, Lib.hid ⟨rfl, rfl, fun x hx => (by cases hx)⟩, Lib.hid (by simpa [ncells] using HO.out), hb0, hlt0⟩
  case round =>
    obtain ⟨k, M, hk, rfl, HM, ho, hb, hlt1⟩ := hrel
    by_cases hlt : k < N
    · have hkx : k < L.length := by rw [HN.out]; exact hlt
      have hx? := List.getElem?_eq_getElem hkx
      obtain ⟨hr, g, o, rfl, hg, c0, c1, c2, c3⟩ := (H.out.below hb) k L[k] hx?
      have hln := HL.out _ (List.getElem_mem hkx)
      have HX := Lib.hid hx?
      clear hx?
      generalize L[k] = x at *
      obtain ⟨A1, n1, c1', xs, p, f, s⟩ := x
      dsimp only at hr c0 c1 c2 c3 hln
      have HT := Lib.hid (toName_any A1 c1' n1 xs p f s wr hr.1 hr.2.1 hr.2.2 hln)
      have HRn := Lib.hid hr.2.2
      clear hr
      go_wp2_with fail
      refine HT.out.mono ?_
      rintro e w2 ⟨A2, c2', rfl, o2, b2⟩
      have ho2 := own_kept ho.out b2
      have hzl := HZl.out
      have hMl := HM.out.1
      have hall : (ncells M ++ Z.drop (k * 4)).length = N * 4 := by rw [List.length_append, ncells_len, List.length_drop]; omega
      have f0 := World.ownsRow.frozenAt ho2 (k * 4)
      have f1 := World.ownsRow.frozenAt ho2 (k * 4 + 1)
      have f2 := World.ownsRow.frozenAt ho2 (k * 4 + 2)
      have f3 := World.ownsRow.frozenAt ho2 (k * 4 + 3)
      obtain ⟨u0, v0⟩ : ∃ u, w2.cell? ⟨w.heap.size, k * 4, none⟩ = some u := by rw [World.ownsRow.cellAt ho2 (k * 4) (by omega)]; exact ⟨_, List.getElem?_eq_getElem (by omega)⟩
      obtain ⟨u1, v1⟩ : ∃ u, w2.cell? ⟨w.heap.size, k * 4 + 1, none⟩ = some u := by rw [World.ownsRow.cellAt ho2 (k * 4 + 1) (by omega)]; exact ⟨_, List.getElem?_eq_getElem (by omega)⟩
      obtain ⟨u2, v2⟩ : ∃ u, w2.cell? ⟨w.heap.size, k * 4 + 2, none⟩ = some u := by rw [World.ownsRow.cellAt ho2 (k * 4 + 2) (by omega)]; exact ⟨_, List.getElem?_eq_getElem (by omega)⟩
      obtain ⟨u3, v3⟩ : ∃ u, w2.cell? ⟨w.heap.size, k * 4 + 3, none⟩ = some u := by rw [World.ownsRow.cellAt ho2 (k * 4 + 3) (by omega)]; exact ⟨_, List.getElem?_eq_getElem (by omega)⟩
      have HO2 := Lib.hid (own_set4 ho2 ⟨A2, n1, c2', xs, p, f, s⟩ hMl (by omega))
      have HY : Hid ((⟨A2, n1, c2', xs, p, f, s⟩ : Nm).Far w2 w.heap.size) := Lib.hid ⟨Rdn.own o2, own_cap o2, fun hp a ha => by
        cases ha
        have := (o2.lt a.block rfl).1
        exact ⟨by omega, NF.own o2⟩⟩
      have HM2 : Hid (∀ x ∈ M, x.Far w2 w.heap.size ∧ x.n ≤ 1048576) := Lib.hid (fun x hx => ⟨(HM.out.2.2 x hx).1.below b2, (HM.out.2.2 x hx).2⟩)
      have HK : Hid ((M ++ [(⟨A2, n1, c2', xs, p, f, s⟩ : Nm)]).map Nm.key = (L.take (k + 1)).map Nm.key) := Lib.hid (by
        rw [List.take_add_one, HX.out, List.map_append, List.map_append, HM.out.2.1]
        rfl)
      have hb2 := hb.trans (b2.mono hb.size)
      have hsz2 : w.heap.size < w2.heap.size := Nat.lt_of_lt_of_le hlt1 b2.size
      clear ho ho2 o2 b2 hall hzl hb
      go_wp2_with fail
      go_roundw
      case rel =>
        refine ⟨k + 1, _, by omega, by go_num, Lib.hid ⟨by rw [List.length_append, hMl]; rfl, HK.out, ?_⟩, Lib.hid HO2.out, ?_, by simpa [World.setCell] using hsz2⟩
        · intro x hx
          rcases List.mem_append.1 hx with hx | hx
          · exact ⟨((((HM2.out x hx).1.set _ _).set _ _).set _ _).set _ _, (HM2.out x hx).2⟩
          · simp only [List.mem_singleton] at hx
            subst hx
            exact ⟨(((HY.out.set _ _).set _ _).set _ _).set _ _, hln⟩
        · exact (((hb2.setCell (p := ⟨w.heap.size, k * 4, none⟩) (Nat.le_refl _) _).setCell (p := ⟨w.heap.size, k * 4 + 1, none⟩) (Nat.le_refl _) _).setCell (p := ⟨w.heap.size, k * 4 + 2, none⟩) (Nat.le_refl _) _).setCell (p := ⟨w.heap.size, k * 4 + 3, none⟩) (Nat.le_refl _) _
      case measure => simp [intOf]; omega
    · obtain rfl : k = N := by omega
      have hMl := HM.out.1
      have HRd : Hid (RdN0 wr (some ⟨w.heap.size, 0, none⟩) M) := Lib.hid (fun j x hx => by
        have hj := (List.getElem?_eq_some_iff.1 hx).1
        have hcell : ∀ i, i < 4 → wr.cell? ⟨w.heap.size, j * 4 + i, none⟩ = (ncells M)[j * 4 + i]? := fun i hi => by
          rw [World.ownsRow.cellAt ho.out (j * 4 + i) (by omega), List.getElem?_append_left (by rw [ncells_len]; omega)]
        obtain ⟨e0, e1, e2, e3⟩ := ncells_at hx
        refine ⟨(HM.out.2.2 x (List.mem_of_getElem? hx)).1.1, w.heap.size, 0, rfl, hlt1, ?_, ?_, ?_, ?_⟩
        · rw [Nat.zero_add]; exact (hcell 0 (by decide)).trans e0
        · rw [Nat.zero_add]; exact (hcell 1 (by decide)).trans e1
        · rw [Nat.zero_add]; exact (hcell 2 (by decide)).trans e2
        · rw [Nat.zero_add]; exact (hcell 3 (by decide)).trans e3)
      have HKy : Hid (M.map Nm.key = L.map Nm.key) := Lib.hid (by rw [HM.out.2.1, List.take_of_length_le (by rw [HN.out]; omega)])
      have HFar : Hid (∀ x ∈ M, x.Far wr w.heap.size) := Lib.hid (fun x hx => (HM.out.2.2 x hx).1)
      have HMn : Hid (∀ x ∈ M, x.n ≤ 1048576) := Lib.hid (fun x hx => (HM.out.2.2 x hx).2)
      have HNF : Hid (NF wr w.heap.size) := Lib.hid (NF.own ho.out)
      go_wp2_with fail
      go_ret
      exact ⟨_, rfl, HRd.out, HKy.out, HMn.out, HFar.out, HNF.out, hb⟩
theorem toNameS_any (A : Option Addr) (c N : Nat) (L : List Nm) (w : World) (h : RdN0 w A L) (hn : L.length = N) (hm : N ≤ 1048576) (hl : ∀ x ∈ L, x.n ≤ 1048576) :
    Calls Tryz.prog 70 #[.slice A N c] w fun e w' => ∃ A' M, e = .returned (.slice A' N N) ∧ RdN0 w' A' M ∧ M.map Nm.key = L.map Nm.key ∧ (∀ x ∈ M, x.n ≤ 1048576) ∧ Below w.heap.size w w' :=
  (toNameS_far A c N L w h hn hm hl).mono fun _ _ ⟨M, h1, h2, h3, h4, _, _, h5⟩ => ⟨_, M, h1, h2, h3, h4, h5⟩
/-- a fresh list of names, behind a store into an older block -/
theorem RdN0.older {W : World} {g b i : Nat} {M : List Nm} (v : Value) (h : RdN0 W (some ⟨g, 0, none⟩) M) (hf : ∀ x ∈ M, x.Far W g) (hb : b < g) : RdN0 (W.setCell ⟨b, i, none⟩ v) (some ⟨g, 0, none⟩) M := by
  intro j x hx
  obtain ⟨_, g', o', e, hg, c0, c1, c2, c3⟩ := h j x hx
  obtain ⟨hr, -, hA⟩ := hf x (List.mem_of_getElem? hx)
  cases e
  have key : ∀ k, (W.setCell ⟨b, i, none⟩ v).cell? ⟨g, k, none⟩ = W.cell? ⟨g, k, none⟩ := fun k => World.cell?_setCell_other W _ _ _ (fun e => by cases e; exact absurd rfl (Nat.ne_of_lt hb))
  refine ⟨⟨hr.1.of fun hp a ha => ?_, fun hp a ha => by simpa [World.setCell] using hr.2.1 hp a ha, hr.2.2⟩, g, 0, rfl, by simpa [World.setCell] using hg, ?_, ?_, ?_, ?_⟩
  · have hlt := (hA (by rw [← hr.2.2]; exact hp) a ha).1
    exact Below.heap_setCell _ _ _ a.block (fun e => by have : a.block = b := e; omega)
  all_goals rw [key]; assumption
theorem far_older {W : World} {g b i : Nat} {M : List Nm} (v : Value) (hf : ∀ x ∈ M, x.Far W g) (hb : b < g) : ∀ x ∈ M, x.Far (W.setCell ⟨b, i, none⟩ v) g := by
  intro x hx
  obtain ⟨hr, hc, hA⟩ := hf x hx
  refine ⟨⟨hr.1.of fun hp a ha => ?_, fun hp a ha => by simpa [World.setCell] using hr.2.1 hp a ha, hr.2.2⟩, hc, fun hp a ha => ⟨(hA hp a ha).1, (hA hp a ha).2.set _ _⟩⟩
  have hlt := (hA (by rw [← hr.2.2]; exact hp) a ha).1
  exact Below.heap_setCell _ _ _ a.block (fun e => by have : a.block = b := e; omega)

set_option maxHeartbeats 1000000 in
/-- two lists of names that say the same -/
theorem eqNameS_same (A B : Option Addr) (c d N : Nat) (L M : List Nm) (w : World) (h : RdN0 w A L) (h' : RdN0 w B M) (hn : L.length = N) (hk : L.map Nm.key = M.map Nm.key) (hm : N ≤ 1048576) (hl : ∀ x ∈ L, x.n ≤ 1048576) :
    Calls Tryz.prog 79 #[.slice A N c, .slice B N d] w fun e w' => e = .returned (.bool true) ∧ Below w.heap.size w w' := by
  have H := Lib.hid h
  have H' := Lib.hid h'
  have HN := Lib.hid hn
  have HK := Lib.hid hk
  have HL := Lib.hid hl
  clear h h' hn hk hl
  go_enter Tryz.func79, Tryz.ntmps79
  go_wp2_with fail
  go_loopw [5] (fun i wr => ∃ k : Nat, k ≤ N ∧ i = .int .i64 k ∧ Below w.heap.size w wr) (fun i _ => N - (intOf i).toNat)
  case atStart => exact ⟨0, Nat.zero_le _, rfl, Below.refl _ _⟩
  case round =>
    obtain ⟨k, hk, rfl, hb⟩ := hrel
    by_cases hlt : k < N
    · have hkx : k < L.length := by rw [HN.out]; exact hlt
      have hky : k < M.length := by have := congrArg List.length HK.out; simp at this; omega
      have hx? := List.getElem?_eq_getElem hkx
      have hy? := List.getElem?_eq_getElem hky
      have hkey : L[k].key = M[k].key := by
        have := congrArg (fun l => l[k]?) HK.out
        simp [hkx, hky] at this
        exact this
      obtain ⟨hr, g, o, rfl, hg, c0, c1, c2, c3⟩ := (H.out.below hb) k L[k] hx?
      obtain ⟨hr', g', o', rfl, hg', d0, d1, d2, d3⟩ := (H'.out.below hb) k M[k] hy?
      have hln := HL.out _ (List.getElem_mem hkx)
      clear hx? hy?
      generalize L[k] = x at *
      generalize M[k] = y at *
      obtain ⟨A1, n1, c1', xs, p, f, s⟩ := x
      obtain ⟨A2, n2, c2', ys, p', f', s'⟩ := y
      simp only [Nm.key, Prod.mk.injEq] at hkey
      obtain ⟨rfl, rfl, rfl, rfl⟩ := hkey
      dsimp only at *
      obtain rfl : n1 = n2 := hr.2.2.symm.trans hr'.2.2
      have HR1 := Lib.hid hr
      have HR2 := Lib.hid hr'
      have HS : Hid (∀ w', Kept wr w' → ((w'.cell? ⟨g, o + k * 4, none⟩ = some (.slice A1 n1 c1') ∧ w'.cell? ⟨g, o + k * 4 + 1, none⟩ = some (.string p) ∧ w'.cell? ⟨g, o + k * 4 + 2, none⟩ = some (.string f) ∧ w'.cell? ⟨g, o + k * 4 + 3, none⟩ = some (.string s) ∧ w'.cell? ⟨g', o' + k * 4, none⟩ = some (.slice A2 n1 c2') ∧ w'.cell? ⟨g', o' + k * 4 + 1, none⟩ = some (.string p) ∧ w'.cell? ⟨g', o' + k * 4 + 2, none⟩ = some (.string f) ∧ w'.cell? ⟨g', o' + k * 4 + 3, none⟩ = some (.string s)) ∧ Kept wr w')) := Lib.hid (fun w' h => ⟨⟨(h.cell (p := ⟨g, o + k * 4, none⟩) hg).trans c0, (h.cell (p := ⟨g, o + k * 4 + 1, none⟩) hg).trans c1, (h.cell (p := ⟨g, o + k * 4 + 2, none⟩) hg).trans c2, (h.cell (p := ⟨g, o + k * 4 + 3, none⟩) hg).trans c3, (h.cell (p := ⟨g', o' + k * 4, none⟩) hg').trans d0, (h.cell (p := ⟨g', o' + k * 4 + 1, none⟩) hg').trans d1, (h.cell (p := ⟨g', o' + k * 4 + 2, none⟩) hg').trans d2, (h.cell (p := ⟨g', o' + k * 4 + 3, none⟩) hg').trans d3⟩, h⟩)
      have HK0 := Lib.hid (Kept.drew wr)
      clear hr hr' c0 c1 c2 c3 d0 d1 d2 d3
      go_wp2_with fail
      go_region_held3 (fun w' => (w'.cell? ⟨g, o + k * 4, none⟩ = some (.slice A1 n1 c1') ∧ w'.cell? ⟨g, o + k * 4 + 1, none⟩ = some (.string p) ∧ w'.cell? ⟨g, o + k * 4 + 2, none⟩ = some (.string f) ∧ w'.cell? ⟨g, o + k * 4 + 3, none⟩ = some (.string s) ∧ w'.cell? ⟨g', o' + k * 4, none⟩ = some (.slice A2 n1 c2') ∧ w'.cell? ⟨g', o' + k * 4 + 1, none⟩ = some (.string p) ∧ w'.cell? ⟨g', o' + k * 4 + 2, none⟩ = some (.string f) ∧ w'.cell? ⟨g', o' + k * 4 + 3, none⟩ = some (.string s)) ∧ Kept wr w')
        (first | exact HS.out _ HK0.out | exact HS.out _ (by assumption))
        (first
          | (go_at_call 107; refine (eqName_same A1 A2 c1' c2' n1 xs p f s _ (HR1.out.below HK0.out).1 (HR1.out.below HK0.out).2.1 (HR2.out.below HK0.out).1 (HR2.out.below HK0.out).2.1 HR1.out.2.2 (by omega)).mono ?_; rintro e w1 ⟨rfl, b1⟩; have hk1 : Kept wr w1 := Kept.next HK0.out b1))
      have hb1 := hb.trans (Below.mono hk1 hb.size)
      clear HS HK0 hk1 b1
      (try clear hHeld)
      go_wp2_with fail
      go_roundw
      case rel => exact ⟨k + 1, by omega, by go_num, hb1⟩
      case measure => simp [intOf]; omega
    · go_wp2_with fail
      go_ret
      exact ⟨rfl, hb⟩
end Go.Proofs.YteccmlpibbchbaaGreatDoor.Nms
