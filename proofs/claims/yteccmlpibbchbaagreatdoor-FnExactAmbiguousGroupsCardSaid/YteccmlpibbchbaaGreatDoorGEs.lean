/-
  Several texts of one claim in one file: Es, Es2, Es3.
-/
import Derived.Test.YteccmlpibbchbaaGreatDoorGEn
import Derived.Deep.RegionHeld3
/-
  A slice of entries: where each lies and what it reads as; contract of the laws' helper szEntryS.
-/
namespace Go.Proofs.YteccmlpibbchbaaGreatDoor.Ens
open Go.RowKit Pl Strs Help Name Stands SplitPl NmPl Word Part NGood Nms
set_option linter.unusedSimpArgs false
set_option linter.unusedVariables false

/-- the entry's cells at place j of a slice -/
def En.At (e : En) (w : World) (A : Option Addr) (j : Nat) : Prop :=
  ∃ g o, A = some ⟨g, o, none⟩ ∧ g < w.heap.size ∧ w.cell? ⟨g, o + j * 14, none⟩ = some (.string e.key) ∧ w.cell? ⟨g, o + j * 14 + 1, none⟩ = some (.int .i64 e.kind) ∧ w.cell? ⟨g, o + j * 14 + 2, none⟩ = some (.slice e.auA e.auN e.auc) ∧ w.cell? ⟨g, o + j * 14 + 3, none⟩ = some (.slice e.edA e.edN e.edc) ∧ w.cell? ⟨g, o + j * 14 + 4, none⟩ = some (.string e.ti) ∧ w.cell? ⟨g, o + j * 14 + 5, none⟩ = some (.string e.co) ∧ w.cell? ⟨g, o + j * 14 + 6, none⟩ = some (.string e.pu) ∧ w.cell? ⟨g, o + j * 14 + 7, none⟩ = some (.int .i64 e.y) ∧ w.cell? ⟨g, o + j * 14 + 8, none⟩ = some (.int .i64 e.m) ∧ w.cell? ⟨g, o + j * 14 + 9, none⟩ = some (.int .i64 e.d) ∧ w.cell? ⟨g, o + j * 14 + 10, none⟩ = some (.bool e.ci) ∧ w.cell? ⟨g, o + j * 14 + 11, none⟩ = some (.int .i64 e.vol) ∧ w.cell? ⟨g, o + j * 14 + 12, none⟩ = some (.string e.pa) ∧ w.cell? ⟨g, o + j * 14 + 13, none⟩ = some (.string e.cr)
theorem En.At.below {e : En} {w w' : World} {A : Option Addr} {j : Nat} (h : e.At w A j) (hb : Below w.heap.size w w') : e.At w' A j := by
  obtain ⟨g, o, e, hg, c0, c1, c2, c3, c4, c5, c6, c7, c8, c9, c10, c11, c12, c13⟩ := h
  exact ⟨g, o, e, Nat.lt_of_lt_of_le hg hb.size, (hb.cell (p := ⟨g, o + j * 14, none⟩) hg).trans c0, (hb.cell (p := ⟨g, o + j * 14 + 1, none⟩) hg).trans c1, (hb.cell (p := ⟨g, o + j * 14 + 2, none⟩) hg).trans c2, (hb.cell (p := ⟨g, o + j * 14 + 3, none⟩) hg).trans c3, (hb.cell (p := ⟨g, o + j * 14 + 4, none⟩) hg).trans c4, (hb.cell (p := ⟨g, o + j * 14 + 5, none⟩) hg).trans c5, (hb.cell (p := ⟨g, o + j * 14 + 6, none⟩) hg).trans c6, (hb.cell (p := ⟨g, o + j * 14 + 7, none⟩) hg).trans c7, (hb.cell (p := ⟨g, o + j * 14 + 8, none⟩) hg).trans c8, (hb.cell (p := ⟨g, o + j * 14 + 9, none⟩) hg).trans c9, (hb.cell (p := ⟨g, o + j * 14 + 10, none⟩) hg).trans c10, (hb.cell (p := ⟨g, o + j * 14 + 11, none⟩) hg).trans c11, (hb.cell (p := ⟨g, o + j * 14 + 12, none⟩) hg).trans c12, (hb.cell (p := ⟨g, o + j * 14 + 13, none⟩) hg).trans c13⟩
/-- the slice at A holds the entries L -/
def RdE (w : World) (A : Option Addr) (L : List En) : Prop := ∀ (j : Nat) (x : En), L[j]? = some x → x.Rd w ∧ x.At w A j
theorem RdE.below {w w' : World} {A : Option Addr} {L : List En} (h : RdE w A L) (hb : Below w.heap.size w w') : RdE w' A L :=
  fun j x hx => ⟨(h j x hx).1.below hb, (h j x hx).2.below hb⟩
def szEs (L : List En) : Nat := (L.map En.sz).sum
theorem szEs_take {L : List En} {k : Nat} {x : En} (h : L[k]? = some x) : szEs (L.take (k + 1)) = szEs (L.take k) + x.sz := by
  unfold szEs
  rw [List.take_add_one, h, List.map_append, List.sum_append]
  simp
theorem szEs_le (L : List En) (k : Nat) : szEs (L.take k) ≤ szEs L := by
  conv => rhs; rw [← List.take_append_drop k L]
  unfold szEs
  rw [List.map_append, List.sum_append]
  omega
theorem szEs_mem {L : List En} {x : En} (h : x ∈ L) : x.sz ≤ szEs L := by
  obtain ⟨k, hk, rfl⟩ := List.getElem_of_mem h
  have := szEs_take (List.getElem?_eq_getElem hk)
  have := szEs_le L (k + 1)
  omega
/-- what szEntryS answers -/
def szEl (left : Nat) (L : List En) : Int := if L.length + szEs L ≤ left then (left : Int) - L.length - szEs L else -1

set_option maxRecDepth 100000 in
set_option maxHeartbeats 4000000 in
theorem szEntryS_any (A : Option Addr) (c N : Nat) (L : List En) (left : Nat) (w : World) (h : RdE w A L) (hn : L.length = N) (hm : N ≤ maxLen) (hx : ∀ x ∈ L, x.Lim) (hl : left ≤ 1048576) :
    Calls Tryz.prog 21 #[.slice A N c, .int .i64 left] w fun e w' => e = .returned (.int .i64 (szEl left L)) ∧ Below w.heap.size w w' := by
  have H := Lib.hid h
  have HN := Lib.hid hn
  have HX := Lib.hid hx
  have HZ := Lib.hid (show szEl left L = if L.length + szEs L ≤ left then (left : Int) - L.length - szEs L else -1 from rfl)
  rw [hn] at HZ
  unfold maxLen at hm
  clear h hn hx
  by_cases h0 : N ≤ left
  · go_enter Tryz.func21, Tryz.ntmps21
    go_wp2_with fail
    go_loopw [1, 5] (fun l i wr => ∃ k : Nat, k ≤ N ∧ i = .int .i64 k ∧ (∃ t : Nat, t + N + szEs (L.take k) = left ∧ l = .int .i64 t) ∧ Below w.heap.size w wr) (fun _ i _ => N - (intOf i).toNat)
    case atStart => exact ⟨0, Nat.zero_le _, rfl, ⟨left - N, by simp [szEs]; omega, by congr 1; omega⟩, Below.refl _ _⟩
    case round =>
      obtain ⟨k, hk, rfl, ⟨t, ht, rfl⟩, hb⟩ := hrel
      by_cases hlt : k < N
      · have hkx : k < L.length := by rw [HN.out]; exact hlt
        have hx? := List.getElem?_eq_getElem hkx
        obtain ⟨hr, g, o, rfl, hg, c0, c1, c2, c3, c4, c5, c6, c7, c8, c9, c10, c11, c12, c13⟩ := (H.out.below hb) k L[k] hx?
        have hlm := HX.out _ (List.getElem_mem hkx)
        have HT := Lib.hid (szEs_take hx?)
        have HLe := Lib.hid (szEs_le L (k + 1))
        clear hx?
        generalize L[k] = x at *
        have HS := Lib.hid (szEntry_any x.key x.kind x.auA x.auN x.auc x.auL x.edA x.edN x.edc x.edL x.ti x.co x.pu x.y x.m x.d x.ci x.vol x.pa x.cr t wr hr hlm (by omega))
        clear hlm hr
        have HSz : Hid (szE t x = if x.sz ≤ t then (t : Int) - x.sz else -1) := Lib.hid rfl
        have HS : Hid (Calls Tryz.prog 45 #[.agg #[.string x.key, .int .i64 x.kind, .slice x.auA x.auN x.auc, .slice x.edA x.edN x.edc, .string x.ti, .string x.co, .string x.pu, .int .i64 x.y, .int .i64 x.m, .int .i64 x.d, .bool x.ci, .int .i64 x.vol, .string x.pa, .string x.cr], .int .i64 t] wr fun e w' => e = .returned (.int .i64 (szE t x)) ∧ Below wr.heap.size wr w') := HS
        by_cases h1 : x.sz ≤ t
        · have e1 := HSz.out
          rw [if_pos h1] at e1
          obtain ⟨t', ht'⟩ : ∃ t' : Nat, t' + x.sz = t := ⟨t - x.sz, by omega⟩
          have e2 : (t : Int) - x.sz = (t' : Int) := by omega
          rw [e2] at e1
          rw [e1] at HS
          clear e1 e2 HSz h1
          have HT' := Lib.hid ht'
          have htl : t' ≤ 1048576 := by omega
          clear ht'
          have HTt := Lib.hid ht
          clear ht
          go_wp2_with fail
          refine HS.out.mono ?_
          rintro e w1 ⟨rfl, b1⟩
          have hb1 := hb.trans (b1.mono hb.size)
          clear b1
          go_wp2_with fail
          go_roundw
          case rel =>
            have := HT.out
            have := HTt.out
            have := HT'.out
            exact ⟨k + 1, by omega, by go_num, ⟨t', by omega, rfl⟩, hb1⟩
          case measure => simp [intOf]; omega
        · have e1 := HSz.out
          rw [if_neg h1] at e1
          rw [e1] at HS
          have HF : Hid (szEl left L = -1) := Lib.hid (by rw [HZ.out, if_neg]; have := HT.out; have := HLe.out; omega)
          clear e1 HSz h1 ht
          go_wp2_with fail
          refine HS.out.mono ?_
          rintro e w1 ⟨rfl, b1⟩
          have hb1 := hb.trans (b1.mono hb.size)
          clear b1
          go_wp2_with fail
          go_ret
          exact ⟨by rw [HF.out]; rfl, hb1⟩
      · have hkN : k = N := by omega
        have HF : Hid (szEl left L = (t : Int)) := Lib.hid (by
          have e : L.take k = L := List.take_of_length_le (by rw [HN.out]; omega)
          rw [e] at ht
          rw [HZ.out, if_pos (by omega)]
          omega)
        clear ht
        go_wp2_with fail
        go_ret
        exact ⟨by rw [HF.out]; rfl, hb⟩
  · have HF : Hid (szEl left L = -1) := Lib.hid (by rw [HZ.out, if_neg (by omega)])
    go_enter Tryz.func21, Tryz.ntmps21
    go_wp2_with fail
    go_ret
    exact ⟨by rw [HF.out]; rfl, Below.refl _ _⟩
end Go.Proofs.YteccmlpibbchbaaGreatDoor.Ens
/-
  Contract of the laws' helper toEntryS.
-/
namespace Go.Proofs.YteccmlpibbchbaaGreatDoor.Ens
open Go.RowKit Pl Strs Help Name Stands SplitPl NmPl Word Part NGood Nms
set_option linter.unusedSimpArgs false
set_option linter.unusedVariables false

theorem infoEn : (Tryz.prog.info? 58).map (fun i => (i.zero, i.size, i.bytes)) = some (some (.agg #[.string ByteArray.empty, .int .i64 0, .slice none 0 0, .slice none 0 0, .string ByteArray.empty, .string ByteArray.empty, .string ByteArray.empty, .int .i64 0, .int .i64 0, .int .i64 0, .bool false, .int .i64 0, .string ByteArray.empty, .string ByteArray.empty]), 14, 192) := by kernel_rfl
/-- the fourteen cells of each entry -/
def ecells (L : List En) : List Value := L.flatMap fun x => x.cs.toList
theorem cs_len (x : En) : x.cs.toList.length = 14 := rfl
theorem ecells_cons (x : En) (r : List En) : ecells (x :: r) = x.cs.toList ++ ecells r := rfl
theorem ecells_len (L : List En) : (ecells L).length = L.length * 14 := by
  induction L with
  | nil => rfl
  | cons x r ih => rw [ecells_cons, List.length_append, ih, cs_len, List.length_cons]; omega
theorem ecells_at {L : List En} {j i : Nat} {x : En} (h : L[j]? = some x) (hi : i < 14) : (ecells L)[j * 14 + i]? = x.cs.toList[i]? := by
  induction L generalizing j with
  | nil => simp at h
  | cons y r ih =>
    rw [ecells_cons]
    cases j with
    | zero =>
      simp at h
      subst h
      rw [List.getElem?_append_left (by rw [cs_len]; omega)]
      congr 1
      omega
    | succ j =>
      have := ih (j := j) (by simpa using h)
      rw [List.getElem?_append_right (by rw [cs_len]; omega), cs_len, ← this]
      congr 1
      omega
theorem ecells_snoc (M : List En) (y : En) : ecells (M ++ [y]) = ecells M ++ y.cs.toList := by
  unfold ecells
  rw [List.flatMap_append]
  simp
set_option maxHeartbeats 1000000 in
theorem set14_row {M : List En} {k : Nat} {Z : List Value} (y : En) (hM : M.length = k) (hz : (k + 1) * 14 ≤ Z.length) :
    (((((((((((((((ecells M ++ Z.drop (k * 14)).set (k * 14) (.string y.key)).set (k * 14 + 1) (.int .i64 y.kind)).set (k * 14 + 2) (.slice y.auA y.auN y.auc)).set (k * 14 + 3) (.slice y.edA y.edN y.edc)).set (k * 14 + 4) (.string y.ti)).set (k * 14 + 5) (.string y.co)).set (k * 14 + 6) (.string y.pu)).set (k * 14 + 7) (.int .i64 y.y)).set (k * 14 + 8) (.int .i64 y.m)).set (k * 14 + 9) (.int .i64 y.d)).set (k * 14 + 10) (.bool y.ci)).set (k * 14 + 11) (.int .i64 y.vol)).set (k * 14 + 12) (.string y.pa)).set (k * 14 + 13) (.string y.cr)) = ecells (M ++ [y]) ++ Z.drop ((k + 1) * 14) := by
  have hl : (ecells M).length = k * 14 := by rw [ecells_len, hM]
  have hd : ∃ z0 z1 z2 z3 z4 z5 z6 z7 z8 z9 z10 z11 z12 z13, Z.drop (k * 14) = z0 :: z1 :: z2 :: z3 :: z4 :: z5 :: z6 :: z7 :: z8 :: z9 :: z10 :: z11 :: z12 :: z13 :: Z.drop ((k + 1) * 14) := by
    refine ⟨Z[k * 14], Z[k * 14 + 1], Z[k * 14 + 2], Z[k * 14 + 3], Z[k * 14 + 4], Z[k * 14 + 5], Z[k * 14 + 6], Z[k * 14 + 7], Z[k * 14 + 8], Z[k * 14 + 9], Z[k * 14 + 10], Z[k * 14 + 11], Z[k * 14 + 12], Z[k * 14 + 13], ?_⟩
    rw [List.drop_eq_getElem_cons (by omega), List.drop_eq_getElem_cons (by omega), List.drop_eq_getElem_cons (by omega), List.drop_eq_getElem_cons (by omega), List.drop_eq_getElem_cons (by omega), List.drop_eq_getElem_cons (by omega), List.drop_eq_getElem_cons (by omega), List.drop_eq_getElem_cons (by omega), List.drop_eq_getElem_cons (by omega), List.drop_eq_getElem_cons (by omega), List.drop_eq_getElem_cons (by omega), List.drop_eq_getElem_cons (by omega), List.drop_eq_getElem_cons (by omega), List.drop_eq_getElem_cons (by omega), show (k + 1) * 14 = k * 14 + 1 + 1 + 1 + 1 + 1 + 1 + 1 + 1 + 1 + 1 + 1 + 1 + 1 + 1 by omega]
  obtain ⟨z0, z1, z2, z3, z4, z5, z6, z7, z8, z9, z10, z11, z12, z13, hd⟩ := hd
  rw [hd, ecells_snoc]
  rw [List.set_append_right _ _ (by omega), List.set_append_right _ _ (by omega), List.set_append_right _ _ (by omega), List.set_append_right _ _ (by omega), List.set_append_right _ _ (by omega), List.set_append_right _ _ (by omega), List.set_append_right _ _ (by omega), List.set_append_right _ _ (by omega), List.set_append_right _ _ (by omega), List.set_append_right _ _ (by omega), List.set_append_right _ _ (by omega), List.set_append_right _ _ (by omega), List.set_append_right _ _ (by omega), List.set_append_right _ _ (by omega), hl]
  rw [show k * 14 - k * 14 = 0 by omega, show k * 14 + 1 - k * 14 = 1 by omega, show k * 14 + 2 - k * 14 = 2 by omega, show k * 14 + 3 - k * 14 = 3 by omega, show k * 14 + 4 - k * 14 = 4 by omega, show k * 14 + 5 - k * 14 = 5 by omega, show k * 14 + 6 - k * 14 = 6 by omega, show k * 14 + 7 - k * 14 = 7 by omega, show k * 14 + 8 - k * 14 = 8 by omega, show k * 14 + 9 - k * 14 = 9 by omega, show k * 14 + 10 - k * 14 = 10 by omega, show k * 14 + 11 - k * 14 = 11 by omega, show k * 14 + 12 - k * 14 = 12 by omega, show k * 14 + 13 - k * 14 = 13 by omega]
  simp
/-- fourteen stores into the row -/
theorem own_set14 {w : World} {base : Nat} {e : TypeId} {g n cap : Nat} {M : List En} {k : Nat} {Z : List Value} (h : w.ownsRow base e 14 (.slice (some ⟨g, 0, none⟩) n cap) n (ecells M ++ Z.drop (k * 14))) (y : En) (hM : M.length = k) (hz : (k + 1) * 14 ≤ Z.length) :
    ((((((((((((((w.setCell ⟨g, k * 14, none⟩ (.string y.key)).setCell ⟨g, k * 14 + 1, none⟩ (.int .i64 y.kind)).setCell ⟨g, k * 14 + 2, none⟩ (.slice y.auA y.auN y.auc)).setCell ⟨g, k * 14 + 3, none⟩ (.slice y.edA y.edN y.edc)).setCell ⟨g, k * 14 + 4, none⟩ (.string y.ti)).setCell ⟨g, k * 14 + 5, none⟩ (.string y.co)).setCell ⟨g, k * 14 + 6, none⟩ (.string y.pu)).setCell ⟨g, k * 14 + 7, none⟩ (.int .i64 y.y)).setCell ⟨g, k * 14 + 8, none⟩ (.int .i64 y.m)).setCell ⟨g, k * 14 + 9, none⟩ (.int .i64 y.d)).setCell ⟨g, k * 14 + 10, none⟩ (.bool y.ci)).setCell ⟨g, k * 14 + 11, none⟩ (.int .i64 y.vol)).setCell ⟨g, k * 14 + 12, none⟩ (.string y.pa)).setCell ⟨g, k * 14 + 13, none⟩ (.string y.cr)).ownsRow base e 14 (.slice (some ⟨g, 0, none⟩) n cap) n (ecells (M ++ [y]) ++ Z.drop ((k + 1) * 14)) := by
  have h0 := (h.stored (k * 14) (.string y.key)).1
  have h1 := (h0.stored (k * 14 + 1) (.int .i64 y.kind)).1
  have h2 := (h1.stored (k * 14 + 2) (.slice y.auA y.auN y.auc)).1
  have h3 := (h2.stored (k * 14 + 3) (.slice y.edA y.edN y.edc)).1
  have h4 := (h3.stored (k * 14 + 4) (.string y.ti)).1
  have h5 := (h4.stored (k * 14 + 5) (.string y.co)).1
  have h6 := (h5.stored (k * 14 + 6) (.string y.pu)).1
  have h7 := (h6.stored (k * 14 + 7) (.int .i64 y.y)).1
  have h8 := (h7.stored (k * 14 + 8) (.int .i64 y.m)).1
  have h9 := (h8.stored (k * 14 + 9) (.int .i64 y.d)).1
  have h10 := (h9.stored (k * 14 + 10) (.bool y.ci)).1
  have h11 := (h10.stored (k * 14 + 11) (.int .i64 y.vol)).1
  have h12 := (h11.stored (k * 14 + 12) (.string y.pa)).1
  have h13 := (h12.stored (k * 14 + 13) (.string y.cr)).1
  rw [set14_row y hM hz] at h13
  exact h13
/-- the entry's lists are fresh and lie behind block b -/
def En.Fresh (x : En) (w : World) (b : Nat) : Prop := ∃ g2 g3, x.auA = some ⟨g2, 0, none⟩ ∧ x.edA = some ⟨g3, 0, none⟩ ∧ b < g2 ∧ b < g3 ∧ Fr w g2 x.auL ∧ Fr w g3 x.edL ∧ x.auL.length = x.auN ∧ x.edL.length = x.edN
theorem En.Fresh.below {x : En} {w w' : World} {b : Nat} (h : x.Fresh w b) (hb : Below w.heap.size w w') : x.Fresh w' b := by
  obtain ⟨g2, g3, h1, h2, h3, h4, h5, h6, h7, h8⟩ := h
  exact ⟨g2, g3, h1, h2, h3, h4, h5.below hb, h6.below hb, h7, h8⟩
theorem En.Fresh.set {x : En} {w : World} {b : Nat} (h : x.Fresh w b) (j : Nat) (v : Value) : x.Fresh (w.setCell ⟨b, j, none⟩ v) b := by
  obtain ⟨g2, g3, h1, h2, h3, h4, h5, h6, h7, h8⟩ := h
  exact ⟨g2, g3, h1, h2, h3, h4, h5.older h3 _ _, h6.older h4 _ _, h7, h8⟩
theorem En.Fresh.rd {x : En} {w : World} {b : Nat} (h : x.Fresh w b) : x.Rd w := by
  obtain ⟨g2, g3, h1, h2, h3, h4, h5, h6, h7, h8⟩ := h
  exact ⟨by rw [h1]; exact h5.1, h7, by rw [h2]; exact h6.1, h8⟩
/-- the names' numbers of words are small -/
def En.Sm (x : En) : Prop := x.auN ≤ 1048576 ∧ x.edN ≤ 1048576 ∧ (∀ y ∈ x.auL, y.n ≤ 1048576) ∧ (∀ y ∈ x.edL, y.n ≤ 1048576)

set_option maxRecDepth 100000 in
set_option maxHeartbeats 8000000 in
theorem toEntryS_far (A : Option Addr) (c N : Nat) (L : List En) (w : World) (h : RdE w A L) (hn : L.length = N) (hm : N ≤ 1048576) (hl : ∀ x ∈ L, x.Sm) :
    Calls Tryz.prog 27 #[.slice A N c] w fun e w' => ∃ M, e = .returned (.slice (some ⟨w.heap.size, 0, none⟩) N N) ∧ RdE w' (some ⟨w.heap.size, 0, none⟩) M ∧ M.map En.key4 = L.map En.key4 ∧ (∀ x ∈ M, x.Sm) ∧ (∀ x ∈ M, x.Fresh w' w.heap.size) ∧ NF w' w.heap.size ∧ Below w.heap.size w w' := by
  obtain ⟨i0, hi, hz0, hz1, hz2⟩ := info_parts infoEn
  have H := Lib.hid h
  have HN := Lib.hid hn
  have HL := Lib.hid hl
  clear h hn hl
  have hmk : (Instr.makeSlice 31 (.int .i64 N) (.int .i64 N)).run Tryz.prog w = .ok (.slice (some ⟨w.heap.size, 0, none⟩) N N) (w.alloc (.cells (madeCells #[.string ByteArray.empty, .int .i64 0, .slice none 0 0, .slice none 0 0, .string ByteArray.empty, .string ByteArray.empty, .string ByteArray.empty, .int .i64 0, .int .i64 0, .int .i64 0, .bool false, .int .i64 0, .string ByteArray.empty, .string ByteArray.empty] (N * 14)) 58)) := by
    have h := run_make (P := Tryz.prog) w 31 58 i0 (.agg #[.string ByteArray.empty, .int .i64 0, .slice none 0 0, .slice none 0 0, .string ByteArray.empty, .string ByteArray.empty, .string ByteArray.empty, .int .i64 0, .int .i64 0, .int .i64 0, .bool false, .int .i64 0, .string ByteArray.empty, .string ByteArray.empty]) Tryz.underlying31 hi hz0 .i64 .i64 (N : Int) (N : Int) (by omega) (Int.le_refl _) (by rw [hz2]; omega) (by omega)
    rw [Int.toNat_natCast] at h
    simpa [hz1, Value.cells] using h
  have hown0 := World.ownsRow_lit (base := w.heap.size) (e := 58) (size := 14) w (madeCells #[.string ByteArray.empty, .int .i64 0, .slice none 0 0, .slice none 0 0, .string ByteArray.empty, .string ByteArray.empty, .string ByteArray.empty, .int .i64 0, .int .i64 0, .int .i64 0, .bool false, .int .i64 0, .string ByteArray.empty, .string ByteArray.empty] (N * 14)) N (Nat.le_refl _) (by unfold maxLen; omega) (size_madeCells _ _)
  have hb0 : Below w.heap.size w (w.alloc (.cells (madeCells #[.string ByteArray.empty, .int .i64 0, .slice none 0 0, .slice none 0 0, .string ByteArray.empty, .string ByteArray.empty, .string ByteArray.empty, .int .i64 0, .int .i64 0, .int .i64 0, .bool false, .int .i64 0, .string ByteArray.empty, .string ByteArray.empty] (N * 14)) 58)) := (Below.refl _ w).alloc (Nat.le_refl _) _
  have hlt0 : w.heap.size < (w.alloc (.cells (madeCells #[.string ByteArray.empty, .int .i64 0, .slice none 0 0, .slice none 0 0, .string ByteArray.empty, .string ByteArray.empty, .string ByteArray.empty, .int .i64 0, .int .i64 0, .int .i64 0, .bool false, .int .i64 0, .string ByteArray.empty, .string ByteArray.empty] (N * 14)) 58)).heap.size := by simp
  generalize w.alloc (.cells (madeCells #[.string ByteArray.empty, .int .i64 0, .slice none 0 0, .slice none 0 0, .string ByteArray.empty, .string ByteArray.empty, .string ByteArray.empty, .int .i64 0, .int .i64 0, .int .i64 0, .bool false, .int .i64 0, .string ByteArray.empty, .string ByteArray.empty] (N * 14)) 58) = w1 at *
  generalize hZ : (madeCells #[.string ByteArray.empty, .int .i64 0, .slice none 0 0, .slice none 0 0, .string ByteArray.empty, .string ByteArray.empty, .string ByteArray.empty, .int .i64 0, .int .i64 0, .int .i64 0, .bool false, .int .i64 0, .string ByteArray.empty, .string ByteArray.empty] (N * 14)).toList = Z at *
  have HZl : Hid (Z.length = N * 14) := Lib.hid (by rw [← hZ, Array.length_toList, size_madeCells])
  clear hZ
  have HO := Lib.hid hown0
  clear hown0
  go_enter Tryz.func27, Tryz.ntmps27
  go_wp2_with fail
  clear hmk
  go_loopw [4] (fun i wr => ∃ (k : Nat) (M : List En), k ≤ N ∧ i = .int .i64 k ∧ Hid (M.length = k ∧ M.map En.key4 = (L.take k).map En.key4 ∧ (∀ x ∈ M, x.Fresh wr w.heap.size ∧ x.Sm)) ∧ Hid (wr.ownsRow w.heap.size 58 14 (.slice (some ⟨w.heap.size, 0, none⟩) N N) N (ecells M ++ Z.drop (k * 14))) ∧ Below w.heap.size w wr ∧ w.heap.size < wr.heap.size) (fun i _ => N - (intOf i).toNat)
  case atStart => exact ⟨0, [], Nat.zero_le _, rfl, Lib.hid ⟨rfl, rfl, fun x hx => (by cases hx)⟩, Lib.hid (by simpa [ecells] using HO.out), hb0, hlt0⟩
  case round =>
    obtain ⟨k, M, hk, rfl, HM, ho, hb, hlt1⟩ := hrel
    by_cases hlt : k < N
    · have hkx : k < L.length := by rw [HN.out]; exact hlt
      have hx? := List.getElem?_eq_getElem hkx
      obtain ⟨hr, g, o, rfl, hg, c0, c1, c2, c3, c4, c5, c6, c7, c8, c9, c10, c11, c12, c13⟩ := (H.out.below hb) k L[k] hx?
      have hln := HL.out _ (List.getElem_mem hkx)
      have HX := Lib.hid hx?
      clear hx?
      generalize L[k] = x at *
      obtain ⟨key, kind, auA, auN, auc, auL, edA, edN, edc, edL, ti, co, pu, y, m, d, ci, vol, pa, cr⟩ := x
      obtain ⟨s1, s2, s3, s4⟩ := hln
      dsimp only at c0 c1 c2 c3 c4 c5 c6 c7 c8 c9 c10 c11 c12 c13 s1 s2 s3 s4
      have HT := Lib.hid (toEntry_far key kind auA auN auc auL edA edN edc edL ti co pu y m d ci vol pa cr wr hr s1 s2 s3 s4)
      have HR1 := Lib.hid hr.2.1
      have HR2 := Lib.hid hr.2.2.2
      clear hr s3 s4
      go_wp2_with fail
      refine HT.out.mono ?_
      rintro e w2 ⟨g2, M2, g3, M3, rfl, F2, F3, L2, L3, K2, K3, n2, n3, b2⟩
      have ho2 := own_kept ho.out b2
      have hzl := HZl.out
      have hMl := HM.out.1
      have hall : (ecells M ++ Z.drop (k * 14)).length = N * 14 := by rw [List.length_append, ecells_len, List.length_drop]; omega
      have f0 := World.ownsRow.frozenAt ho2 (k * 14)
      have f1 := World.ownsRow.frozenAt ho2 (k * 14 + 1)
      have f2 := World.ownsRow.frozenAt ho2 (k * 14 + 2)
      have f3 := World.ownsRow.frozenAt ho2 (k * 14 + 3)
      have f4 := World.ownsRow.frozenAt ho2 (k * 14 + 4)
      have f5 := World.ownsRow.frozenAt ho2 (k * 14 + 5)
      have f6 := World.ownsRow.frozenAt ho2 (k * 14 + 6)
      have f7 := World.ownsRow.frozenAt ho2 (k * 14 + 7)
      have f8 := World.ownsRow.frozenAt ho2 (k * 14 + 8)
      have f9 := World.ownsRow.frozenAt ho2 (k * 14 + 9)
      have f10 := World.ownsRow.frozenAt ho2 (k * 14 + 10)
      have f11 := World.ownsRow.frozenAt ho2 (k * 14 + 11)
      have f12 := World.ownsRow.frozenAt ho2 (k * 14 + 12)
      have f13 := World.ownsRow.frozenAt ho2 (k * 14 + 13)
      obtain ⟨u0, v0⟩ : ∃ u, w2.cell? ⟨w.heap.size, k * 14, none⟩ = some u := by rw [World.ownsRow.cellAt ho2 (k * 14) (by omega)]; exact ⟨_, List.getElem?_eq_getElem (by omega)⟩
      obtain ⟨u1, v1⟩ : ∃ u, w2.cell? ⟨w.heap.size, k * 14 + 1, none⟩ = some u := by rw [World.ownsRow.cellAt ho2 (k * 14 + 1) (by omega)]; exact ⟨_, List.getElem?_eq_getElem (by omega)⟩
      obtain ⟨u2, v2⟩ : ∃ u, w2.cell? ⟨w.heap.size, k * 14 + 2, none⟩ = some u := by rw [World.ownsRow.cellAt ho2 (k * 14 + 2) (by omega)]; exact ⟨_, List.getElem?_eq_getElem (by omega)⟩
      obtain ⟨u3, v3⟩ : ∃ u, w2.cell? ⟨w.heap.size, k * 14 + 3, none⟩ = some u := by rw [World.ownsRow.cellAt ho2 (k * 14 + 3) (by omega)]; exact ⟨_, List.getElem?_eq_getElem (by omega)⟩
      obtain ⟨u4, v4⟩ : ∃ u, w2.cell? ⟨w.heap.size, k * 14 + 4, none⟩ = some u := by rw [World.ownsRow.cellAt ho2 (k * 14 + 4) (by omega)]; exact ⟨_, List.getElem?_eq_getElem (by omega)⟩
      obtain ⟨u5, v5⟩ : ∃ u, w2.cell? ⟨w.heap.size, k * 14 + 5, none⟩ = some u := by rw [World.ownsRow.cellAt ho2 (k * 14 + 5) (by omega)]; exact ⟨_, List.getElem?_eq_getElem (by omega)⟩
      obtain ⟨u6, v6⟩ : ∃ u, w2.cell? ⟨w.heap.size, k * 14 + 6, none⟩ = some u := by rw [World.ownsRow.cellAt ho2 (k * 14 + 6) (by omega)]; exact ⟨_, List.getElem?_eq_getElem (by omega)⟩
      obtain ⟨u7, v7⟩ : ∃ u, w2.cell? ⟨w.heap.size, k * 14 + 7, none⟩ = some u := by rw [World.ownsRow.cellAt ho2 (k * 14 + 7) (by omega)]; exact ⟨_, List.getElem?_eq_getElem (by omega)⟩
      obtain ⟨u8, v8⟩ : ∃ u, w2.cell? ⟨w.heap.size, k * 14 + 8, none⟩ = some u := by rw [World.ownsRow.cellAt ho2 (k * 14 + 8) (by omega)]; exact ⟨_, List.getElem?_eq_getElem (by omega)⟩
      obtain ⟨u9, v9⟩ : ∃ u, w2.cell? ⟨w.heap.size, k * 14 + 9, none⟩ = some u := by rw [World.ownsRow.cellAt ho2 (k * 14 + 9) (by omega)]; exact ⟨_, List.getElem?_eq_getElem (by omega)⟩
      obtain ⟨u10, v10⟩ : ∃ u, w2.cell? ⟨w.heap.size, k * 14 + 10, none⟩ = some u := by rw [World.ownsRow.cellAt ho2 (k * 14 + 10) (by omega)]; exact ⟨_, List.getElem?_eq_getElem (by omega)⟩
      obtain ⟨u11, v11⟩ : ∃ u, w2.cell? ⟨w.heap.size, k * 14 + 11, none⟩ = some u := by rw [World.ownsRow.cellAt ho2 (k * 14 + 11) (by omega)]; exact ⟨_, List.getElem?_eq_getElem (by omega)⟩
      obtain ⟨u12, v12⟩ : ∃ u, w2.cell? ⟨w.heap.size, k * 14 + 12, none⟩ = some u := by rw [World.ownsRow.cellAt ho2 (k * 14 + 12) (by omega)]; exact ⟨_, List.getElem?_eq_getElem (by omega)⟩
      obtain ⟨u13, v13⟩ : ∃ u, w2.cell? ⟨w.heap.size, k * 14 + 13, none⟩ = some u := by rw [World.ownsRow.cellAt ho2 (k * 14 + 13) (by omega)]; exact ⟨_, List.getElem?_eq_getElem (by omega)⟩
      have HO2 := Lib.hid (own_set14 ho2 ⟨key, kind, some ⟨g2, 0, none⟩, auN, auN, M2, some ⟨g3, 0, none⟩, edN, edN, M3, ti, co, pu, y, m, d, ci, vol, pa, cr⟩ hMl (by omega))
      have HY : Hid ((⟨key, kind, some ⟨g2, 0, none⟩, auN, auN, M2, some ⟨g3, 0, none⟩, edN, edN, M3, ti, co, pu, y, m, d, ci, vol, pa, cr⟩ : En).Fresh w2 w.heap.size) := Lib.hid ⟨g2, g3, rfl, rfl, Nat.lt_trans hlt1 L2, Nat.lt_trans hlt1 L3, F2, F3, (len_of_key K2).trans HR1.out, (len_of_key K3).trans HR2.out⟩
      have HSm : Hid ((⟨key, kind, some ⟨g2, 0, none⟩, auN, auN, M2, some ⟨g3, 0, none⟩, edN, edN, M3, ti, co, pu, y, m, d, ci, vol, pa, cr⟩ : En).Sm) := Lib.hid ⟨s1, s2, n2, n3⟩
      have HM2 : Hid (∀ x ∈ M, x.Fresh w2 w.heap.size ∧ x.Sm) := Lib.hid (fun x hx => ⟨(HM.out.2.2 x hx).1.below b2, (HM.out.2.2 x hx).2⟩)
      have HK : Hid ((M ++ [(⟨key, kind, some ⟨g2, 0, none⟩, auN, auN, M2, some ⟨g3, 0, none⟩, edN, edN, M3, ti, co, pu, y, m, d, ci, vol, pa, cr⟩ : En)]).map En.key4 = (L.take (k + 1)).map En.key4) := Lib.hid (by
        rw [List.take_add_one, HX.out, List.map_append, List.map_append, HM.out.2.1]
        congr 1
        simp only [Option.toList, List.map_cons, List.map_nil]
        unfold En.key4
        dsimp only
        rw [K2, K3])
      have hb2 := hb.trans (b2.mono hb.size)
      have hsz2 : w.heap.size < w2.heap.size := Nat.lt_of_lt_of_le hlt1 b2.size
      clear ho ho2 b2 hall hzl hb F2 F3 K2 K3 n2 n3 L2 L3
      go_wp2_with fail
      go_roundw
      case rel =>
        refine ⟨k + 1, _, by omega, by go_num, Lib.hid ⟨by rw [List.length_append, hMl]; rfl, HK.out, ?_⟩, Lib.hid HO2.out, ?_, by simpa [World.setCell] using hsz2⟩
        · intro x hx
          rcases List.mem_append.1 hx with hx | hx
          · exact ⟨(((((((((((((((HM2.out x hx).1.set _ _).set _ _).set _ _).set _ _).set _ _).set _ _).set _ _).set _ _).set _ _).set _ _).set _ _).set _ _).set _ _).set _ _), (HM2.out x hx).2⟩
          · simp only [List.mem_singleton] at hx
            subst hx
            exact ⟨((((((((((((((HY.out.set _ _).set _ _).set _ _).set _ _).set _ _).set _ _).set _ _).set _ _).set _ _).set _ _).set _ _).set _ _).set _ _).set _ _), HSm.out⟩
        · exact ((((((((((((((hb2.setCell (p := ⟨w.heap.size, k * 14, none⟩) (Nat.le_refl _) _).setCell (p := ⟨w.heap.size, k * 14 + 1, none⟩) (Nat.le_refl _) _).setCell (p := ⟨w.heap.size, k * 14 + 2, none⟩) (Nat.le_refl _) _).setCell (p := ⟨w.heap.size, k * 14 + 3, none⟩) (Nat.le_refl _) _).setCell (p := ⟨w.heap.size, k * 14 + 4, none⟩) (Nat.le_refl _) _).setCell (p := ⟨w.heap.size, k * 14 + 5, none⟩) (Nat.le_refl _) _).setCell (p := ⟨w.heap.size, k * 14 + 6, none⟩) (Nat.le_refl _) _).setCell (p := ⟨w.heap.size, k * 14 + 7, none⟩) (Nat.le_refl _) _).setCell (p := ⟨w.heap.size, k * 14 + 8, none⟩) (Nat.le_refl _) _).setCell (p := ⟨w.heap.size, k * 14 + 9, none⟩) (Nat.le_refl _) _).setCell (p := ⟨w.heap.size, k * 14 + 10, none⟩) (Nat.le_refl _) _).setCell (p := ⟨w.heap.size, k * 14 + 11, none⟩) (Nat.le_refl _) _).setCell (p := ⟨w.heap.size, k * 14 + 12, none⟩) (Nat.le_refl _) _).setCell (p := ⟨w.heap.size, k * 14 + 13, none⟩) (Nat.le_refl _) _)
      case measure => simp [intOf]; omega
    · obtain rfl : k = N := by omega
      have hMl := HM.out.1
      have HRd : Hid (RdE wr (some ⟨w.heap.size, 0, none⟩) M) := Lib.hid (fun j x hx => by
        have hj := (List.getElem?_eq_some_iff.1 hx).1
        have hcell : ∀ i, i < 14 → wr.cell? ⟨w.heap.size, 0 + j * 14 + i, none⟩ = x.cs.toList[i]? := fun i hi => by
          rw [Nat.zero_add, World.ownsRow.cellAt ho.out (j * 14 + i) (by omega), List.getElem?_append_left (by rw [ecells_len]; omega), ecells_at hx hi]
        exact ⟨(HM.out.2.2 x (List.mem_of_getElem? hx)).1.rd, w.heap.size, 0, rfl, hlt1, hcell 0 (by decide), hcell 1 (by decide), hcell 2 (by decide), hcell 3 (by decide), hcell 4 (by decide), hcell 5 (by decide), hcell 6 (by decide), hcell 7 (by decide), hcell 8 (by decide), hcell 9 (by decide), hcell 10 (by decide), hcell 11 (by decide), hcell 12 (by decide), hcell 13 (by decide)⟩)
      have HKy : Hid (M.map En.key4 = L.map En.key4) := Lib.hid (by rw [HM.out.2.1, List.take_of_length_le (by rw [HN.out]; omega)])
      have HFar : Hid (∀ x ∈ M, x.Fresh wr w.heap.size) := Lib.hid (fun x hx => (HM.out.2.2 x hx).1)
      have HMn : Hid (∀ x ∈ M, x.Sm) := Lib.hid (fun x hx => (HM.out.2.2 x hx).2)
      have HNF : Hid (NF wr w.heap.size) := Lib.hid (NF.own ho.out)
      go_wp2_with fail
      go_ret
      exact ⟨_, rfl, HRd.out, HKy.out, HMn.out, HFar.out, HNF.out, hb⟩
end Go.Proofs.YteccmlpibbchbaaGreatDoor.Ens
/-
  Contract of the laws' helper eqEntryS.
-/
namespace Go.Proofs.YteccmlpibbchbaaGreatDoor.Ens
open Go.RowKit Pl Strs Help Name Stands SplitPl NmPl Word Part NGood Nms
set_option linter.unusedSimpArgs false
set_option linter.unusedVariables false

theorem len_of_key4 {L M : List En} (h : L.map En.key4 = M.map En.key4) : L.length = M.length := by
  have := congrArg List.length h
  simpa using this
set_option maxRecDepth 100000 in
set_option maxHeartbeats 8000000 in
/-- two lists of entries that say the same -/
theorem eqEntryS_same (A B : Option Addr) (c d N : Nat) (L M : List En) (w : World) (h : RdE w A L) (h' : RdE w B M) (hn : L.length = N) (hk : L.map En.key4 = M.map En.key4) (hm : N ≤ 1048576) (hl : ∀ x ∈ L, x.Sm) :
    Calls Tryz.prog 35 #[.slice A N c, .slice B N d] w fun e w' => e = .returned (.bool true) ∧ Below w.heap.size w w' := by
  have H := Lib.hid h
  have H' := Lib.hid h'
  have HN := Lib.hid hn
  have HK := Lib.hid hk
  have HL := Lib.hid hl
  clear h h' hn hk hl
  go_enter Tryz.func35, Tryz.ntmps35
  go_wp2_with fail
  go_loopw [5] (fun i wr => ∃ k : Nat, k ≤ N ∧ i = .int .i64 k ∧ Below w.heap.size w wr) (fun i _ => N - (intOf i).toNat)
  case atStart => exact ⟨0, Nat.zero_le _, rfl, Below.refl _ _⟩
  case round =>
    obtain ⟨k, hk, rfl, hb⟩ := hrel
    by_cases hlt : k < N
    · have hkx : k < L.length := by rw [HN.out]; exact hlt
      have hky : k < M.length := by rw [← len_of_key4 HK.out, HN.out]; exact hlt
      have hx? := List.getElem?_eq_getElem hkx
      have hy? := List.getElem?_eq_getElem hky
      have hkey : L[k].key4 = M[k].key4 := by
        have := congrArg (fun l => l[k]?) HK.out
        simp [hkx, hky] at this
        exact this
      obtain ⟨hr, g, o, rfl, hg, c0, c1, c2, c3, c4, c5, c6, c7, c8, c9, c10, c11, c12, c13⟩ := (H.out.below hb) k L[k] hx?
      obtain ⟨hr', g2, o2, rfl, hg2, d0, d1, d2, d3, d4, d5, d6, d7, d8, d9, d10, d11, d12, d13⟩ := (H'.out.below hb) k M[k] hy?
      have hln := HL.out _ (List.getElem_mem hkx)
      clear hx? hy?
      generalize L[k] = ex at *
      generalize M[k] = ey at *
      obtain ⟨key, kind, auA, auN, auc, auL, edA, edN, edc, edL, ti, co, pu, y, m, d, ci, vol, pa, cr⟩ := ex
      obtain ⟨key', kind', auB, auN', aud, auM, edB, edN', edd, edM, ti', co', pu', y', m', d', ci', vol', pa', cr'⟩ := ey
      simp only [En.key4, Prod.mk.injEq] at hkey
      obtain ⟨rfl, rfl, ka, ke, rfl, rfl, rfl, ⟨rfl, rfl, rfl, rfl⟩, rfl, rfl, rfl⟩ := hkey
      obtain ⟨s1, s2, s3, s4⟩ := hln
      dsimp only at *
      obtain rfl : auN = auN' := hr.2.1.symm.trans ((len_of_key ka).trans hr'.2.1)
      obtain rfl : edN = edN' := hr.2.2.2.symm.trans ((len_of_key ke).trans hr'.2.2.2)
      have HR1 := Lib.hid hr
      have HR2 := Lib.hid hr'
      have HKa := Lib.hid ka
      have HKe := Lib.hid ke
      have H3 := Lib.hid s3
      have H4 := Lib.hid s4
      have HS : Hid (∀ W, Kept wr W → (W.cell? ⟨g, o + k * 14, none⟩ = some (.string key) ∧ W.cell? ⟨g, o + k * 14 + 1, none⟩ = some (.int .i64 kind) ∧ W.cell? ⟨g, o + k * 14 + 2, none⟩ = some (.slice auA auN auc) ∧ W.cell? ⟨g, o + k * 14 + 3, none⟩ = some (.slice edA edN edc) ∧ W.cell? ⟨g, o + k * 14 + 4, none⟩ = some (.string ti) ∧ W.cell? ⟨g, o + k * 14 + 5, none⟩ = some (.string co) ∧ W.cell? ⟨g, o + k * 14 + 6, none⟩ = some (.string pu) ∧ W.cell? ⟨g, o + k * 14 + 7, none⟩ = some (.int .i64 y) ∧ W.cell? ⟨g, o + k * 14 + 8, none⟩ = some (.int .i64 m) ∧ W.cell? ⟨g, o + k * 14 + 9, none⟩ = some (.int .i64 d) ∧ W.cell? ⟨g, o + k * 14 + 10, none⟩ = some (.bool ci) ∧ W.cell? ⟨g, o + k * 14 + 11, none⟩ = some (.int .i64 vol) ∧ W.cell? ⟨g, o + k * 14 + 12, none⟩ = some (.string pa) ∧ W.cell? ⟨g, o + k * 14 + 13, none⟩ = some (.string cr) ∧ W.cell? ⟨g2, o2 + k * 14, none⟩ = some (.string key) ∧ W.cell? ⟨g2, o2 + k * 14 + 1, none⟩ = some (.int .i64 kind) ∧ W.cell? ⟨g2, o2 + k * 14 + 2, none⟩ = some (.slice auB auN aud) ∧ W.cell? ⟨g2, o2 + k * 14 + 3, none⟩ = some (.slice edB edN edd) ∧ W.cell? ⟨g2, o2 + k * 14 + 4, none⟩ = some (.string ti) ∧ W.cell? ⟨g2, o2 + k * 14 + 5, none⟩ = some (.string co) ∧ W.cell? ⟨g2, o2 + k * 14 + 6, none⟩ = some (.string pu) ∧ W.cell? ⟨g2, o2 + k * 14 + 7, none⟩ = some (.int .i64 y) ∧ W.cell? ⟨g2, o2 + k * 14 + 8, none⟩ = some (.int .i64 m) ∧ W.cell? ⟨g2, o2 + k * 14 + 9, none⟩ = some (.int .i64 d) ∧ W.cell? ⟨g2, o2 + k * 14 + 10, none⟩ = some (.bool ci) ∧ W.cell? ⟨g2, o2 + k * 14 + 11, none⟩ = some (.int .i64 vol) ∧ W.cell? ⟨g2, o2 + k * 14 + 12, none⟩ = some (.string pa) ∧ W.cell? ⟨g2, o2 + k * 14 + 13, none⟩ = some (.string cr) ∧ Kept wr W)) := Lib.hid (fun W h => ⟨(h.cell (p := ⟨g, o + k * 14, none⟩) hg).trans c0, (h.cell (p := ⟨g, o + k * 14 + 1, none⟩) hg).trans c1, (h.cell (p := ⟨g, o + k * 14 + 2, none⟩) hg).trans c2, (h.cell (p := ⟨g, o + k * 14 + 3, none⟩) hg).trans c3, (h.cell (p := ⟨g, o + k * 14 + 4, none⟩) hg).trans c4, (h.cell (p := ⟨g, o + k * 14 + 5, none⟩) hg).trans c5, (h.cell (p := ⟨g, o + k * 14 + 6, none⟩) hg).trans c6, (h.cell (p := ⟨g, o + k * 14 + 7, none⟩) hg).trans c7, (h.cell (p := ⟨g, o + k * 14 + 8, none⟩) hg).trans c8, (h.cell (p := ⟨g, o + k * 14 + 9, none⟩) hg).trans c9, (h.cell (p := ⟨g, o + k * 14 + 10, none⟩) hg).trans c10, (h.cell (p := ⟨g, o + k * 14 + 11, none⟩) hg).trans c11, (h.cell (p := ⟨g, o + k * 14 + 12, none⟩) hg).trans c12, (h.cell (p := ⟨g, o + k * 14 + 13, none⟩) hg).trans c13, (h.cell (p := ⟨g2, o2 + k * 14, none⟩) hg2).trans d0, (h.cell (p := ⟨g2, o2 + k * 14 + 1, none⟩) hg2).trans d1, (h.cell (p := ⟨g2, o2 + k * 14 + 2, none⟩) hg2).trans d2, (h.cell (p := ⟨g2, o2 + k * 14 + 3, none⟩) hg2).trans d3, (h.cell (p := ⟨g2, o2 + k * 14 + 4, none⟩) hg2).trans d4, (h.cell (p := ⟨g2, o2 + k * 14 + 5, none⟩) hg2).trans d5, (h.cell (p := ⟨g2, o2 + k * 14 + 6, none⟩) hg2).trans d6, (h.cell (p := ⟨g2, o2 + k * 14 + 7, none⟩) hg2).trans d7, (h.cell (p := ⟨g2, o2 + k * 14 + 8, none⟩) hg2).trans d8, (h.cell (p := ⟨g2, o2 + k * 14 + 9, none⟩) hg2).trans d9, (h.cell (p := ⟨g2, o2 + k * 14 + 10, none⟩) hg2).trans d10, (h.cell (p := ⟨g2, o2 + k * 14 + 11, none⟩) hg2).trans d11, (h.cell (p := ⟨g2, o2 + k * 14 + 12, none⟩) hg2).trans d12, (h.cell (p := ⟨g2, o2 + k * 14 + 13, none⟩) hg2).trans d13, h⟩)
      have HK0 := Lib.hid (Kept.drew wr)
      clear hr hr' ka ke s3 s4 c0 c1 c2 c3 c4 c5 c6 c7 c8 c9 c10 c11 c12 c13 d0 d1 d2 d3 d4 d5 d6 d7 d8 d9 d10 d11 d12 d13
      go_wp2_with fail
      go_region_held3 (fun W => (W.cell? ⟨g, o + k * 14, none⟩ = some (.string key) ∧ W.cell? ⟨g, o + k * 14 + 1, none⟩ = some (.int .i64 kind) ∧ W.cell? ⟨g, o + k * 14 + 2, none⟩ = some (.slice auA auN auc) ∧ W.cell? ⟨g, o + k * 14 + 3, none⟩ = some (.slice edA edN edc) ∧ W.cell? ⟨g, o + k * 14 + 4, none⟩ = some (.string ti) ∧ W.cell? ⟨g, o + k * 14 + 5, none⟩ = some (.string co) ∧ W.cell? ⟨g, o + k * 14 + 6, none⟩ = some (.string pu) ∧ W.cell? ⟨g, o + k * 14 + 7, none⟩ = some (.int .i64 y) ∧ W.cell? ⟨g, o + k * 14 + 8, none⟩ = some (.int .i64 m) ∧ W.cell? ⟨g, o + k * 14 + 9, none⟩ = some (.int .i64 d) ∧ W.cell? ⟨g, o + k * 14 + 10, none⟩ = some (.bool ci) ∧ W.cell? ⟨g, o + k * 14 + 11, none⟩ = some (.int .i64 vol) ∧ W.cell? ⟨g, o + k * 14 + 12, none⟩ = some (.string pa) ∧ W.cell? ⟨g, o + k * 14 + 13, none⟩ = some (.string cr) ∧ W.cell? ⟨g2, o2 + k * 14, none⟩ = some (.string key) ∧ W.cell? ⟨g2, o2 + k * 14 + 1, none⟩ = some (.int .i64 kind) ∧ W.cell? ⟨g2, o2 + k * 14 + 2, none⟩ = some (.slice auB auN aud) ∧ W.cell? ⟨g2, o2 + k * 14 + 3, none⟩ = some (.slice edB edN edd) ∧ W.cell? ⟨g2, o2 + k * 14 + 4, none⟩ = some (.string ti) ∧ W.cell? ⟨g2, o2 + k * 14 + 5, none⟩ = some (.string co) ∧ W.cell? ⟨g2, o2 + k * 14 + 6, none⟩ = some (.string pu) ∧ W.cell? ⟨g2, o2 + k * 14 + 7, none⟩ = some (.int .i64 y) ∧ W.cell? ⟨g2, o2 + k * 14 + 8, none⟩ = some (.int .i64 m) ∧ W.cell? ⟨g2, o2 + k * 14 + 9, none⟩ = some (.int .i64 d) ∧ W.cell? ⟨g2, o2 + k * 14 + 10, none⟩ = some (.bool ci) ∧ W.cell? ⟨g2, o2 + k * 14 + 11, none⟩ = some (.int .i64 vol) ∧ W.cell? ⟨g2, o2 + k * 14 + 12, none⟩ = some (.string pa) ∧ W.cell? ⟨g2, o2 + k * 14 + 13, none⟩ = some (.string cr) ∧ Kept wr W))
        (first | exact HS.out _ HK0.out | exact HS.out _ (by assumption))
        (first
          | (go_at_call 55; refine (eqEntry_same key kind auA auN auc auL edA edN edc edL ti co pu y m d ci vol pa cr auB edB aud edd auM edM _ (HR1.out.below HK0.out) (HR2.out.below HK0.out) HKa.out HKe.out s1 s2 H3.out H4.out).mono ?_; rintro e w1 ⟨rfl, b1⟩; have hk1 : Kept wr w1 := Kept.next HK0.out b1))
      have hb1 := hb.trans (Below.mono hk1 hb.size)
      clear HS HK0 hk1 b1
      (try clear hHeld)
      go_wp2_with fail
      go_roundw
      case rel => exact ⟨k + 1, by omega, by go_num, hb1⟩
      case measure => simp [intOf]; omega
    · go_wp2_with fail
      go_ret
      exact ⟨rfl, hb⟩
end Go.Proofs.YteccmlpibbchbaaGreatDoor.Ens
