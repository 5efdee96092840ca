/-
  Drawing functions of chapter 2: DrawSamePeople.
-/
import Derived.Test.YtdjkgkfgnmcldaaDoorOwl
namespace Go.Proofs.YtdjkgkfgnmcldaaDoor.StN
open Go.RowKit Pl Cur Draw0 Strs Help Name Nms
set_option linter.unusedVariables false
set_option linter.unusedSimpArgs false

/-- kept where the changed block is none of the list's -/
theorem GvL.kept2 {W W' : World} {B : Nat} {v : Value} {L : List Nm} {r : Nat} (h : GvL W B v L) (hg : W.grownBy W' (some r)) (hv : ∀ j, v.ownBlock = some j → j ≠ r) (hx : ∀ x ∈ L, ∀ j, (Value.slice x.A x.n x.c).ownBlock = some j → j ≠ r) : GvL W' B v L := by
  have key : ∀ u : Value, (∀ j, u.ownBlock = some j → j ≠ r) → u.ownBlock = none ∨ u.ownBlock ≠ some r := fun u hu => by
    cases hb : u.ownBlock with
    | none => exact .inl rfl
    | some k => exact .inr (fun e => hu k hb (Option.some.inj e))
  exact ⟨World.ownsRow.kept h.1 hg (key _ hv), fun x hx' => ⟨(h.2 x hx').1, (h.2 x hx').2.kept hg (key _ (hx x hx'))⟩⟩
theorem GvL.lts {W : World} {B : Nat} {v : Value} {L : List Nm} (h : GvL W B v L) : (∀ j, v.ownBlock = some j → B ≤ j ∧ j < W.heap.size) ∧ ∀ x ∈ L, ∀ j, (Value.slice x.A x.n x.c).ownBlock = some j → B ≤ j ∧ j < W.heap.size :=
  ⟨fun j hj => h.1.lt j hj, fun x hx j hj => by have := (h.2 x hx).2.at_least hj; exact ⟨this.2, this.1⟩⟩
theorem ncells_set (L : List Nm) (i : Nat) (y : Nm) : ((((ncells L).set (i * 4) (.slice y.A y.n y.c)).set (i * 4 + 1) (.string y.p)).set (i * 4 + 2) (.string y.f)).set (i * 4 + 3) (.string y.s) = ncells (L.set i y) := by
  induction L generalizing i with
  | nil => simp [ncells]
  | cons x r ih =>
    have e : ncells (x :: r) = [.slice x.A x.n x.c, .string x.p, .string x.f, .string x.s] ++ ncells r := rfl
    cases i with
    | zero => rw [e]; simp [ncells]
    | succ i =>
      have e2 : ncells ((x :: r).set (i + 1) y) = [.slice x.A x.n x.c, .string x.p, .string x.f, .string x.s] ++ ncells (r.set i y) := rfl
      rw [e2, ← ih i, e]
      have h1 : (i + 1) * 4 = 4 + i * 4 := by omega
      rw [h1]
      rw [List.set_append_right _ _ (by simp), List.set_append_right _ _ (by simp; omega), List.set_append_right _ _ (by simp; omega), List.set_append_right _ _ (by simp; omega)]
      simp only [List.length_cons, List.length_nil]
      rw [show 4 + i * 4 - (0 + 1 + 1 + 1 + 1) = i * 4 by omega, show 4 + i * 4 + 1 - (0 + 1 + 1 + 1 + 1) = i * 4 + 1 by omega, show 4 + i * 4 + 2 - (0 + 1 + 1 + 1 + 1) = i * 4 + 2 by omega, show 4 + i * 4 + 3 - (0 + 1 + 1 + 1 + 1) = i * 4 + 3 by omega]
/-- four stores into the row of a list of names -/
def set4 (W : World) (g i : Nat) (y : Nm) : World := (((W.setCell ⟨g, i * 4, none⟩ (.slice y.A y.n y.c)).setCell ⟨g, i * 4 + 1, none⟩ (.string y.p)).setCell ⟨g, i * 4 + 2, none⟩ (.string y.f)).setCell ⟨g, i * 4 + 3, none⟩ (.string y.s)
theorem set4_own {W : World} {B g nL cv i : Nat} {L : List Nm} (y : Nm) (h : W.ownsRow B 43 4 (.slice (some ⟨g, 0, none⟩) nL cv) nL (ncells L)) :
    (set4 W g i y).ownsRow B 43 4 (.slice (some ⟨g, 0, none⟩) nL cv) nL (ncells (L.set i y)) ∧ W.grownBy (set4 W g i y) (some g) := by
  have h1 := h.stored (i * 4) (.slice y.A y.n y.c)
  have h2 := h1.1.stored (i * 4 + 1) (.string y.p)
  have h3 := h2.1.stored (i * 4 + 2) (.string y.f)
  have h4 := h3.1.stored (i * 4 + 3) (.string y.s)
  refine ⟨by rw [← ncells_set]; exact h4.1, Cur.grown_trans (Cur.grown_trans (Cur.grown_trans h1.2 h2.2) h3.2) h4.2⟩
theorem GvL.set4 {W : World} {B g nL cv i : Nat} {L : List Nm} (y : Nm) (h : GvL W B (.slice (some ⟨g, 0, none⟩) nL cv) L) (hn : nL = L.length) (hy : y.xs.length = y.n) (hG : Gv W B (.slice y.A y.n y.c) y.xs) :
    GvL (set4 W g i y) B (.slice (some ⟨g, 0, none⟩) nL cv) (L.set i y) := by
  subst hn
  obtain ⟨h1, h2⟩ := set4_own (i := i) y h.1
  refine ⟨by rw [List.length_set]; exact h1, fun x hx => ?_⟩
  rcases List.mem_or_eq_of_mem_set hx with hx | rfl
  · exact ⟨(h.2 x hx).1, (h.2 x hx).2.kept h2 (own_types (h.2 x hx).2 h.1 (by decide))⟩
  · exact ⟨hy, hG.kept h2 (own_types hG h.1 (by decide))⟩
/-- two drawn lists -/
def DrawnS (w : World) (e : Ending) (w' : World) : Prop :=
  ∃ (A1 : Option Addr) (n1 c1 : Nat) (L1 : List Nm) (A2 : Option Addr) (n2 c2 : Nat) (L2 : List Nm), e = .returned (.tuple #[.slice A1 n1 c1, .slice A2 n2 c2]) ∧ n1 = L1.length ∧ n2 = L2.length ∧ GvL w' w.heap.size (.slice A1 n1 c1) L1 ∧ GvL w' w.heap.size (.slice A2 n2 c2) L2 ∧ n1 ≤ 5 ∧ n2 ≤ 5 ∧ (∀ x ∈ L1, SmN x) ∧ (∀ x ∈ L2, SmN x) ∧ Below w.heap.size w w'
def txs : List ByteArray := [⟨#[65]⟩, ⟨#[65, 110, 110, 97]⟩, ⟨#[66]⟩, ⟨#[74]⟩]
set_option maxRecDepth 100000 in
set_option maxHeartbeats 8000000 in
theorem drawSame_any (A : Option Addr) (n c : Nat) (w : World) (hn : n ≤ 65536) (hr : RdB w A n) (ha : Apart A n w.heap.size) :
    Calls Tryd.prog 8 #[.slice A n c] w (DrawnS w) := by
  have HR := Lib.hid (rdb_new hr ha (.cells #[.slice A n c, .int .i64 0, .int .u64 0] 36))
  have HA := Lib.hid ha
  have HC := Lib.hid (cur_new w A n c)
  have HNs := Lib.hid (anyNames_any w.heap.size A n c 0 0 (w.alloc (.cells #[.slice A n c, .int .i64 0, .int .u64 0] 36)) (by omega) (by omega) HC.out HR.out HA.out)
  have hz0 : (w.alloc (.cells #[.slice A n c, .int .i64 0, .int .u64 0] 36)).heap.size = w.heap.size + 1 := by simp
  have HS0 := Lib.hid (St.start HC.out HR.out HA.out)
  clear hr ha HC HR
  go_enter Tryd.func8, Tryd.ntmps8
  go_wp2_with fail
  refine HNs.out.mono ?_
  rintro e w1 ⟨v, L, rfl, hG, hL, hX, hl⟩
  have HS1 := Lib.hid (HS0.out.call (Nat.le_refl _) hl)
  obtain ⟨Av, cv, rfl⟩ := form4 hG.1
  have HG1 := Lib.hid hG
  have HX := Lib.hid hX
  obtain ⟨nL, hnL⟩ : ∃ nL, L.length = nL := ⟨_, rfl⟩
  have HnL := Lib.hid hnL.symm
  rw [hnL] at HG1 hL ⊢
  obtain ⟨k1, s1, hk1, hc1⟩ := HS1.out.cur
  have HC1 := Lib.hid hc1
  clear hl hG hX hnL HS0 HNs hc1
  go_wp2_with fail
  refine (one_any 2 (by omega) (by omega) w.heap.size A n c k1 s1 _ (by omega) (by omega) HC1.out HS1.out.rd HA.out).mono ?_
  rintro e w2 ⟨b, rfl, hl⟩
  have HS2 := Lib.hid (HS1.out.call hk1 hl)
  have HG2 := Lib.hid (HG1.out.kept hl.2 (fun j hj => by cases hj; omega))
  clear hl HS1 HG1 HC1 hk1
  cases b with
  | false =>
    obtain ⟨k2, s2, hk2, hc2⟩ := HS2.out.cur
    have HNs := Lib.hid (anyNames_any w.heap.size A n c k2 s2 w2 (by omega) (by omega) hc2 HS2.out.rd HA.out)
    go_wp2_with fail
    refine HNs.out.mono ?_
    rintro e w3 ⟨v2, L2, rfl, hG3, hL2, hX2, hl⟩
    have HS3 := Lib.hid (HS2.out.call hk2 hl)
    have HG3 := Lib.hid (HG2.out.kept hl.2 (fun j hj => by cases hj; omega))
    obtain ⟨Av2, cv2, rfl⟩ := form4 hG3.1
    have hle := HS2.out.le
    have HGb := Lib.hid (hG3.base (show w.heap.size ≤ w2.heap.size by omega))
    have HX2 := Lib.hid hX2
    obtain ⟨n2, hn2⟩ : ∃ n2, L2.length = n2 := ⟨_, rfl⟩
    have Hn2 := Lib.hid hn2.symm
    rw [hn2] at HGb hL2 ⊢
    clear hl hG3 hX2 hn2 HNs
    go_wp2_with fail
    go_ret2
    exact ⟨Av, nL, cv, L, Av2, n2, cv2, L2, rfl, HnL.out, Hn2.out, HG3.out.base (by omega), HGb.out, hL, hL2, HX.out, HX2.out, below_new HS3.out.gr⟩
  | true =>
    have HOw := Lib.hid (l2Own_any _ Av nL cv L w2 HG2.out HnL.out hL HX.out)
    go_wp2_with fail
    refine HOw.out.mono ?_
    rintro e w3 ⟨Ab, cb, Lb, rfl, hGb, hLb, hXb, hbb⟩
    have hs2 := HS2.out.le
    have HS3 := Lib.hid (HS2.out.grow (r := none) (show w2.grownBy w3 none from ⟨hbb.os, hbb.tape, hbb.output, hbb.size, fun k hk _ => hbb.block k hk⟩) (fun j hj => by cases hj))
    have HG3 := Lib.hid (HG2.out.below hbb)
    have HGb := Lib.hid hGb
    have HLb := Lib.hid hLb
    have HXb := Lib.hid hXb
    have HLt := Lib.hid (GvL.lts HG2.out)
    have hs3 := HS3.out.le
    have hsz23 := hbb.size
    clear hGb hLb hXb hbb HOw HG2 HS2
    by_cases h0 : 0 < nL
    · obtain ⟨k3, s3, hk3, hc3⟩ := HS3.out.cur
      have HC3 := Lib.hid hc3
      clear hc3
      go_wp2_with fail
      refine (pick_any nL (by omega) (by omega) w.heap.size A n c k3 s3 _ (by omega) (by omega) HC3.out HS3.out.rd HA.out).mono ?_
      rintro e w4 ⟨z, rfl, hz1, hz2, hl⟩
      obtain ⟨i, rfl⟩ := Int.eq_ofNat_of_zero_le hz1
      have hi : i < nL := by omega
      have HS4 := Lib.hid (HS3.out.call hk3 hl)
      have HG4 := Lib.hid (HG3.out.kept hl.2 (fun j hj => by cases hj; omega))
      have HGb4 := Lib.hid (HGb.out.kept hl.2 (fun j hj => by cases hj; omega))
      have hsz34 := hl.2.size
      have HLtb := Lib.hid (GvL.lts HGb4.out)
      clear hl hz1 hz2 HC3 HS3 HG3 HGb
      obtain ⟨x, hx⟩ : ∃ x, Lb[i]? = some x := ⟨_, List.getElem?_eq_getElem (by rw [HLb.out]; exact hi)⟩
      have HXx := Lib.hid (HXb.out x (List.mem_of_getElem? hx))
      obtain ⟨gb, rfl, hgb, d0, d1, d2, d3⟩ := GvL.cells HGb4.out hx
      obtain ⟨xA, xn, xc, xs, p, f, sf⟩ := x
      dsimp only at d0 d1 d2 d3
      have hs4 := HS4.out.le
      have HgbB := Lib.hid ((GvL.lts HGb4.out).1 gb rfl)
      have HB5 := Lib.hid (C4F.new w4 (.slice xA xn xc) p f sf 43)
      have HS5 := Lib.hid (HS4.out.alloc (.cells #[.slice xA xn xc, .string p, .string f, .string sf] 43))
      have HG5 := Lib.hid (HG4.out.alloc (.cells #[.slice xA xn xc, .string p, .string f, .string sf] 43))
      have HGb5 := Lib.hid (HGb4.out.alloc (.cells #[.slice xA xn xc, .string p, .string f, .string sf] 43))
      obtain ⟨k5, s5, hk5, hc5⟩ := HS5.out.cur
      have HC5 := Lib.hid hc5
      have ht := Txt.lit (w := w4.alloc (.cells #[.slice xA xn xc, .string p, .string f, .string sf] 43)) (xs := txs) (t := 9) rfl
      rw [World.size_alloc] at ht
      have HT := Lib.hid ht
      clear hc5 ht HS4 HG4 HGb4
      go_wp2_with fail
      refine (of_any Sm (w4.heap.size + 1) 4 4 txs (by unfold Sm; decide) rfl (by omega) (by omega) w.heap.size (by omega) A n c k5 s5 _ (by omega) (by omega) (HC5.out.alloc _) (HS5.out.rd.alloc HA.out HC5.out.lt _) HA.out HT.out).mono ?_
      rintro e w7 ⟨y, hy, rfl, hl⟩
      have HS7 := Lib.hid (HS5.out.call hk5 hl.alloc)
      have HB7 := Lib.hid (C4F.grown hl.alloc.2 (by simp <;> omega) HB5.out)
      have HG7 := Lib.hid (HG5.out.kept hl.alloc.2 (fun j hj => by cases hj; omega))
      have HGb7 := Lib.hid (HGb5.out.kept hl.alloc.2 (fun j hj => by cases hj; omega))
      have Hy := Lib.hid hy
      clear hl hy HC5 HT HS5 HB5 HG5 HGb5 d0 d1 d2 d3
      obtain ⟨⟨bl7, b0, b1, b2, b3⟩, bf0, bf1, bf2, bf3⟩ := HB7.out
      have qa0 : ∀ o, (w7.alloc o).cell? ⟨w4.heap.size, 0, none⟩ = some (.slice xA xn xc) := fun o => (HB7.out.alloc o).1.2.1
      have qf0 : ∀ o, (w7.alloc o).frozen? ⟨w4.heap.size, 0, none⟩ = false := fun o => (HB7.out.alloc o).2.1
      have hsz47 : w4.heap.size < w7.heap.size := bl7
      go_upto_region 9 with fail
      have HB9 := Lib.hid ((HB7.out.set0 (.slice (some ⟨w7.heap.size, 0, none⟩) 1 1)).alloc (.cells #[.string y] 9))
      have HS9 := Lib.hid ((HS7.out.set w4.heap.size 0 (.slice (some ⟨w7.heap.size, 0, none⟩) 1 1) (by omega)).alloc (.cells #[.string y] 9))
      have HG9 := Lib.hid ((HG7.out.kept2 (grown_setc w7 w4.heap.size 0 (.slice (some ⟨w7.heap.size, 0, none⟩) 1 1)) (fun j hj => by have := (HLt.out.1 j hj).2; omega) (fun x' hx' j hj => by have := (HLt.out.2 x' hx' j hj).2; omega)).alloc (.cells #[.string y] 9))
      have HGb9 := Lib.hid ((HGb7.out.kept2 (grown_setc w7 w4.heap.size 0 (.slice (some ⟨w7.heap.size, 0, none⟩) 1 1)) (fun j hj => by have := (HLtb.out.1 j hj).2; omega) (fun x' hx' j hj => by have := (HLtb.out.2 x' hx' j hj).2; omega)).alloc (.cells #[.string y] 9))
      have hgv := World.ownsRow_lit (base := w2.heap.size) (e := 9) (size := 1) (w7.setCell ⟨w4.heap.size, 0, none⟩ (.slice (some ⟨w7.heap.size, 0, none⟩) 1 1)) #[.string y] 1 (by simp [World.setCell]; omega) (by unfold maxLen; omega) rfl
      have HGv : Hid (Gv ((w7.setCell ⟨w4.heap.size, 0, none⟩ (.slice (some ⟨w7.heap.size, 0, none⟩) 1 1)).alloc (.cells #[.string y] 9)) w2.heap.size (.slice (some ⟨w7.heap.size, 0, none⟩) 1 1) [y]) := Lib.hid (by rw [show (w7.setCell ⟨w4.heap.size, 0, none⟩ (.slice (some ⟨w7.heap.size, 0, none⟩) 1 1)).heap.size = w7.heap.size by simp [World.setCell]] at hgv; exact hgv)
      clear hgv b0 b1 b2 b3 bf0 bf1 bf2 bf3 qa0 qf0 HB7 HS7 HG7 HGb7
      generalize (w7.setCell ⟨w4.heap.size, 0, none⟩ (.slice (some ⟨w7.heap.size, 0, none⟩) 1 1)).alloc (.cells #[.string y] 9) = w9 at *
      obtain ⟨⟨bl9, b0, b1, b2, b3⟩, bf0, bf1, bf2, bf3⟩ := HB9.out
      obtain ⟨gb', hge, hgb9, d0, d1, d2, d3⟩ := GvL.cells HGb9.out hx
      obtain rfl : gb = gb' := by cases hge; rfl
      have ho9 := HGb9.out.1
      rw [HLb.out] at ho9
      have f0 := World.ownsRow.frozenAt ho9 (i * 4)
      have f1 := World.ownsRow.frozenAt ho9 (i * 4 + 1)
      have f2 := World.ownsRow.frozenAt ho9 (i * 4 + 2)
      have f3 := World.ownsRow.frozenAt ho9 (i * 4 + 3)
      have hset := set4_own (i := i) ⟨some ⟨w7.heap.size, 0, none⟩, 1, 1, [y], p, f, sf⟩ ho9
      have HGz := Lib.hid (GvL.set4 (i := i) ⟨some ⟨w7.heap.size, 0, none⟩, 1, 1, [y], p, f, sf⟩ HGb9.out HLb.out.symm rfl HGv.out)
      have HGa := Lib.hid (HG9.out.kept2 hset.2 (fun j hj => by have := (HLt.out.1 j hj).2; have := HgbB.out.1; omega) (fun x' hx' j hj => by have := (HLt.out.2 x' hx' j hj).2; have := HgbB.out.1; omega))
      have HSz := Lib.hid ((((HS9.out.set gb (i * 4) (.slice (some ⟨w7.heap.size, 0, none⟩) 1 1) (by have := HgbB.out.1; omega)).set gb (i * 4 + 1) (.string p) (by have := HgbB.out.1; omega)).set gb (i * 4 + 2) (.string f) (by have := HgbB.out.1; omega)).set gb (i * 4 + 3) (.string sf) (by have := HgbB.out.1; omega))
      have HXz := Lib.hid (show ∀ x ∈ Lb.set i ⟨some ⟨w7.heap.size, 0, none⟩, 1, 1, [y], p, f, sf⟩, SmN x from fun x' hx' => by
        rcases List.mem_or_eq_of_mem_set hx' with h | rfl
        · exact HXb.out x' h
        · exact ⟨by show 1 ≤ 4; omega, fun z hz => by rw [List.mem_singleton] at hz; rw [hz]; exact Hy.out, HXx.out.2.2.1, HXx.out.2.2.2.1, HXx.out.2.2.2.2⟩)
      have Hnz : Hid (nL = (Lb.set i ⟨some ⟨w7.heap.size, 0, none⟩, 1, 1, [y], p, f, sf⟩).length) := Lib.hid (by rw [List.length_set]; exact HLb.out.symm)
      clear ho9 hset HGb9 HG9 HS9 HB9 HGv hx HXb
      go_wp2_with fail
      go_ret2
      exact ⟨Av, nL, cv, L, some ⟨gb, 0, none⟩, nL, cb, _, rfl, HnL.out, Hnz.out, HGa.out.base (by omega), HGz.out.base (by omega), hL, hL, HX.out, HXz.out, below_new HSz.out.gr⟩
    · obtain rfl : nL = 0 := by omega
      go_wp2_with fail
      go_ret2
      exact ⟨Av, 0, cv, L, Ab, 0, cb, Lb, rfl, HnL.out, HLb.out.symm, HG3.out.base (by omega), HGb.out.base (by omega), hL, hL, HX.out, HXb.out, below_new HS3.out.gr⟩
end Go.Proofs.YtdjkgkfgnmcldaaDoor.StN
