/-
  Contract of the model's l2Own: a list of names of its own.
-/
import Derived.Test.YtdjkgkfgnmcldaaDoorOwnN
import Derived.Laws.AppendOwnNone
namespace Go.Proofs.YtdjkgkfgnmcldaaDoor.StN
open Go.RowKit Pl Cur Draw0 Strs Help Name Nms
set_option linter.unusedVariables false
set_option linter.unusedSimpArgs false

theorem GvL.below {W W' : World} {B : Nat} {v : Value} {L : List Nm} (h : GvL W B v L) (hb : Below W.heap.size W W') : GvL W' B v L :=
  ⟨own_below h.1 hb, fun x hx => ⟨(h.2 x hx).1, own_below (h.2 x hx).2 hb⟩⟩
/-- the box behind its first store, and what lies beside it -/
theorem own_step {wr W2 : World} {u v : Value} {p f s : ByteArray} {xs : List ByteArray} (hc : C4F W2 wr.heap.size u p f s) (hb : Below wr.heap.size wr W2) (hr : Gv W2 (wr.heap.size + 1) v xs) :
    C4F (W2.setCell ⟨wr.heap.size, 0, none⟩ v) wr.heap.size v p f s ∧ Below wr.heap.size wr (W2.setCell ⟨wr.heap.size, 0, none⟩ v) ∧ Gv (W2.setCell ⟨wr.heap.size, 0, none⟩ v) wr.heap.size v xs :=
  ⟨hc.set0 v, hb.setCell (p := ⟨wr.heap.size, 0, none⟩) (Nat.le_refl _) _, (hr.setc (by omega) 0 v).base (by omega)⟩
theorem given_news {W : World} {ga : Nat} {B : Nat} {n c : Nat} {xs : List ByteArray} (h : W.ownsRow B 9 1 (.slice (some ⟨ga, 0, none⟩) n c) n (xs.map Value.string)) : ∀ (j : Nat) u, (xs.map Value.string)[j]? = some u → W.cell? ((⟨ga, 0, none⟩ : Addr).add j) = some u :=
  fun j u hu => World.ownsRow.cells h (g := ga) rfl j u hu
def OwnedL (w : World) (nL : Nat) (e : Ending) (w' : World) : Prop :=
  ∃ (A : Option Addr) (c : Nat) (L : List Nm), e = .returned (.slice A nL c) ∧ GvL w' w.heap.size (.slice A nL c) L ∧ L.length = nL ∧ (∀ x ∈ L, SmN x) ∧ Below w.heap.size w w'
set_option maxRecDepth 100000 in
set_option maxHeartbeats 4000000 in
theorem l2Own_any (B : Nat) (Av : Option Addr) (nL cv : Nat) (L : List Nm) (w : World) (h : GvL w B (.slice Av nL cv) L) (hn : nL = L.length) (h5 : nL ≤ 5) (hX : ∀ x ∈ L, SmN x) :
    Calls Tryd.prog 20 #[.slice Av nL cv] w (OwnedL w nL) := by
  obtain ⟨i0, hi, hz0, hz1, hz2⟩ := info_parts infoNm
  obtain ⟨iS, hsi, hsz0, hsz1, hsz2⟩ := info_parts Split.infoStr
  have H := Lib.hid h
  have HN := Lib.hid hn
  have HX := Lib.hid hX
  have HG0 : Hid (GvL (w.alloc (.cells #[] 43)) w.heap.size (.slice (some ⟨w.heap.size, 0, none⟩) 0 0) []) := Lib.hid ⟨World.ownsRow_lit (base := w.heap.size) (e := 43) (size := 4) w #[] 0 (Nat.le_refl _) (Nat.zero_le _) rfl, fun x hx => by cases hx⟩
  have HB0 : Hid (Below w.heap.size w (w.alloc (.cells #[] 43))) := Lib.hid ((Below.refl _ w).alloc (Nat.le_refl _) _)
  clear h hn hX
  go_enter Tryd.func20, Tryd.ntmps20
  go_wp2_with fail
  generalize w.alloc _ = w0 at HG0 HB0 ⊢
  go_loopw [3, 4] (fun v i wr => ∃ (k : Nat) (A' : Option Addr) (c' : Nat) (M : List Nm), k ≤ nL ∧ i = .int .i64 k ∧ v = .slice A' k c' ∧ Hid (M.length = k) ∧ Hid (GvL wr w.heap.size (.slice A' k c') M) ∧ Hid (∀ x ∈ M, SmN x) ∧ Hid (Below w.heap.size w wr)) (fun _ i _ => nL - (intOf i).toNat)
  case atStart => exact ⟨0, _, _, [], Nat.zero_le _, rfl, rfl, Lib.hid rfl, HG0, Lib.hid (fun x hx => by cases hx), HB0⟩
  case round =>
    obtain ⟨k, A', c', M, hk, rfl, rfl, HM, HG, HS, HB⟩ := hrel
    by_cases hlt : k < nL
    · have hkl : k < L.length := by rw [← HN.out]; exact hlt
      obtain ⟨x, hx⟩ : ∃ x, L[k]? = some x := ⟨_, List.getElem?_eq_getElem hkl⟩
      obtain ⟨g, rfl, hg, d0, d1, d2, d3⟩ := GvL.cells H.out hx
      have hmem := List.mem_of_getElem? hx
      obtain ⟨hxn, hGx⟩ := H.out.2 x hmem
      have HSx := Lib.hid (HX.out x hmem)
      have c0 := (HB.out.cell (p := ⟨g, k * 4, none⟩) hg).trans d0
      have c1 := (HB.out.cell (p := ⟨g, k * 4 + 1, none⟩) hg).trans d1
      have c2 := (HB.out.cell (p := ⟨g, k * 4 + 2, none⟩) hg).trans d2
      have c3 := (HB.out.cell (p := ⟨g, k * 4 + 3, none⟩) hg).trans d3
      have HGx := Lib.hid hGx
      have HXn := Lib.hid hxn
      clear d0 d1 d2 d3 hx hkl hmem hGx hxn
      obtain ⟨xA, xn, xc, xs, p, f, sf⟩ := x
      dsimp only at c0 c1 c2 c3 HGx HXn
      have HBs := Lib.hid HB.out.size
      have hxl : xs.length ≤ 4 := HSx.out.1
      rcases HGx.out.2 with ⟨hnil, hz⟩ | ⟨ga, cap, cur, hv, hga, hgb, hcap, _⟩
      · cases hnil
        obtain rfl : xs = [] := by cases xs with
          | nil => rfl
          | cons y r => simp at hz
        clear hz
        have hrow := World.ownsRow_lit (base := wr.heap.size) (e := 9) (size := 1) (wr.alloc (.cells #[.slice (some ⟨wr.heap.size + 1, 0, none⟩) 0 0, .string p, .string f, .string sf] 43)) #[] 0 (by simp) (Nat.zero_le _) rfl
        rw [World.size_alloc] at hrow
        have hr3 : Gv ((wr.alloc (.cells #[.slice (some ⟨wr.heap.size + 1, 0, none⟩) 0 0, .string p, .string f, .string sf] 43)).alloc (.cells #[] 9)) wr.heap.size (.slice (some ⟨wr.heap.size + 1, 0, none⟩) 0 0) [] := hrow
        have hb3 : Below wr.heap.size wr ((wr.alloc (.cells #[.slice (some ⟨wr.heap.size + 1, 0, none⟩) 0 0, .string p, .string f, .string sf] 43)).alloc (.cells #[] 9)) := ((Below.refl _ wr).alloc (Nat.le_refl _) _).alloc (by simp) _
        have hrow0 := World.ownsRow_lit (base := wr.heap.size) (e := 9) (size := 1) (wr.alloc (.cells #[.slice none 0 0, .string p, .string f, .string sf] 43)) #[] 0 (by simp) (Nat.zero_le _) rfl
        rw [World.size_alloc] at hrow0
        have HRow := Lib.hid hrow0
        have HGn := Lib.hid (hr3.base HBs.out)
        have HB5 := Lib.hid (HB.out.trans (hb3.mono HBs.out))
        have HBs5 := Lib.hid (Nat.le_trans HBs.out hb3.size)
        have HG5 := Lib.hid (HG.out.below hb3)
        have HO5 : Hid (((wr.alloc (.cells #[.slice (some ⟨wr.heap.size + 1, 0, none⟩) 0 0, .string p, .string f, .string sf] 43)).alloc (.cells #[] 9)).ownsRow w.heap.size 43 4 (.slice A' k c') k (ncells M)) := Lib.hid (by have := HG5.out.1; rwa [HM.out] at this)
        have Hm9 : Hid (([] : List ByteArray).length = 0) := Lib.hid rfl
        have hfour := four_new ((wr.alloc (.cells #[.slice (some ⟨wr.heap.size + 1, 0, none⟩) 0 0, .string p, .string f, .string sf] 43)).alloc (.cells #[] 9)) 43 (.slice (some ⟨wr.heap.size + 1, 0, none⟩) 0 0) (.string p) (.string f) (.string sf)
        rw [World.size_alloc, World.size_alloc] at hfour
        have HFour := Lib.hid hfour
        clear hrow hrow0 hb3 hr3 hfour
        go_wp2_with (first | (at_builtin; refine wpList_append_own _ rfl _ _ 24 rfl w.heap.size 43 i0 _ 4 72 Tryd.underlying24 hi hz0 hz1 hz2 rfl (by decide) (.slice A' k c') k (ncells M) rfl (HO5.out.alloc _) ⟨wr.heap.size + 1 + 1, 0, none⟩ 1 1 [.slice (some ⟨wr.heap.size + 1, 0, none⟩) 0 0, .string p, .string f, .string sf] rfl rfl (HFour.out) (by simp [Value.oneCell']) (by unfold maxLen; omega) (by omega) (by have := HBs.out; have := HBs5.out; simp; omega) ?_; intro v' w10 hown10 hgrow10 hif10; clear hif10; obtain ⟨A10, c10, rfl⟩ := form4 hown10; have HG10 := Lib.hid (GvL.snoc (x := ⟨(some ⟨wr.heap.size + 1, 0, none⟩), 0, 0, ([] : List ByteArray), p, f, sf⟩) (HG5.out.alloc (.cells #[.slice (some ⟨wr.heap.size + 1, 0, none⟩) 0 0, .string p, .string f, .string sf] 43)) rfl (HGn.out.alloc _) hgrow10 (by rw [HM.out]; exact hown10)); have HB10 := Lib.hid (Below.grown (HB5.out.alloc HBs5.out (.cells #[.slice (some ⟨wr.heap.size + 1, 0, none⟩) 0 0, .string p, .string f, .string sf] 43)) hgrow10 (by have := HBs.out; have := HBs5.out; simp; omega) (fun j hj => (HO5.out.lt j hj).1)); clear hown10 hgrow10) | (at_builtin; refine wpList_append_own_none rfl _ _ 41 rfl wr.heap.size 9 iS 1 Tryd.underlying41 hsi _ 0 [] rfl HRow.out rfl ?_) | fail)
        have HX10 := Lib.hid (show ∀ y ∈ M ++ [⟨(some ⟨wr.heap.size + 1, 0, none⟩), 0, 0, ([] : List ByteArray), p, f, sf⟩], SmN y from fun y hy => by
          rcases List.mem_append.1 hy with h | h
          · exact HS.out y h
          · rw [List.mem_singleton] at h; rw [h]; exact HSx.out)
        go_wp2_with fail
        go_roundw
        case rel => exact ⟨k + 1, A10, c10, M ++ [⟨(some ⟨wr.heap.size + 1, 0, none⟩), 0, 0, ([] : List ByteArray), p, f, sf⟩], by omega, by first | rfl | go_num, rfl, Lib.hid (by rw [List.length_append, HM.out]; rfl), HG10, HX10, HB10⟩
        case measure => simp [intOf]; omega
      · cases hv
        have HC2 : Hid (C4F ((wr.alloc (.cells #[.slice (some ⟨ga, 0, none⟩) xs.length xc, .string p, .string f, .string sf] 43)).alloc (.cells #[] 9)) wr.heap.size (.slice (some ⟨ga, 0, none⟩) xs.length xc) p f sf) := Lib.hid ((C4F.new wr _ p f sf _).alloc _)
        have hrow := World.ownsRow_lit (base := wr.heap.size + 1) (e := 9) (size := 1) (wr.alloc (.cells #[.slice (some ⟨ga, 0, none⟩) xs.length xc, .string p, .string f, .string sf] 43)) #[] 0 (by simp) (Nat.zero_le _) rfl
        rw [World.size_alloc] at hrow
        have HRow := Lib.hid hrow
        have HBp : Hid (Below wr.heap.size wr ((wr.alloc (.cells #[.slice (some ⟨ga, 0, none⟩) xs.length xc, .string p, .string f, .string sf] 43)).alloc (.cells #[] 9))) := Lib.hid (((Below.refl _ wr).alloc (Nat.le_refl _) _).alloc (by simp) _)
        have HNews := Lib.hid (given_news (own_below HGx.out (HB.out.trans (HBp.out.mono HBs.out))))
        have Hm9 : Hid (xs.length = xs.length) := Lib.hid rfl
        clear hrow
        go_wp2_with (first | (at_builtin; refine wpList_append_own _ rfl _ _ 24 rfl w.heap.size 43 i0 _ 4 72 Tryd.underlying24 hi hz0 hz1 hz2 rfl (by decide) (.slice A' k c') k (ncells M) rfl (HO5.out.alloc _) ⟨w9.heap.size, 0, none⟩ 1 1 [.slice A9 xs.length c9, .string p, .string f, .string sf] rfl rfl (HFour.out) (by simp [Value.oneCell']) (by unfold maxLen; omega) (by omega) (by have := HBs.out; have := HBs5.out; simp; omega) ?_; intro v' w10 hown10 hgrow10 hif10; clear hif10; obtain ⟨A10, c10, rfl⟩ := form4 hown10; have HG10 := Lib.hid (GvL.snoc (x := ⟨A9, xs.length, c9, xs, p, f, sf⟩) (HG5.out.alloc (.cells #[.slice A9 xs.length c9, .string p, .string f, .string sf] 43)) rfl (HGn.out.alloc _) hgrow10 (by rw [HM.out]; exact hown10)); have HB10 := Lib.hid (Below.grown (HB5.out.alloc HBs5.out (.cells #[.slice A9 xs.length c9, .string p, .string f, .string sf] 43)) hgrow10 (by have := HBs.out; have := HBs5.out; simp; omega) (fun j hj => (HO5.out.lt j hj).1)); clear hown10 hgrow10) | (at_builtin; refine wpList_append_own _ rfl _ _ 41 rfl (wr.heap.size + 1) 9 iS (.string ByteArray.empty) 1 16 Tryd.underlying41 hsi hsz0 hsz1 hsz2 rfl (by decide) (.slice (some ⟨wr.heap.size + 1, 0, none⟩) 0 0) 0 [] rfl HRow.out ⟨ga, 0, none⟩ xs.length xc (xs.map Value.string) rfl (by simp) HNews.out (fun u hu => by obtain ⟨y, _, rfl⟩ := List.mem_map.1 hu; rfl) (by unfold maxLen; omega) (by omega) (by simp) ?_; intro v1 w9 hown9 hgrow9 hif9; clear hif9; rw [Nat.zero_add, List.nil_append] at hown9; obtain ⟨A9, c9, rfl⟩ := form4 hown9; have hC9 := C4F.grown hgrow9 (by simp [Value.ownBlock]) HC2.out; have hB9 : Below wr.heap.size wr w9 := Below.grown HBp.out hgrow9 (by simp; omega) (fun j hj => by simp [Value.ownBlock] at hj; omega); obtain ⟨hc3, hb3, hr3⟩ := own_step hC9 hB9 hown9; have hfr := hC9.2.1; have hcw := hC9.1.2.1; obtain ⟨⟨hlt3, e0, e1, e2, e3⟩, -⟩ := hc3; have HGn := Lib.hid (hr3.base HBs.out); have HB5 := Lib.hid (HB.out.trans (hb3.mono HBs.out)); have HBs5 := Lib.hid (Nat.le_trans HBs.out hb3.size); have HG5 := Lib.hid (HG.out.below hb3); have HO5 : Hid ((w9.setCell ⟨wr.heap.size, 0, none⟩ (.slice A9 xs.length c9)).ownsRow w.heap.size 43 4 (.slice A' k c') k (ncells M)) := Lib.hid (by have := HG5.out.1; rwa [HM.out] at this); have hfour := four_new (w9.setCell ⟨wr.heap.size, 0, none⟩ (.slice A9 xs.length c9)) 43 (.slice A9 xs.length c9) (.string p) (.string f) (.string sf); rw [show (w9.setCell ⟨wr.heap.size, 0, none⟩ (.slice A9 xs.length c9)).heap.size = w9.heap.size by simp [World.setCell]] at hfour; have HFour := Lib.hid hfour; have hwr9 := hB9.size; clear hC9 hB9 hb3 hr3 hfour hown9 hgrow9) | fail)
        have HX10 := Lib.hid (show ∀ y ∈ M ++ [⟨A9, xs.length, c9, xs, p, f, sf⟩], SmN y from fun y hy => by
          rcases List.mem_append.1 hy with h | h
          · exact HS.out y h
          · rw [List.mem_singleton] at h; rw [h]; exact HSx.out)
        go_wp2_with fail
        go_roundw
        case rel => exact ⟨k + 1, A10, c10, M ++ [⟨A9, xs.length, c9, xs, p, f, sf⟩], by omega, by first | rfl | go_num, rfl, Lib.hid (by rw [List.length_append, HM.out]; rfl), HG10, HX10, HB10⟩
        case measure => simp [intOf]; omega
    · obtain rfl : k = nL := by omega
      go_wp2_with fail
      go_ret
      exact ⟨A', c', M, rfl, HG.out, HM.out, HS.out, HB.out⟩
end Go.Proofs.YtdjkgkfgnmcldaaDoor.StN
