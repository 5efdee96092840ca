/-
  Contracts of FieldsUsed of both.
-/
import Derived.Test.YtbibjcmfgpmddaaDoorNdFu3
import Derived.Test.YtbibjcmfgpmddaaDoorNdG4
import Derived.Test.YtbibjcmfgpmddaaDoorShelf
import Derived.Sort.OwnSorted
namespace Go.Proofs.YtbibjcmfgpmddaaDoor.Nd
open Go.RowKit NdPl Ns LaidS FuPl
set_option linter.unusedSimpArgs false
set_option linter.unusedVariables false

/-- the fields of a style, or none -/
def fuL (nm : Int) (x : Tr) : List Wd := if gdB nm x = true then srt (uwT x) else []
theorem srt_len (W : List Wd) : (srt W).length ≤ W.length := by
  have h := fold_len W []
  rw [srt_eq] at h
  simpa using h
theorem fuL_len (nm : Int) (x : Tr) (h : szT x ≤ 1048576) : (fuL nm x).length ≤ 1048577 := by
  unfold fuL
  split
  · have h1 := srt_len (uwT x)
    have h2 := uwT_len x
    omega
  · simp
theorem cp_len (zs : List Wd) : (Lib.compact zs).length ≤ zs.length := by
  unfold Lib.compact Lib.compactUpTo
  rw [List.length_map]
  exact Nat.le_trans (List.length_filter_le _ _) (by simp)
abbrev msort (W : List Wd) : List Wd := W.mergeSort fun x y => decide (x ≤ y)
theorem msort_len (W : List Wd) : (msort W).length = W.length := List.length_mergeSort _
theorem own_cut {w : World} {base : Nat} {e : TypeId} {g n c m : Nat} {xs : List Value} (h : w.ownsRow base e 1 (.slice (some ⟨g, 0, none⟩) n c) n xs) (hm : m ≤ n) : w.ownsRow base e 1 (.slice (some ⟨g, 0, none⟩) m c) m (xs.take m) := by
  have hl := h.1
  rcases h.2 with ⟨h0, _⟩ | ⟨g', cap, cur, h0, hb, hg, h1, h2, h3, h4⟩
  · cases h0
  · cases h0
    refine ⟨by rw [List.length_take]; omega, .inr ⟨g, c, cur, rfl, hb, hg, by omega, h2, h3, ?_⟩⟩
    rw [← h4, List.take_take]
    congr 1
    omega
theorem sort_own {w : World} {base : Nat} {e : TypeId} {g c n : Nat} {W : List Wd} (h : w.ownsRow base e 1 (.slice (some ⟨g, 0, none⟩) n c) n (W.map encStr)) :
    Sort.Holds encStr w g 0 W.toArray ∧ g < w.heap.size ∧ base ≤ g ∧ W.length = n ∧ n ≤ c ∧
    ∀ (T : List Wd) (q : Nat) (os : Array Obj), T.length = n → (Sort.grow (Sort.putRow encStr (Sort.ahead w q) g 0 T.toArray) os).ownsRow base e 1 (.slice (some ⟨g, 0, none⟩) n c) n (T.map encStr) ∧ w.grownBy (Sort.grow (Sort.putRow encStr (Sort.ahead w q) g 0 T.toArray) os) (some g) := by
  have hl : W.length = n := by have := h.1; simpa using this
  rcases h.2 with ⟨h0, _⟩ | ⟨g', cap, cur, h0, hb, hg, h1, h2, h3, h4⟩
  · cases h0
  · cases h0
    subst hl
    refine ⟨holds_of_block hg (by simpa using h4), (Array.getElem?_eq_some_iff.1 hg).1, hb, rfl, h1, fun T q os hT => ⟨?_, grownBy_sorted _⟩⟩
    exact ownsRow_sorted hT hb hg h1 h2 h3
/-- the two calls at the end: sorted, then without doubles -/
theorem sorted_i (g c n : Nat) (W : List Wd) (base : Nat) (w : World) (h : w.ownsRow base 9 1 (.slice (some ⟨g, 0, none⟩) n c) n (W.map encStr)) (hn : n ≤ 1048577) :
    Calls Tryd.prog 19 #[.slice (some ⟨g, 0, none⟩) n c] w fun e w' => e = .returned (.tuple #[]) ∧ w'.ownsRow base 9 1 (.slice (some ⟨g, 0, none⟩) n c) n ((msort W).map encStr) ∧ w.grownBy w' (some g) := by
  obtain ⟨h1, h2, h3, rfl, h5, h6⟩ := sort_own h
  refine (Tryd.slices_Sort_string g 0 c W w h1 h2 (by omega)).mono ?_
  rintro e w' ⟨rfl, q, os, rfl⟩
  obtain ⟨a, b⟩ := h6 (msort W) q os (msort_len W)
  exact ⟨rfl, a, b⟩
theorem compact_i (g c n : Nat) (Z : List Wd) (base : Nat) (w : World) (h : w.ownsRow base 9 1 (.slice (some ⟨g, 0, none⟩) n c) n (Z.map encStr)) (hn : n ≤ 1048577) :
    Calls Tryd.prog 20 #[.slice (some ⟨g, 0, none⟩) n c] w fun e w' => e = .returned (.slice (some ⟨g, 0, none⟩) (Lib.compact Z).length c) ∧ w'.ownsRow base 9 1 (.slice (some ⟨g, 0, none⟩) (Lib.compact Z).length c) (Lib.compact Z).length ((Lib.compact Z).map encStr) ∧ w.grownBy w' (some g) := by
  obtain ⟨h1, h2, h3, rfl, h5, h6⟩ := sort_own h
  refine (Tryd.slices_Compact_string g 0 c Z w h1 (by omega) h5).mono ?_
  rintro e w' ⟨rfl, q, rfl⟩
  have hc := cp_len Z
  obtain ⟨a, b⟩ := h6 (Lib.compact Z ++ List.replicate (Z.length - (Lib.compact Z).length) []) q #[] (by rw [List.length_append, List.length_replicate]; omega)
  rw [Sort.grow_empty] at a b
  refine ⟨rfl, ?_, b⟩
  have := own_cut a hc
  rwa [← List.map_take, List.take_left] at this
set_option maxRecDepth 100000 in
set_option maxHeartbeats 4000000 in
theorem used_i (nm : Int) (x : Tr) (B : Option Addr) (c d : Nat) (w : World) (hr : RdL d w B x.ps) (hz : szT x ≤ 1048576) (hT : Tabs w) :
    Calls Tryd.prog 7 #[stV nm x.op x.wd x.tx x.af B x.ps.length c] w fun e w' => ∃ v, e = .returned (.tuple #[v, .bool (gdB nm x)]) ∧ w'.ownsRow w.heap.size 9 1 v (fuL nm x).length ((fuL nm x).map encStr) ∧ Below w.heap.size w w' := by
  obtain ⟨ok, hok⟩ : ∃ ok, gdB nm x = ok := ⟨_, rfl⟩
  have HG := Lib.hid (fun w1 (h : Below w.heap.size w w1) => valid_i nm x B c d w1 (hr.below h) hz (hT.below h) ok hok)
  have HF : Hid (fuL nm x = if ok = true then srt (uwT x) else []) := Lib.hid (by unfold fuL; rw [hok])
  have HC : Hid (ok = true → ∀ w1, Below w.heap.size w w1 → Calls Tryd.prog 18 #[ndV x.op x.wd x.tx x.af B x.ps.length c] w1 (FuPost w1 (uwT x))) := Lib.hid (fun hg w1 h =>
    fu_all d x B c w1 (hT.below h) (hr.below h) ⟨5, (by rw [← hok] at hg; unfold gdB at hg; simp only [Bool.and_eq_true, decide_eq_true_eq] at hg; exact hg.1.2)⟩ hz)
  have hul := uwT_len x
  have hul2 : (uwT x).length ≤ 1048577 := by omega
  rw [hok]
  clear hr hz hT hok hul
  generalize fuL nm x = F at *
  generalize uwT x = W at *
  have HE : Hid (srt W = Lib.compact (msort W)) := Lib.hid rfl
  have HlZ := Lib.hid (srt_len W)
  generalize srt W = Z at *
  obtain ⟨op, wd, tx, af, ps⟩ := x
  simp only [Tr.op, Tr.wd, Tr.tx, Tr.af, Tr.ps] at *
  generalize ps.length = n at *
  have HX := Lib.hid (Bx.new w #[.int .i64 nm, .int .i64 op, .string wd, .string tx, .string af, .slice B n c] 35)
  have HB := Lib.hid (box_below w (.cells #[.int .i64 nm, .int .i64 op, .string wd, .string tx, .string af, .slice B n c] 35))
  go_enter Tryd.func7, Tryd.ntmps7
  go_wp2_with fail
  have hw0 : w.heap.size < (w.alloc (.cells #[.int .i64 nm, .int .i64 op, .string wd, .string tx, .string af, .slice B n c] 35)).heap.size := by simp
  generalize w.alloc _ = w0 at HB HX hw0 ⊢
  refine (HG.out _ HB.out).mono ?_
  rintro e w1 ⟨rfl, b1⟩
  have B1 := Lib.hid (HB.out.trans (b1.mono HB.out.size))
  obtain ⟨hxl, hx⟩ := HX.out.below b1
  have x0 := hx 0 _ rfl
  have x1 := hx 1 _ rfl
  have x2 := hx 2 _ rfl
  have x3 := hx 3 _ rfl
  have x4 := hx 4 _ rfl
  have x5 := hx 5 _ rfl
  have hw1 := b1.size
  clear b1 HG HX hx
  cases ok with
  | false =>
    obtain rfl : F = [] := HF.out
    clear HC HF
    go_wp2_with fail
    go_ret2
    exact ⟨_, rfl, World.ownsRow_lit (base := w.heap.size) (e := 9) (size := 1) w1 #[] 0 (by omega) (by decide) (by simp), B1.out.alloc B1.out.size _⟩
  | true =>
    obtain rfl : F = Z := HF.out
    have HY := Lib.hid (HC.out rfl w1 B1.out)
    clear HC HF
    go_wp2_with fail
    refine HY.out.mono ?_
    rintro e w2 ⟨g, c2, rfl, o2, b2⟩
    have B2 := Lib.hid (B1.out.trans (b2.mono B1.out.size))
    have hw2 := b2.size
    have HS := Lib.hid (sorted_i g c2 W.length W w1.heap.size w2 o2 hul2)
    have hg2 := (o2.lt g rfl).1
    clear b2 B1 HY o2 x0 x1 x2 x3 x4 x5
    have hlw : W.length ≤ 2000000 := by omega
    obtain ⟨nW, HnW⟩ : ∃ nW, Hid (nW = W.length) := ⟨_, Lib.hid rfl⟩
    rw [← HnW.out] at HS hlw hul2 ⊢
    go_wp2_with fail
    refine HS.out.mono ?_
    rintro e w3 ⟨rfl, o3, g3⟩
    have B3 := Lib.hid (B2.out.grown g3 (by omega) (fun q hq => by cases hq; omega))
    have hw3 := g3.size
    have HK := Lib.hid (compact_i g c2 nW (msort W) w1.heap.size w3 o3 (by omega))
    rw [← HE.out] at HK
    have hlc : F.length ≤ 2000000 := by have := HlZ.out; have := HnW.out; omega
    clear HS B2 g3 o3
    go_wp2_with fail
    refine HK.out.mono ?_
    rintro e w4 ⟨rfl, o4, g4⟩
    have B4 := Lib.hid (B3.out.grown g4 (by omega) (fun q hq => by cases hq; omega))
    have O4 : Hid (w4.ownsRow w.heap.size 9 1 (.slice (some ⟨g, 0, none⟩) F.length c2) F.length (F.map encStr)) := Lib.hid (by
      rcases o4.2 with ⟨h0, _⟩ | ⟨g', cap, cur, h0, hb, h9⟩
      · cases h0
      · exact ⟨o4.1, .inr ⟨g', cap, cur, h0, by omega, h9⟩⟩)
    clear g4 o4 HK HE
    go_wp2_with fail
    go_ret2
    exact ⟨_, rfl, O4.out, B4.out⟩
set_option maxRecDepth 100000 in
set_option maxHeartbeats 4000000 in
theorem used_s (nm : Int) (x : Tr) (B : Option Addr) (c d : Nat) (w : World) (hr : RdL d w B x.ps) (hz : szT x ≤ 1048576) :
    Calls Tryd.prog 5 #[stV nm x.op x.wd x.tx x.af B x.ps.length c] w fun e w' => ∃ g cc, e = .returned (.tuple #[.slice (some ⟨g, 0, none⟩) (fuL nm x).length cc, .bool (gdB nm x)]) ∧ Rd1 w' g (fuL nm x) ∧ Below w.heap.size w w' := by
  obtain ⟨ok, hok⟩ : ∃ ok, gdB nm x = ok := ⟨_, rfl⟩
  have HG := Lib.hid (fun w1 (h : Below w.heap.size w w1) => good_s nm x B c d w1 (hr.below h) hz ok hok)
  have HF : Hid (fuL nm x = if ok = true then srt (uwT x) else []) := Lib.hid (by unfold fuL; rw [hok])
  have hul := uwT_len x
  have HC : Hid (∀ w1 g cl, Below w.heap.size w w1 → Rd1 w1 g [] → Calls Tryd.prog 15 #[ndV x.op x.wd x.tx x.af B x.ps.length c, .slice (some ⟨g, 0, none⟩) 0 cl] w1 (AdPost w1 (srt (uwT x)))) := Lib.hid (fun w1 g cl h h2 => by
    have := us_all d x B c w1 g cl 0 [] (hr.below h) hz h2 rfl (Nat.zero_le _) (by omega)
    rwa [srt_eq] at this)
  rw [hok]
  clear hr hz hok hul
  generalize fuL nm x = F at *
  generalize srt (uwT x) = Z at *
  obtain ⟨op, wd, tx, af, ps⟩ := x
  simp only [Tr.op, Tr.wd, Tr.tx, Tr.af, Tr.ps] at *
  generalize ps.length = n at *
  have HX := Lib.hid (Bx.new w #[.int .i64 nm, .int .i64 op, .string wd, .string tx, .string af, .slice B n c] 35)
  have HB := Lib.hid (box_below w (.cells #[.int .i64 nm, .int .i64 op, .string wd, .string tx, .string af, .slice B n c] 35))
  go_enter Tryd.func5, Tryd.ntmps5
  go_wp2_with fail
  generalize w.alloc _ = w0 at HB HX ⊢
  refine (HG.out _ HB.out).mono ?_
  rintro e w1 ⟨rfl, b1⟩
  have B1 := Lib.hid (HB.out.trans (b1.mono HB.out.size))
  obtain ⟨hxl, hx⟩ := HX.out.below b1
  have x0 := hx 0 _ rfl
  have x1 := hx 1 _ rfl
  have x2 := hx 2 _ rfl
  have x3 := hx 3 _ rfl
  have x4 := hx 4 _ rfl
  have x5 := hx 5 _ rfl
  clear b1 HG HX hx
  cases ok with
  | false =>
    obtain rfl : F = [] := HF.out
    clear HC HF
    go_wp2_with fail
    go_ret2
    exact ⟨_, _, rfl, ⟨by simp, fun j y hy => by simp at hy⟩, B1.out.alloc B1.out.size _⟩
  | true =>
    obtain rfl : F = Z := HF.out
    clear HF
    have HY := Lib.hid (HC.out (w1.alloc (.cells #[] 9)) w1.heap.size 0 (B1.out.alloc B1.out.size _) ⟨by simp, fun j y hy => by simp at hy⟩)
    have B2 := Lib.hid (B1.out.alloc B1.out.size (.cells #[] 9))
    clear HC B1
    go_wp2_with fail
    refine HY.out.mono ?_
    rintro e w2 ⟨g, c2, rfl, r2, -, b2⟩
    have B3 := Lib.hid (B2.out.trans (b2.mono B2.out.size))
    have HR2 := Lib.hid r2
    clear b2 B2 HY r2
    go_wp2_with fail
    go_ret2
    exact ⟨_, _, rfl, HR2.out, B3.out⟩
end Go.Proofs.YtbibjcmfgpmddaaDoor.Nd
