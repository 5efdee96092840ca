/-
  Contracts of the texts of lists of ranges: pagesText, FormatPages; l7List, FormatPages of the model.
-/
import Derived.Test.YtocgpoafhocbbaaDoorPgF
import Derived.Test.YtocgpoafhocbbaaDoorPgHr
namespace Go.Proofs.YtocgpoafhocbbaaDoor.PgF
open Go.RowKit Pl ReadPl PgPl PgTx Pg Num Cs
set_option linter.unusedSimpArgs false
set_option linter.unusedVariables false

theorem eq_ba {a : ByteArray} {l : List UInt8} (h : a.data.toList = l) : a = ba l := by rw [← h, ba_toList]
theorem cat_ba (a b : ByteArray) : (a ++ b).data.toList = a.data.toList ++ b.data.toList := by simp

set_option maxHeartbeats 2000000 in
theorem list_s (A : Option Addr) (c N : Nat) (L : List Pr) (w : World) (h : RdP w A L) (hn : L.length = N) (hN : N ≤ 8) (hok : ∀ x ∈ L, x.ok = true) :
    Calls Tryd.prog 26 #[.slice A N c] w fun e w' => e = .returned (.string (ba (lT L))) ∧ Below w.heap.size w w' := by
  have H := Lib.hid h
  have HN := Lib.hid hn
  have HK := Lib.hid hok
  clear h hn hok
  go_enter Tryd.func26, Tryd.ntmps26
  go_wp2_with fail
  go_loopw [3, 4] (fun v i wr => ∃ (k : Nat) (o : ByteArray), k ≤ N ∧ i = .int .i64 k ∧ v = .string o ∧ Hid (o.data.toList = lT (L.take k)) ∧ o.size ≤ 15 * k ∧ Below w.heap.size w wr) (fun _ i _ => N - (intOf i).toNat)
  case atStart => exact ⟨0, ⟨#[]⟩, Nat.zero_le _, rfl, rfl, Lib.hid rfl, by simp [ByteArray.size], Below.refl _ _⟩
  case round =>
    obtain ⟨k, o, hk, rfl, rfl, HO, ho, hb⟩ := hrel
    by_cases hlt : k < N
    · have hkx : k < L.length := by rw [HN.out]; exact hlt
      have hx? := List.getElem?_eq_getElem hkx
      obtain ⟨g, of, rfl, hg, c0, c1, c2⟩ := (H.out.below hb) k L[k] hx?
      have hokx := HK.out _ (List.getElem_mem hkx)
      have HT : Hid (L.take (k + 1) = L.take k ++ [L[k]]) := Lib.hid (List.take_succ_eq_append_getElem hkx)
      have hTl := T_len hokx
      clear hx?
      obtain ⟨f, t, e1, e2, hf, ht, hft, h1, hl⟩ := ok_nat hokx
      have HTx : Hid (T L[k] = rT L[k].l.data.toList f t) := Lib.hid (by unfold T; rw [e1, e2]; rfl)
      rw [e1] at c1
      rw [e2] at c2
      generalize hlx : L[k].l = l at *
      have HX : Hid (T L[k] = (ba (rT l.data.toList f t)).data.toList) := Lib.hid (by rw [HTx.out, toList_ba])
      have hz : (ba (rT l.data.toList f t)).size ≤ 13 := by rw [ba_size, ← HTx.out]; exact hTl
      have HC := Lib.hid (fun w => text_s l f t w hl hf ht)
      clear HTx hTl e1 e2 hlx hokx h1 hft
      generalize ba (rT l.data.toList f t) = q at *
      generalize L[k] = x at *
      by_cases hk0 : 0 < k
      · have HJ : Hid (lT (L.take (k + 1)) = lT (L.take k) ++ [44, 32] ++ T x) := Lib.hid (by
          rw [HT.out]
          exact lT_snoc (fun e => by have := congrArg List.length e; rw [List.length_take, List.length_nil] at this; omega) x)
        have hz2 : (o ++ (⟨#[44, 32]⟩ : ByteArray)).size ≤ 15 * k + 2 := by rw [ByteArray.size_append, two44]; omega
        go_wp2_with fail
        refine (HC.out _).mono ?_
        rintro e w1 ⟨rfl, b1⟩
        have hb1 := hb.trans (b1.mono hb.size)
        clear b1
        go_wp2_with fail
        go_roundw
        case rel =>
          refine ⟨k + 1, _, by omega, by go_num, rfl, Lib.hid ?_, ?_, hb1⟩
          · rw [HJ.out, ← HO.out, HX.out, cat_ba, cat_ba]
          · rw [ByteArray.size_append]; omega
        case measure => simp [intOf]; omega
      · obtain rfl : k = 0 := by omega
        have HJ : Hid (lT (L.take (0 + 1)) = lT (L.take 0) ++ T x) := Lib.hid (by
          rw [HT.out]
          exact (lT_one x).trans (by simp [lT, Lib.join_nil]))
        simp only [Nat.zero_mul, Nat.add_zero] at c0 c1 c2
        go_wp2_with fail
        refine (HC.out _).mono ?_
        rintro e w1 ⟨rfl, b1⟩
        have hb1 := hb.trans (b1.mono hb.size)
        clear b1
        go_wp2_with fail
        go_roundw
        case rel =>
          refine ⟨0 + 1, _, by omega, by go_num, rfl, Lib.hid ?_, ?_, hb1⟩
          · rw [HJ.out, ← HO.out, HX.out, cat_ba]
          · rw [ByteArray.size_append]; omega
        case measure => simp [intOf]; omega
    · have HX : Hid (o = ba (lT L)) := Lib.hid (by
        have := HO.out
        rw [List.take_of_length_le (by rw [HN.out]; omega)] at this
        exact eq_ba this)
      go_wp2_with fail
      go_ret
      exact ⟨by rw [HX.out]; rfl, hb⟩

theorem map_ba (xs : List (List UInt8)) : ((xs.map ba).map fun x => x.data.toList) = xs := by
  rw [List.map_map]
  exact (List.map_congr_left (fun x _ => by simp [toList_ba])).trans (List.map_id _)
/-- strings.Join of a row of the call's own, at a comma and a space -/
theorem join_own {w : World} {base : Nat} {e : TypeId} {v : Value} {xs : List (List UInt8)} (h : w.ownsRow base e 1 v xs.length (cs xs)) (hn : xs.length ≤ 1048576) (hl : (Lib.join xs [44, 32]).length ≤ 1048576) :
    Calls Tryd.prog 38 #[v, .string ⟨#[44, 32]⟩] w fun e w' => e = .returned (.string (ba (Lib.join xs [44, 32]))) ∧ Below w.heap.size w w' := by
  rcases own_cells h with ⟨rfl, rfl⟩ | ⟨g, c, rfl, _, hg, hc, hx⟩
  · exact (Tryd.strings_Join_none none 0 ⟨#[44, 32]⟩ w).mono fun e w' ⟨he, hw⟩ => ⟨he, hw ▸ Below.refl _ _⟩
  · have e1 : (((xs).map ba).map fun x => x.data.toList) = xs := map_ba _
    have e2 : (ByteArray.mk #[44, 32]).data.toList = [44, 32] := rfl
    have := Tryd.strings_Join g 0 c (xs.map ba) ⟨#[44, 32]⟩ w (fun j y hy => by
      rw [List.getElem?_map] at hy
      cases hz : xs[j]? with
      | none => rw [hz] at hy; cases hy
      | some z =>
        rw [hz] at hy
        simp at hy
        rw [← hy, Nat.zero_add]
        exact hx j z hz) hg (by rw [List.length_map]; omega) (by rw [List.length_map]; exact hc) (by rw [e1, e2]; omega)
    rw [List.length_map, e1, e2] at this
    exact this

set_option maxRecDepth 100000 in
set_option maxHeartbeats 2000000 in
theorem text_i (A : Option Addr) (c N : Nat) (L : List Pr) (w : World) (h : RdP w A L) (hn : L.length = N) (hN : N ≤ 8) (hok : ∀ x ∈ L, x.ok = true) (hT : Tab w) :
    Calls Tryd.prog 24 #[.slice A N c] w fun e w' => e = .returned (.string (ba (lT L))) ∧ Below w.heap.size w w' := by
  obtain ⟨i0, hi, hz0, hz1, hz2⟩ := info_parts infoStr
  have H := Lib.hid h
  have HN := Lib.hid hn
  have HK := Lib.hid hok
  have HTb := Lib.hid hT
  have HJl : Hid ((Lib.join (L.map T) [44, 32]).length ≤ 1048576) := Lib.hid (by have := lT_len hok; unfold lT at this; omega)
  clear h hn hok hT
  have hown0 := World.ownsRow_lit (base := w.heap.size) (e := 9) (size := 1) w #[] 0 (Nat.le_refl _) (by decide) (by simp)
  have HO0 : Hid ((w.alloc (.cells #[] 9)).ownsRow w.heap.size 9 1 (.slice (some ⟨w.heap.size, 0, none⟩) 0 0) 0 (cs [])) := Lib.hid (by simpa [cs] using hown0)
  have HB0 := Lib.hid (box_below w (.cells #[] 9))
  clear hown0
  go_enter Tryd.func24, Tryd.ntmps24
  go_wp2_with fail
  go_loopw [3, 9] (fun v i wr => ∃ (k : Nat), k ≤ N ∧ i = .int .i64 k ∧ Hid (wr.ownsRow w.heap.size 9 1 v k (cs ((L.take k).map T))) ∧ Below w.heap.size w wr) (fun _ i _ => N - (intOf i).toNat)
  case atStart => exact ⟨0, Nat.zero_le _, rfl, HO0, HB0.out⟩
  case round =>
    obtain ⟨k, hk, rfl, HO, hb⟩ := hrel
    by_cases hlt : k < N
    · have hkx : k < L.length := by rw [HN.out]; exact hlt
      have hx? := List.getElem?_eq_getElem hkx
      obtain ⟨g, of, rfl, hg, c0, c1, c2⟩ := (H.out.below hb) k L[k] hx?
      have hokx := HK.out _ (List.getElem_mem hkx)
      have HT : Hid (L.take (k + 1) = L.take k ++ [L[k]]) := Lib.hid (List.take_succ_eq_append_getElem hkx)
      clear hx?
      obtain ⟨f, t, e1, e2, hf, ht, hft, h1, hl⟩ := ok_nat hokx
      have HTx : Hid (T L[k] = rT L[k].l.data.toList f t) := Lib.hid (by unfold T; rw [e1, e2]; rfl)
      rw [e1] at c1
      rw [e2] at c2
      generalize hlx : L[k].l = l at *
      have HC := Lib.hid (fun w hw => range_i l f t w hl hf ht hw)
      have HX : Hid (ba (rT l.data.toList f t) = ba (T L[k])) := Lib.hid (by rw [HTx.out])
      clear HTx e1 e2 hlx hokx h1 hft
      rw [HX.out] at HC
      generalize L[k] = x at *
      have HCs : Hid (cs ((L.take (k + 1)).map T) = cs ((L.take k).map T) ++ [.string (ba (T x))]) := Lib.hid (by rw [HT.out, List.map_append, List.map_cons, List.map_nil, cs_snoc])
      have hbx := hb.alloc hb.size (.cells #[.string l, .int .i64 (f : Int), .int .i64 (t : Int)] 34)
      have HTx := Lib.hid (HTb.out.below hbx)
      have HOx := Lib.hid (own_below HO.out (box_below wr (.cells #[.string l, .int .i64 (f : Int), .int .i64 (t : Int)] 34)))
      have HBx := Lib.hid hbx
      clear hbx
      generalize ba (T x) = o at *
      go_wp2_with fail
      refine (HC.out _ HTx.out).mono ?_
      rintro e w1 ⟨rfl, b1⟩
      have hb1 := HBx.out.trans (b1.mono HBx.out.size)
      have hown1 := own_below HOx.out b1
      have hs1 := hb1.size
      clear b1
      go_wp2_with (first
        | (at_builtin; refine wpList_append_own _ rfl _ _ 48 rfl w.heap.size 9 i0 (.string ByteArray.empty) 1 16 Tryd.underlying48 hi hz0 hz1 hz2 rfl (by decide) _ _ _ rfl (hown1.alloc _) ⟨w1.heap.size, 0, none⟩ 1 1 [.string o] rfl rfl (cell_one_new _ _ _) (by simp [Value.oneCell']) (by unfold maxLen; omega) (by omega) (by simp; omega) ?_; intro v' w2 hown' hgrow _))
      go_roundw
      case rel =>
        refine ⟨k + 1, by omega, by go_num, Lib.hid (by rw [HCs.out]; exact hown'), ?_⟩
        exact (hb1.alloc hb1.size _).grown hgrow (by have := hb1.size; simp; omega) (fun g hg => (hown1.lt g hg).1)
      case measure => simp [intOf]; omega
    · obtain rfl : k = N := by omega
      have HE : Hid ((L.take k).map T = L.map T) := Lib.hid (by rw [List.take_of_length_le (by rw [HN.out]; omega)])
      have hown := HO.out
      rw [HE.out] at hown
      have hlen : (L.map T).length = k := by rw [List.length_map, HN.out]
      have HJ := Lib.hid (join_own (by rw [hlen]; exact hown) (by omega) HJl.out)
      clear hown hlen
      go_wp2_with fail
      refine HJ.out.mono ?_
      rintro e w2 ⟨rfl, b2⟩
      go_wp2_with fail
      go_ret
      exact ⟨rfl, hb.trans (b2.mono hb.size)⟩

end Go.Proofs.YtocgpoafhocbbaaDoor.PgF
