/-
  Drawing functions of chapter 11: DrawJoinTwo, DrawJoinParts.
-/
import Derived.Test.YtnijmhhigkbddaaDoorDm
import Derived.Test.YtnijmhhigkbddaaDoorDjS
namespace Go.Proofs.YtnijmhhigkbddaaDoor.Dm
open Go.RowKit Pl Cur Draw0 DjS
set_option linter.unusedVariables false
set_option linter.unusedSimpArgs false

def TwoStr (m : Nat) (w : World) (e : Ending) (w' : World) : Prop := ∃ x y : ByteArray, x.size ≤ m ∧ y.size ≤ m ∧ e = .returned (.tuple #[.string x, .string y]) ∧ Below w.heap.size w w'
set_option maxHeartbeats 1000000 in
theorem drawTwo_any (A : Option Addr) (n c : Nat) (w : World) (hn : n ≤ 65536) (hr : RdB w A n) (ha : Apart A n w.heap.size) :
    Calls Tryd.prog 5 #[.slice A n c] w (TwoStr 61 w) := by
  have HR := Lib.hid (rdb_new hr ha (.cells #[.slice A n c, .int .i64 0, .int .u64 0] 41))
  have HA := Lib.hid ha
  have HC := Lib.hid (cur_new w A n c)
  clear hr ha
  go_enter Tryd.func5, Tryd.ntmps5
  go_wp2_with fail
  refine (marked_any w.heap.size A n c 0 0 _ (by omega) (by omega) HC.out HR.out HA.out).mono ?_
  rintro e w1 ⟨x, hx, rfl, ⟨k1, s1, hk1, hc1⟩, hg1⟩
  have HR1 := Lib.hid (HR.out.grown HA.out hg1)
  have HG1 := Lib.hid hg1
  clear hg1
  go_wp2_with fail
  refine (marked_any w.heap.size A n c k1 s1 _ (by omega) (by omega) hc1 HR1.out HA.out).mono ?_
  rintro e w2 ⟨y, hy, rfl, hl⟩
  have HB := Lib.hid (below_cur (below_new HG1.out) hl.2)
  clear hl
  go_wp2_with fail
  go_ret2
  exact ⟨x, y, hx, hy, rfl, HB.out⟩
def delims : List ByteArray := [⟨#[46, 32]⟩, ⟨#[44, 32]⟩, ⟨#[32]⟩, ⟨#[]⟩, ⟨#[59, 32]⟩, ⟨#[58, 32]⟩, ⟨#[10]⟩]
def ListStr (m q j : Nat) (w : World) (e : Ending) (w' : World) : Prop := ∃ (v : Value) (xs : List ByteArray) (y : ByteArray), (∀ x ∈ xs, x.size ≤ m) ∧ xs.length ≤ j ∧ y.size ≤ q ∧ e = .returned (.tuple #[v, .string y]) ∧ w'.ownsRow w.heap.size 9 1 v xs.length (xs.map Value.string) ∧ Below w.heap.size w w'
def sliceN : Value → Nat | .slice _ n _ => n | _ => 0
theorem txt_grown {w w' : World} {gl g : Nat} {xs : List ByteArray} (h : Txt w gl xs) (hg : w.grownBy w' (some g)) (hne : gl ≠ g) (m : Nat) : Txt w' gl (xs.take m) := by
  intro j x hx
  have hj : xs[j]? = some x := by
    rw [List.getElem?_take] at hx
    split at hx
    · exact hx
    · cases hx
  exact hg.cell (h j x hj) (by simpa using hne)
theorem dj_form {w wr : World} {A : Option Addr} {n c : Nat} {v : Value} {xs : List ByteArray} {km : Nat} (h : DJ w wr A n c v xs km) : ∃ a q, v = .slice a xs.length q := by
  rcases h.row.2 with ⟨rfl, h0⟩ | ⟨g, cap, cur, rfl, _⟩
  · exact ⟨none, 0, by rw [h0]⟩
  · exact ⟨_, _, rfl⟩
set_option maxRecDepth 100000 in
set_option maxHeartbeats 4000000 in
theorem drawParts_any (A : Option Addr) (n c : Nat) (w : World) (hn : n ≤ 65536) (hr : RdB w A n) (ha : Apart A n w.heap.size) :
    Calls Tryd.prog 9 #[.slice A n c] w (ListStr 4096 2 13 w) := by
  obtain ⟨i0, hi, hz0, hz1, hz2⟩ := info_parts DjS.infoStr
  have HR := Lib.hid hr
  have HA := Lib.hid ha
  have HR0 := Lib.hid (rdb_new (rdb_new hr ha (.cells #[.slice A n c, .int .i64 0, .int .u64 0] 41)) (fun hp a h => by have := ha hp a h; simp; omega) (.cells #[] 9))
  have HC := Lib.hid ((cur_new w A n c).alloc (.cells #[] 9))
  have hown0 := World.ownsRow_lit (base := w.heap.size + 1) (e := 9) (size := 1) (w.alloc (.cells #[.slice A n c, .int .i64 0, .int .u64 0] 41)) #[] 0 (by simp) (Nat.zero_le _) rfl
  have HB0 : Hid (Below w.heap.size w ((w.alloc (.cells #[.slice A n c, .int .i64 0, .int .u64 0] 41)).alloc (.cells #[] 9))) := Lib.hid (((Below.refl _ w).alloc (Nat.le_refl _) _).alloc (by simp) _)
  rw [World.size_alloc] at hown0
  have HO := Lib.hid hown0
  clear hr ha hown0
  go_enter Tryd.func9, Tryd.ntmps9
  go_wp2_with fail
  refine (pick_any 5 (by omega) (by omega) w.heap.size A n c 0 0 _ (by omega) (by omega) HC.out HR0.out HA.out).mono ?_
  rintro e w1 ⟨r, rfl, hr0, hr1, ⟨k1, s1, hk1, hc1⟩, hg1⟩
  obtain ⟨m, rfl⟩ := Int.eq_ofNat_of_zero_le hr0
  have HO1 := Lib.hid (own_cur HO.out hg1)
  have HB1 := Lib.hid (below_cur HB0.out hg1)
  clear HO HB0 HC HR0
  have hm : m ≤ 4 := by omega
  clear hr0 hr1
  have HC1 := Lib.hid hc1
  clear hc1 hg1
  have HD : Hid (DJ w w1 A n c (.slice (some ⟨w.heap.size + 1, 0, none⟩) 0 0) [] 2) := Lib.hid ⟨⟨k1, s1, by omega, HC1.out⟩, HO1.out, HB1.out, fun x hx => by cases hx⟩
  clear HC1 HO1 HB1 hk1
  go_wp2_with fail
  go_loopw [5, 6] (fun v i wr => ∃ (k : Nat) (xs : List ByteArray), k ≤ m ∧ i = .int .i64 k ∧ xs.length + k ≤ 4 ∧ Hid (DJ w wr A n c v xs (2 + 202 * (4 - k)))) (fun _ i _ => (intOf i).toNat)
  case atStart => exact ⟨m, [], Nat.le_refl _, rfl, by simpa using hm, Lib.hid (by obtain ⟨⟨a, b, h1, h2⟩, h3, h4, h5⟩ := HD.out; exact ⟨⟨a, b, by omega, h2⟩, h3, h4, h5⟩)⟩
  case round =>
    obtain ⟨k, xs, hk, rfl, hxl, HJ⟩ := hrel
    obtain ⟨kc, sc, hkc, hcur⟩ := HJ.out.cur
    have HCu := Lib.hid hcur
    clear hcur
    have HRr := Lib.hid (rdb_below HR.out HA.out HJ.out.below)
    by_cases hk0 : 0 < k
    · have hd : decide (0 < k) = true := by simpa using hk0
      obtain ⟨i, hi'⟩ : ∃ i, k = i + 1 := ⟨k - 1, by omega⟩
      have hw1 : IntKind.i64.wrap ((k : Int) - 1) = (i : Int) := by rw [IntWalk.i64_in _ (by omega)]; omega
      have HI := Lib.hid hi'
      clear hi'
      go_wp2_with fail
      refine (marked_any w.heap.size A n c kc sc _ (by omega) (by omega) HCu.out HRr.out HA.out).mono ?_
      rintro e w2 ⟨x, hx, rfl, hl⟩
      have HJ2 := Lib.hid (HJ.out.left hkc hl)
      clear hl HCu HRr HJ hkc
      obtain ⟨kd, sd, hkd, hcur2⟩ := HJ2.out.cur
      have HCu2 := Lib.hid hcur2
      have hw2 := hcur2.lt
      clear hcur2
      have HRr2 := Lib.hid (rdb_below HR.out HA.out HJ2.out.below)
      go_wp2_with fail
      refine (of_any (fun y => y.size ≤ 61) _ _ 5 [⟨#[]⟩, ⟨#[83, 109, 105, 116, 104, 44, 32, 74, 46]⟩, ⟨#[84, 105, 116, 108, 101, 63]⟩, ⟨#[50, 48, 48, 49]⟩, x] (by
        intro y hy
        simp at hy
        rcases hy with rfl | rfl | rfl | rfl | rfl
        all_goals first | exact hx | decide) rfl (by omega) (by omega) w.heap.size (by omega) A n c kd sd _ (by omega) (by omega) (HCu2.out.alloc _) (HRr2.out.alloc HA.out hw2 _) HA.out (Txt.lit rfl)).mono ?_
      rintro e w3 ⟨y, hy, rfl, hl⟩
      have HJ3 := Lib.hid ((HJ2.out.alloc _).left hkd hl)
      clear hl HJ2 HCu2 HRr2 hkd hw2
      have hbs : w.heap.size + 1 ≤ w3.heap.size := by obtain ⟨k', s', _, hc'⟩ := HJ3.out.cur; exact hc'.lt
      go_wp2_with (first
        | (at_builtin; refine wpList_append_own _ rfl _ _ 29 rfl (w.heap.size + 1) 9 i0 (.string ByteArray.empty) 1 16 Tryd.underlying29 hi hz0 hz1 hz2 rfl (by decide) _ _ _ rfl (HJ3.out.row.alloc _) ⟨w3.heap.size, 0, none⟩ 1 1 [.string y] rfl rfl (cell_one_new _ _ _) (by simp [Value.oneCell']) (by unfold maxLen; omega) (by omega) (by simp; omega) ?_; intro v' w4 hown' hgrow _)
        | fail)
      go_roundw
      case rel => exact ⟨i, xs ++ [y], by have := HI.out; omega, by first | rfl | go_num, by have := HI.out; simp; omega, Lib.hid (by
        obtain ⟨⟨a, b, h1, h2⟩, h3, h4, h5⟩ := (HJ3.out.alloc _).append (by omega) hown' hgrow
        exact ⟨⟨a, b, by have := HI.out; omega, h2⟩, h3, h4, h5⟩)⟩
      case measure => simp [intOf]; have := HI.out; omega
    · have hd : decide (0 < k) = false := by simpa using hk0
      go_wp2_with fail
      refine (one_any 40 (by omega) (by omega) w.heap.size A n c kc sc _ (by omega) (by omega) HCu.out HRr.out HA.out).mono ?_
      rintro e w2 ⟨b, rfl, hl⟩
      have HJ2 := Lib.hid (HJ.out.left hkc hl)
      clear hl HJ HCu HRr hkc
      have hxl4 : xs.length ≤ 4 := by omega
      cases b with
      | false =>
        generalize w2 = wf at *
        have HJf : Hid (DJ w wf A n c _ xs (2 + 202 * (4 - k) + 2)) := HJ2
        obtain ⟨a5, q5, rfl⟩ := dj_form HJf.out
        obtain ⟨ke, se, hke, hcur5⟩ := HJf.out.cur
        have hw5 := hcur5.lt
        have HJg : Hid (DJ w (wf.alloc (.cells #[.string ⟨#[46, 32]⟩, .string ⟨#[44, 32]⟩, .string ⟨#[32]⟩, .string ⟨#[]⟩, .string ⟨#[59, 32]⟩, .string ⟨#[58, 32]⟩, .string ⟨#[10]⟩] 9)) A n c (.slice a5 xs.length q5) xs (2 + 202 * (4 - k) + 2)) := Lib.hid (HJf.out.alloc _)
        have HTx : Hid (Txt (wf.alloc (.cells #[.string ⟨#[46, 32]⟩, .string ⟨#[44, 32]⟩, .string ⟨#[32]⟩, .string ⟨#[]⟩, .string ⟨#[59, 32]⟩, .string ⟨#[58, 32]⟩, .string ⟨#[10]⟩] 9)) wf.heap.size delims) := Lib.hid (Txt.lit rfl)
        have HCu6 : Hid (IsCur (wf.alloc (.cells #[.string ⟨#[46, 32]⟩, .string ⟨#[44, 32]⟩, .string ⟨#[32]⟩, .string ⟨#[]⟩, .string ⟨#[59, 32]⟩, .string ⟨#[58, 32]⟩, .string ⟨#[10]⟩] 9)) w.heap.size A n c ke se) := Lib.hid (hcur5.alloc _)
        have HRr6 : Hid (RdB (wf.alloc (.cells #[.string ⟨#[46, 32]⟩, .string ⟨#[44, 32]⟩, .string ⟨#[32]⟩, .string ⟨#[]⟩, .string ⟨#[59, 32]⟩, .string ⟨#[58, 32]⟩, .string ⟨#[10]⟩] 9)) A n) := Lib.hid ((rdb_below HR.out HA.out HJf.out.below).alloc HA.out hw5 _)
        have HNe : Hid (wf.heap.size ≠ w.heap.size) := Lib.hid (by omega)
        clear HJf hcur5
        go_wp2_with fail
        refine (pick_any 24 (by omega) (by omega) w.heap.size A n c ke se _ (by omega) (by omega) HCu6.out HRr6.out HA.out).mono ?_
        rintro e w7 ⟨r, rfl, hr0, hr1, hl⟩
        have HJ7 := Lib.hid (HJg.out.left hke hl)
        have HT7 := Lib.hid (fun m => txt_grown HTx.out hl.2 HNe.out m)
        obtain ⟨r, rfl⟩ := Int.eq_ofNat_of_zero_le hr0
        clear hl HJg HTx HCu6 HRr6 hke hr0 hw5
        obtain ⟨kf, sf, hkf, hcur7⟩ := HJ7.out.cur
        have HCu7 := Lib.hid hcur7
        have HRr7 := Lib.hid (rdb_below HR.out HA.out HJ7.out.below)
        clear hcur7
        by_cases h23 : r = 23
        · subst h23
          go_wp2_with fail
          refine (of_any (fun y => y.size ≤ 2) _ _ 7 (delims.take 7) (by decide) rfl (by omega) (by omega) w.heap.size HNe.out A n c kf sf _ (by omega) (by omega) HCu7.out HRr7.out HA.out (HT7.out 7)).mono ?_
          rintro e w8 ⟨y, hy, rfl, hl⟩
          have HF := Lib.hid (HJ7.out.left hkf hl)
          clear hl
          go_wp2_with fail
          go_ret2
          exact ⟨_, xs, y, HF.out.small, by omega, hy, rfl, own_base HF.out.row (by omega), HF.out.below⟩
        · have hq : Int.tdiv (r : Int) 23 = 0 := by
            rw [Int.tdiv_eq_ediv_of_nonneg (by omega)]; omega
          have hq2 : (r : Int) / 23 = 0 := by omega
          clear h23
          go_wp2_with fail
          refine (of_any (fun y => y.size ≤ 2) _ _ 6 (delims.take 6) (by decide) rfl (by omega) (by omega) w.heap.size HNe.out A n c kf sf _ (by omega) (by omega) HCu7.out HRr7.out HA.out (HT7.out 6)).mono ?_
          rintro e w8 ⟨y, hy, rfl, hl⟩
          have HF := Lib.hid (HJ7.out.left hkf hl)
          clear hl
          go_wp2_with fail
          go_ret2
          exact ⟨_, xs, y, HF.out.small, by omega, hy, rfl, own_base HF.out.row (by omega), HF.out.below⟩
      | true =>
        go_wp2_with fail
        go_loopw [5] (fun v wr => ∃ xs : List ByteArray, xs.length ≤ 13 ∧ Hid (DJ w wr A n c v xs (900 + 4 * xs.length))) (fun v _ => 13 - sliceN v)
        case atStart => exact ⟨xs, by omega, Lib.hid (by
          obtain ⟨⟨a, b, h1, h2⟩, h3, h4, h5⟩ := HJ2.out
          exact ⟨⟨a, b, by omega, h2⟩, h3, h4, h5⟩)⟩
        case round =>
          clear HJ2
          rename_i u5 wr
          obtain ⟨xs, hxl13, HJr⟩ := hrel
          obtain ⟨a4, q4, rfl⟩ := dj_form HJr.out
          obtain ⟨kc, sc, hkc, hcur⟩ := HJr.out.cur
          have HCu := Lib.hid hcur
          clear hcur
          have HRr := Lib.hid (rdb_below HR.out HA.out HJr.out.below)
          go_wp2_with fail
          refine (pick_any 2 (by omega) (by omega) w.heap.size A n c kc sc _ (by omega) (by omega) HCu.out HRr.out HA.out).mono ?_
          rintro e w3 ⟨r, rfl, hr0, hr1, hl⟩
          obtain ⟨r, rfl⟩ := Int.eq_ofNat_of_zero_le hr0
          have HJ3 := Lib.hid (HJr.out.left hkc hl)
          clear hl HJr HCu HRr hkc hr0
          have hw1 : IntKind.i64.wrap ((12 : Int) + (r : Int)) = ((12 + r : Nat) : Int) := by rw [IntWalk.i64_in _ (by omega)]; omega
          by_cases hlt : xs.length < 12 + r
          · have hbs : w.heap.size + 1 ≤ w3.heap.size := by obtain ⟨k', s', _, hc'⟩ := HJ3.out.cur; exact hc'.lt
            go_wp2_with (first
              | (at_builtin; refine wpList_append_own _ rfl _ _ 29 rfl (w.heap.size + 1) 9 i0 (.string ByteArray.empty) 1 16 Tryd.underlying29 hi hz0 hz1 hz2 rfl (by decide) _ _ _ rfl (HJ3.out.row.alloc _) ⟨w3.heap.size, 0, none⟩ 1 1 [.string ⟨#[97]⟩] rfl rfl (cell_one_new _ _ _) (by simp [Value.oneCell']) (by unfold maxLen; omega) (by omega) (by simp; omega) ?_; intro v' w4 hown' hgrow _)
              | fail)
            have HJ4 := Lib.hid ((HJ3.out.alloc _).append (x := ⟨#[97]⟩) (by decide) hown' hgrow)
            obtain ⟨a6, q6, rfl⟩ := dj_form HJ4.out
            have hz : (xs ++ [(⟨#[97]⟩ : ByteArray)]).length = xs.length + 1 := by simp
            have HZ := Lib.hid hz
            clear hz
            go_roundw
            case rel => exact ⟨xs ++ [⟨#[97]⟩], by rw [HZ.out]; omega, Lib.hid (by
              obtain ⟨⟨a, b, h1, h2⟩, h3, h4, h5⟩ := HJ4.out
              exact ⟨⟨a, b, by rw [HZ.out]; omega, h2⟩, h3, h4, h5⟩)⟩
            case measure =>
              show 13 - (xs ++ [(⟨#[97]⟩ : ByteArray)]).length < 13 - xs.length
              rw [HZ.out]; omega
          · generalize w3 = wf at *
            have HJf : Hid (DJ w wf A n c _ xs (900 + 4 * xs.length + 2)) := HJ3
            have hd12 : decide ((xs.length : Int) < ((12 + r : Nat) : Int)) = false := by simp; omega
            obtain ⟨ke, se, hke, hcur5⟩ := HJf.out.cur
            have hw5 := hcur5.lt
            have HJg : Hid (DJ w (wf.alloc (.cells #[.string ⟨#[46, 32]⟩, .string ⟨#[44, 32]⟩, .string ⟨#[32]⟩, .string ⟨#[]⟩, .string ⟨#[59, 32]⟩, .string ⟨#[58, 32]⟩, .string ⟨#[10]⟩] 9)) A n c (.slice a4 xs.length q4) xs (900 + 4 * xs.length + 2)) := Lib.hid (HJf.out.alloc _)
            have HTx : Hid (Txt (wf.alloc (.cells #[.string ⟨#[46, 32]⟩, .string ⟨#[44, 32]⟩, .string ⟨#[32]⟩, .string ⟨#[]⟩, .string ⟨#[59, 32]⟩, .string ⟨#[58, 32]⟩, .string ⟨#[10]⟩] 9)) wf.heap.size delims) := Lib.hid (Txt.lit rfl)
            have HCu6 : Hid (IsCur (wf.alloc (.cells #[.string ⟨#[46, 32]⟩, .string ⟨#[44, 32]⟩, .string ⟨#[32]⟩, .string ⟨#[]⟩, .string ⟨#[59, 32]⟩, .string ⟨#[58, 32]⟩, .string ⟨#[10]⟩] 9)) w.heap.size A n c ke se) := Lib.hid (hcur5.alloc _)
            have HRr6 : Hid (RdB (wf.alloc (.cells #[.string ⟨#[46, 32]⟩, .string ⟨#[44, 32]⟩, .string ⟨#[32]⟩, .string ⟨#[]⟩, .string ⟨#[59, 32]⟩, .string ⟨#[58, 32]⟩, .string ⟨#[10]⟩] 9)) A n) := Lib.hid ((rdb_below HR.out HA.out HJf.out.below).alloc HA.out hw5 _)
            have HNe : Hid (wf.heap.size ≠ w.heap.size) := Lib.hid (by omega)
            clear HJf hcur5
            go_wp2_with fail
            refine (pick_any 24 (by omega) (by omega) w.heap.size A n c ke se _ (by omega) (by omega) HCu6.out HRr6.out HA.out).mono ?_
            rintro e w7 ⟨r2, rfl, hr0, hr12, hl⟩
            have HJ7 := Lib.hid (HJg.out.left hke hl)
            have HT7 := Lib.hid (fun m => txt_grown HTx.out hl.2 HNe.out m)
            obtain ⟨r2, rfl⟩ := Int.eq_ofNat_of_zero_le hr0
            clear hl HJg HTx HCu6 HRr6 hke hr0 hw5
            obtain ⟨kf, sf, hkf, hcur7⟩ := HJ7.out.cur
            have HCu7 := Lib.hid hcur7
            have HRr7 := Lib.hid (rdb_below HR.out HA.out HJ7.out.below)
            clear hcur7
            by_cases h23 : r2 = 23
            · subst h23
              go_wp2_with fail
              refine (of_any (fun y => y.size ≤ 2) _ _ 7 (delims.take 7) (by decide) rfl (by omega) (by omega) w.heap.size HNe.out A n c kf sf _ (by omega) (by omega) HCu7.out HRr7.out HA.out (HT7.out 7)).mono ?_
              rintro e w8 ⟨y, hy, rfl, hl⟩
              have HF := Lib.hid (HJ7.out.left hkf hl)
              clear hl
              go_wp2_with fail
              go_ret2
              exact ⟨_, xs, y, HF.out.small, by omega, hy, rfl, own_base HF.out.row (by omega), HF.out.below⟩
            · have hq : Int.tdiv (r2 : Int) 23 = 0 := by
                rw [Int.tdiv_eq_ediv_of_nonneg (by omega)]; omega
              have hq2 : (r2 : Int) / 23 = 0 := by omega
              clear h23
              go_wp2_with fail
              refine (of_any (fun y => y.size ≤ 2) _ _ 6 (delims.take 6) (by decide) rfl (by omega) (by omega) w.heap.size HNe.out A n c kf sf _ (by omega) (by omega) HCu7.out HRr7.out HA.out (HT7.out 6)).mono ?_
              rintro e w8 ⟨y, hy, rfl, hl⟩
              have HF := Lib.hid (HJ7.out.left hkf hl)
              clear hl
              go_wp2_with fail
              go_ret2
              exact ⟨_, xs, y, HF.out.small, by omega, hy, rfl, own_base HF.out.row (by omega), HF.out.below⟩
end Go.Proofs.YtnijmhhigkbddaaDoor.Dm
