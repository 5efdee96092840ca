/-
  Contracts of the drawing functions of chapter 1 that FnSplitJoin calls, and of LessString.
-/
import Derived.Test.YtbfnfhaefhklaaaRows
import Derived.Test.YtbfnfhaefhklaaaPlain
import Derived.Test.YtbfnfhaefhklaaaSplit
import Derived.Test.YtbfnfhaefhklaaaStrs
import Derived.Test.YtbfnfhaefhklaaaHelp
import Derived.Test.YtbfnfhaefhklaaaCur
import Derived.WalkKit
import Derived.LoopTactic
import Derived.Lib.Hide
import Derived.Laws.BytesArg
import Derived.Maps.AppendAt
namespace Go.Proofs.Ytbfnfhaefhklaaa.Draw1
open Go.RowKit Pl Cur Strs Help

/-- a new cursor -/
theorem cur_new (w : World) (A : Option Addr) (n c : Nat) : IsCur (w.alloc (.cells #[.slice A n c, .int .i64 0, .int .u64 0] 44)) w.heap.size A n c 0 0 := World.alloc_heap_new w _
theorem rdb_new {w : World} {A : Option Addr} {n : Nat} (h : RdB w A n) (ha : Apart A n w.heap.size) (o : Obj) : RdB (w.alloc o) A n := by
  intro j hj
  obtain ⟨b, of, z, rfl, hc, hz⟩ := h j hj
  refine ⟨b, of, z, rfl, ?_, hz⟩
  have := ha (by omega) _ rfl
  simp at this
  rw [World.cell?_alloc_lt w o ⟨b, of + j, none⟩ (by simp; omega)]
  exact hc
theorem below_new {w w' : World} {o : Obj} (h : (w.alloc o).grownBy w' (some w.heap.size)) : Below w.heap.size w w' :=
  ((Below.refl _ w).alloc (Nat.le_refl _) o).grown h (by simp) (fun k e => by cases e; exact Nat.le_refl _)

theorem rdb_below {w w' : World} {A : Option Addr} {n : Nat} (h : RdB w A n) (ha : Apart A n w.heap.size) (hb : Below w.heap.size w w') : RdB w' A n := by
  intro j hj
  obtain ⟨b, of, z, rfl, hc, hz⟩ := h j hj
  have := ha (by omega) _ rfl
  simp at this
  exact ⟨b, of, z, rfl, (hb.cell (p := ⟨b, of + j, none⟩) this).trans hc, hz⟩
theorem below_cur {w w1 w' : World} (hb : Below w.heap.size w w1) (h : w1.grownBy w' (some w.heap.size)) : Below w.heap.size w w' :=
  hb.grown h hb.size (fun k e => by cases e; exact Nat.le_refl _)

def TwoStr (P Q : ByteArray → Prop) (w : World) (e : Ending) (w' : World) : Prop := ∃ x y, P x ∧ Q y ∧ e = .returned (.tuple #[.string x, .string y]) ∧ Below w.heap.size w w'

set_option maxHeartbeats 1000000 in
theorem drawSplit_any (A : Option Addr) (n c : Nat) (w : World) (hn : n ≤ 65536) (hr : RdB w A n) (ha : Apart A n w.heap.size) :
    Calls Try.prog 9 #[.slice A n c] w (TwoStr (fun x => x.size ≤ 16) (fun y => y.size ≤ 2) w) := by
  have HR := Lib.hid (rdb_new hr ha (.cells #[.slice A n c, .int .i64 0, .int .u64 0] 44))
  have HA := Lib.hid ha
  have HC := Lib.hid (cur_new w A n c)
  clear hr ha
  go_enter Try.func9, Try.ntmps9
  go_wp2_with fail
  refine (any1_any w.heap.size A n c 0 0 _ (by omega) (by omega) HC.out HR.out HA.out).mono ?_
  rintro e w1 ⟨x, hx, rfl, ⟨k1, s1, hk1, hc1⟩, hg1⟩
  have HR1 := Lib.hid (HR.out.grown HA.out hg1)
  go_wp2_with fail
  refine (of_any (fun x => x.size ≤ 2) _ _ 5 [⟨#[44]⟩, ⟨#[44]⟩, ⟨#[32]⟩, ⟨#[]⟩, ⟨#[44, 44]⟩] (by decide) rfl (by omega) (by omega) w.heap.size (by have := hc1.lt; omega) A n c k1 s1 _ (by omega) (by omega) (hc1.alloc _) (HR1.out.alloc HA.out hc1.lt _) HA.out (Txt.lit rfl)).mono ?_
  rintro e w2 ⟨y, hy, rfl, hl⟩
  have HLf := Lib.hid hl.alloc
  clear hl
  go_wp2_with fail
  go_ret2
  exact ⟨x, y, hx, hy, rfl, below_cur (below_new hg1) HLf.out.2⟩

set_option maxHeartbeats 1000000 in
theorem drawLess_any (A : Option Addr) (n c : Nat) (w : World) (hn : n ≤ 65536) (hr : RdB w A n) (ha : Apart A n w.heap.size) :
    Calls Try.prog 14 #[.slice A n c] w (TwoStr (fun x => x.size ≤ 16) (fun y => y.size ≤ 16) w) := by
  have HR := Lib.hid (rdb_new hr ha (.cells #[.slice A n c, .int .i64 0, .int .u64 0] 44))
  have HA := Lib.hid ha
  have HC := Lib.hid (cur_new w A n c)
  clear hr ha
  go_enter Try.func14, Try.ntmps14
  go_wp2_with fail
  refine (any1_any w.heap.size A n c 0 0 _ (by omega) (by omega) HC.out HR.out HA.out).mono ?_
  rintro e w1 ⟨x, hx, rfl, ⟨k1, s1, hk1, hc1⟩, hg1⟩
  have HR1 := Lib.hid (HR.out.grown HA.out hg1)
  go_wp2_with fail
  refine (any1_any w.heap.size A n c k1 s1 _ (by omega) (by omega) hc1 HR1.out HA.out).mono ?_
  rintro e w2 ⟨y, hy, rfl, hl⟩
  have HLf := Lib.hid hl
  clear hl
  go_wp2_with fail
  go_ret2
  exact ⟨x, y, hx, hy, rfl, below_cur (below_new hg1) HLf.out.2⟩

/-- the row of a list that is drawn lies behind the cursor -/
theorem own_cur {w1 w2 : World} {base : Nat} {e : TypeId} {v : Value} {n : Nat} {xs : List Value} (h : w1.ownsRow (base + 1) e 1 v n xs) (hg : w1.grownBy w2 (some base)) : w2.ownsRow (base + 1) e 1 v n xs := by
  refine h.kept hg ?_
  rcases hb : v.ownBlock with _ | k
  · exact .inl rfl
  · refine .inr fun e => ?_
    have := (h.lt k hb).1
    simp at e
    omega
theorem cur_own {w1 w2 : World} {g n c k : Nat} {A : Option Addr} {s : Int} {v : Value} {e : TypeId} {m : Nat} {xs : List Value} (hc : IsCur w1 g A n c k s) (h : w1.ownsRow (g + 1) e 1 v m xs) (hg : w1.grownBy w2 v.ownBlock) : IsCur w2 g A n c k s := by
  refine (hg.block g hc.lt ?_).trans hc
  intro e'
  have := (h.lt g e'.symm).1
  omega

theorem own_base {w : World} {base base' : Nat} {e : TypeId} {size : Nat} {v : Value} {n : Nat} {xs : List Value} (h : w.ownsRow base e size v n xs) (hb : base' ≤ base) : w.ownsRow base' e size v n xs := by
  refine ⟨h.1, ?_⟩
  rcases h.2 with h' | ⟨g, cap, cur, e1, e2, e3⟩
  · exact .inl h'
  · exact .inr ⟨g, cap, cur, e1, by omega, e3⟩
/-- what is drawn so far: the cursor, the list, and that nothing old has changed -/
structure DJ (w wr : World) (A : Option Addr) (n c : Nat) (v : Value) (xs : List ByteArray) (km : Nat) : Prop where
  cur : ∃ k s, k ≤ km ∧ IsCur wr w.heap.size A n c k s
  row : wr.ownsRow (w.heap.size + 1) 9 1 v xs.length (xs.map Value.string)
  below : Below w.heap.size w wr
  small : ∀ x ∈ xs, x.size ≤ 4096
theorem DJ.left {w wr w' : World} {A : Option Addr} {n c : Nat} {v : Value} {xs : List ByteArray} {km k m : Nat} (h : DJ w wr A n c v xs km) (hk : k ≤ km) (hl : LeftC wr w.heap.size A n c k m w') : DJ w w' A n c v xs (km + m) := by
  obtain ⟨⟨k', s', hk', hc'⟩, hg⟩ := hl
  exact ⟨⟨k', s', by omega, hc'⟩, own_cur h.row hg, below_cur h.below hg, h.small⟩
theorem DJ.alloc {w wr : World} {A : Option Addr} {n c : Nat} {v : Value} {xs : List ByteArray} {km : Nat} (h : DJ w wr A n c v xs km) (o : Obj) : DJ w (wr.alloc o) A n c v xs km := by
  obtain ⟨k, s, hk, hc⟩ := h.cur
  exact ⟨⟨k, s, hk, hc.alloc o⟩, h.row.alloc o, h.below.alloc h.below.size o, h.small⟩
theorem DJ.append {w wr w1 : World} {A : Option Addr} {n c : Nat} {v v' : Value} {xs : List ByteArray} {km : Nat} {x : ByteArray} (h : DJ w wr A n c v xs km) (hx : x.size ≤ 4096)
    (hown : w1.ownsRow (w.heap.size + 1) 9 1 v' (xs.length + 1) (xs.map Value.string ++ [.string x])) (hg : wr.grownBy w1 v.ownBlock) : DJ w w1 A n c v' (xs ++ [x]) km := by
  obtain ⟨k, s, hk, hc⟩ := h.cur
  refine ⟨⟨k, s, hk, cur_own hc h.row hg⟩, by simpa using hown, h.below.grown hg h.below.size (fun j e => by have := (h.row.lt j e).1; omega), ?_⟩
  intro y hy
  rcases List.mem_append.1 hy with hy | hy
  · exact h.small y hy
  · simp at hy; subst hy; exact hx

def ListStr (P Q : ByteArray → Prop) (m : Nat) (w : World) (e : Ending) (w' : World) : Prop := ∃ (v : Value) (xs : List ByteArray) (y : ByteArray), (∀ x ∈ xs, P x) ∧ xs.length ≤ m ∧ Q y ∧ e = .returned (.tuple #[v, .string y]) ∧ w'.ownsRow w.heap.size 9 1 v xs.length (xs.map Value.string) ∧ Below w.heap.size w w'

theorem info5 : (Try.prog.info? 5).map (fun i => (i.zero, i.size, i.bytes)) = some (some (.int .u8 0), 1, 1) := by kernel_rfl

/-- a text of t zero bytes -/
def zeros (t : Nat) : ByteArray := strOfNums (List.replicate t 0)
theorem zeros_size (t : Nat) : (zeros t).size = t := by rw [zeros, strOfNums_size, List.length_replicate]
theorem strz (u : World) (t : Nat) :
    (convert 22 9 (.slice (some ⟨u.heap.size, 0, none⟩) t t)).run Try.prog (u.alloc (.cells (madeCells #[.int .u8 0] t) 5)) = .ok (.string (zeros t)) (u.alloc (.cells (madeCells #[.int .u8 0] t) 5)) := by
  refine (run_convert_bytes_arg _ 22 5 Try.underlying22 Try.underlying5 u.heap.size 0 t t (List.replicate t 0) (by simp) (fun i hi => ?_) 9 Try.underlying9)
  rw [Nat.zero_add, World.cell?_alloc_mark, ← Array.getElem?_toList, toList_madeCells_one]
  simp [hi]
theorem mkz (u : World) (t : Nat) (ht : t ≤ 65536) :
    (Instr.makeSlice 22 (.int .i64 t) (.int .i64 t)).run Try.prog u = .ok (.slice (some ⟨u.heap.size, 0, none⟩) t t) (u.alloc (.cells (madeCells #[.int .u8 0] t) 5)) := by
  obtain ⟨i0, hi, hz0, hz1, hz2⟩ := info_parts info5
  have h := run_make (P := Try.prog) u 22 5 i0 (.int .u8 0) Try.underlying22 hi hz0 .i64 .i64 (t : Int) (t : Int) (by omega) (Int.le_refl _) (by rw [hz2]; omega) (by omega)
  rw [Int.toNat_natCast] at h
  simpa [hz1, Value.cells] using h

set_option maxHeartbeats 1000000 in
theorem drawJoin_any (A : Option Addr) (n c : Nat) (w : World) (hn : n ≤ 65536) (hr : RdB w A n) (ha : Apart A n w.heap.size) :
    Calls Try.prog 11 #[.slice A n c] w (ListStr (fun x => x.size ≤ 4096) (fun y => y.size ≤ 2) 4 w) := by
  obtain ⟨i0, hi, hz0, hz1, hz2⟩ := info_parts Split.infoStr
  have HR := Lib.hid hr
  have HA := Lib.hid ha
  have HR0 := Lib.hid (rdb_new (rdb_new hr ha (.cells #[.slice A n c, .int .i64 0, .int .u64 0] 44)) (fun hp a h => by have := ha hp a h; simp; omega) (.cells #[] 9))
  have HC := Lib.hid ((cur_new w A n c).alloc (.cells #[] 9))
  have hown0 := World.ownsRow_lit (base := w.heap.size + 1) (e := 9) (size := 1) (w.alloc (.cells #[.slice A n c, .int .i64 0, .int .u64 0] 44)) #[] 0 (by simp) (Nat.zero_le _) rfl
  have HB0 : Hid (Below w.heap.size w ((w.alloc (.cells #[.slice A n c, .int .i64 0, .int .u64 0] 44)).alloc (.cells #[] 9))) := Lib.hid (((Below.refl _ w).alloc (Nat.le_refl _) _).alloc (by simp) _)
  rw [World.size_alloc] at hown0
  have HO := Lib.hid hown0
  clear hr ha hown0
  go_enter Try.func11, Try.ntmps11
  go_wp2_with fail
  refine (pick_any 4 (by omega) (by omega) w.heap.size A n c 0 0 _ (by omega) (by omega) HC.out HR0.out HA.out).mono ?_
  rintro e w1 ⟨r, rfl, hr0, hr1, ⟨k1, s1, hk1, hc1⟩, hg1⟩
  obtain ⟨m, rfl⟩ := Int.eq_ofNat_of_zero_le hr0
  have HO1 := Lib.hid (own_cur HO.out hg1)
  have HB1 := Lib.hid (below_cur HB0.out hg1)
  clear HO HB0 HC HR0
  have hm : m ≤ 3 := by omega
  clear hr0 hr1
  have HC1 := Lib.hid hc1
  clear hc1 hg1
  have HD : Hid (DJ w w1 A n c (.slice (some ⟨w.heap.size + 1, 0, none⟩) 0 0) [] 2) := Lib.hid ⟨⟨k1, s1, by omega, HC1.out⟩, HO1.out, HB1.out, fun x hx => by cases hx⟩
  clear HC1 HO1 HB1 hk1
  go_wp2_with fail
  go_loopw [5, 7] (fun v i wr => ∃ (k : Nat) (xs : List ByteArray), k ≤ m ∧ i = .int .i64 k ∧ xs.length ≤ k ∧ Hid (DJ w wr A n c v xs (2 + 2 * k))) (fun _ i _ => m - (intOf i).toNat)
  case atStart => exact ⟨0, [], Nat.zero_le _, rfl, Nat.le_refl _, HD⟩
  case round =>
    obtain ⟨k, xs, hk, rfl, hxl, HJ⟩ := hrel
    obtain ⟨kc, sc, hkc, hcur⟩ := HJ.out.cur
    have HCu := Lib.hid hcur
    clear hcur
    have HRr := Lib.hid (rdb_below HR.out HA.out HJ.out.below)
    by_cases hlt : k < m
    · go_wp2_with fail
      refine (any1_any w.heap.size A n c kc sc _ (by omega) (by omega) HCu.out HRr.out HA.out).mono ?_
      rintro e w2 ⟨x, hx, rfl, hl⟩
      have HJ2 := Lib.hid (HJ.out.left hkc hl)
      clear hl
      have hbs : w.heap.size + 1 ≤ w2.heap.size := by obtain ⟨k', s', _, hc'⟩ := HJ2.out.cur; exact hc'.lt
      go_wp2_with (first
        | (at_builtin; refine wpList_append_own _ rfl _ _ 26 rfl (w.heap.size + 1) 9 i0 (.string ByteArray.empty) 1 16 Try.underlying26 hi hz0 hz1 hz2 rfl (by decide) _ _ _ rfl (HJ2.out.row.alloc _) ⟨w2.heap.size, 0, none⟩ 1 1 [.string x] rfl rfl (cell_one_new _ _ _) (by simp [Value.oneCell']) (by unfold maxLen; omega) (by omega) (by simp; omega) ?_; intro v' w3 hown' hgrow _)
        | fail)
      go_roundw
      case rel => exact ⟨k + 1, xs ++ [x], by omega, by go_num, by simp; omega, Lib.hid ((HJ2.out.alloc _).append (by omega) hown' hgrow)⟩
      case measure => simp [intOf]; omega
    · go_wp2_with fail
      refine (one_any 20 (by omega) (by omega) w.heap.size A n c kc sc _ (by omega) (by omega) HCu.out HRr.out HA.out).mono ?_
      rintro e w2 ⟨b, rfl, hl⟩
      have HJ2 := Lib.hid (HJ.out.left hkc hl)
      clear hl HJ HCu HRr hkc
      obtain ⟨kd, sd, hkd, hcur2⟩ := HJ2.out.cur
      have HCu2 := Lib.hid hcur2
      clear hcur2
      have HRr2 := Lib.hid (rdb_below HR.out HA.out HJ2.out.below)
      cases b with
      | false =>
        go_wp2_with fail
        have hw2 := HCu2.out.lt
        refine (of_any (fun x => x.size ≤ 2) _ _ 5 [⟨#[44]⟩, ⟨#[59]⟩, ⟨#[59]⟩, ⟨#[]⟩, ⟨#[97, 98]⟩] (by decide) rfl (by omega) (by omega) w.heap.size (by omega) A n c kd sd _ (by omega) (by omega) (HCu2.out.alloc _) (HRr2.out.alloc HA.out hw2 _) HA.out (Txt.lit rfl)).mono ?_
        rintro e w3 ⟨y, hy, rfl, hl⟩
        have HF := Lib.hid ((HJ2.out.alloc _).left hkd hl)
        clear hl
        go_wp2_with fail
        go_ret2
        exact ⟨_, xs, y, HF.out.small, by omega, hy, rfl, own_base HF.out.row (by omega), HF.out.below⟩
      | true =>
        go_wp2_with fail
        refine (pick_any 20 (by omega) (by omega) w.heap.size A n c kd sd _ (by omega) (by omega) HCu2.out HRr2.out HA.out).mono ?_
        rintro e w3 ⟨r, rfl, hr0, hr1, hl⟩
        obtain ⟨p, rfl⟩ := Int.eq_ofNat_of_zero_le hr0
        have hp : p ≤ 19 := by omega
        clear hr0 hr1
        have HJ3 := Lib.hid (HJ2.out.left hkd hl)
        clear hl HJ2 HCu2 HRr2 hkd
        have hmk := mkz w3 (3990 + p) (by omega)
        have hst := strz w3 (3990 + p)
        have hcast : ((3990 + p : Nat) : Int) = 3990 + (p : Int) := by omega
        rw [hcast] at hmk
        clear hcast
        have HZ := Lib.hid (zeros_size (3990 + p))
        have HJ4 := Lib.hid (HJ3.out.alloc (.cells (madeCells #[.int .u8 0] (3990 + p)) 5))
        generalize zeros (3990 + p) = z at *
        have hbs : w.heap.size + 1 ≤ (w3.alloc (.cells (madeCells #[.int .u8 0] (3990 + p)) 5)).heap.size := by obtain ⟨k', s', _, hc'⟩ := HJ4.out.cur; exact hc'.lt
        generalize w3.alloc (.cells (madeCells #[.int .u8 0] (3990 + p)) 5) = w4 at *
        go_wp2_with (first
          | (at_builtin; refine wpList_append_own _ rfl _ _ 26 rfl (w.heap.size + 1) 9 i0 (.string ByteArray.empty) 1 16 Try.underlying26 hi hz0 hz1 hz2 rfl (by decide) _ _ _ rfl (HJ4.out.row.alloc _) ⟨w4.heap.size, 0, none⟩ 1 1 [.string z] rfl rfl (cell_one_new _ _ _) (by simp [Value.oneCell']) (by unfold maxLen; omega) (by omega) (by simp; omega) ?_; intro v' w5 hown' hgrow _)
          | fail)
        have HJ5 := Lib.hid ((HJ4.out.alloc _).append (by rw [HZ.out]; omega) hown' hgrow)
        clear hown' hgrow hmk hst
        obtain ⟨ke, se, hke, hcur5⟩ := HJ5.out.cur
        have HRr5 := Lib.hid (rdb_below HR.out HA.out HJ5.out.below)
        have hw5 := hcur5.lt
        refine (of_any (fun x => x.size ≤ 2) _ _ 5 [⟨#[44]⟩, ⟨#[59]⟩, ⟨#[59]⟩, ⟨#[]⟩, ⟨#[97, 98]⟩] (by decide) rfl (by omega) (by omega) w.heap.size (by omega) A n c ke se _ (by omega) (by omega) (hcur5.alloc _) (HRr5.out.alloc HA.out hw5 _) HA.out (Txt.lit rfl)).mono ?_
        rintro e w6 ⟨y, hy, rfl, hl⟩
        have HF := Lib.hid ((HJ5.out.alloc _).left hke hl)
        clear hl hcur5
        go_wp2_with fail
        go_ret2
        have hl' : (xs ++ [z]).length ≤ 4 := by simp; omega
        refine ⟨_, xs ++ [z], y, HF.out.small, hl', hy, rfl, ?_, HF.out.below⟩
        have := own_base (base' := w.heap.size) HF.out.row (by omega)
        simpa using this
end Go.Proofs.Ytbfnfhaefhklaaa.Draw1
