/-
  Contracts of the drawing functions that FnStrings calls, and of vAt and vBig.
-/
import Derived.Test.YtfnkaoobnhjlbaaDoorDraw0
import Derived.Test.YtfnkaoobnhjlbaaDoorNum
namespace Go.Proofs.YtfnkaoobnhjlbaaDoor.Draw2
open Go.RowKit Pl Cur Draw0 Num

def OneInt (w : World) (e : Ending) (w' : World) : Prop := ∃ n, e = .returned (.int .i64 n) ∧ Below w.heap.size w w'
def OneStr (m : Nat) (w : World) (e : Ending) (w' : World) : Prop := ∃ x : ByteArray, x.size ≤ m ∧ e = .returned (.string x) ∧ Below w.heap.size w w'

def AnInt (w : World) (g : Nat) (A : Option Addr) (n c k m : Nat) (e : Ending) (w' : World) : Prop := ∃ r, e = .returned (.int .i64 r) ∧ LeftC w g A n c k m w'
def Its (w : World) (gl : Nat) (xs : List Int) : Prop := ∀ j x, xs[j]? = some x → w.cell? ⟨gl, j, none⟩ = some (.int .i64 x)
theorem Its.lit {w : World} {cs : Array Value} {t : TypeId} {xs : List Int} (h : cs = (xs.map (Value.int .i64)).toArray) : Its (w.alloc (.cells cs t)) w.heap.size xs := by
  intro j x hx
  subst h
  rw [World.cell?_alloc_mark]
  simp [hx]
set_option maxHeartbeats 1000000 in
theorem among_any (gl cl m : Nat) (xs : List Int) (hxl : xs.length = m) (hm0 : 1 ≤ m) (hm : m ≤ 1000) (g : Nat) (hgl : gl ≠ g) (A : Option Addr) (n c k : Nat) (s : Int) (w : World) (hk : k ≤ 1048570) (hn : n ≤ 1048576) (hcur : IsCur w g A n c k s) (hr : RdB w A n) (ha : Apart A n g) (ht : Its w gl xs) :
    Calls Tryd.prog 58 #[.pointer (some ⟨g, 0, none⟩), .slice (some ⟨gl, 0, none⟩) m cl] w (AnInt w g A n c k 2) := by
  have HR := Lib.hid hr
  have HA := Lib.hid ha
  have HT := Lib.hid ht
  have HL := Lib.hid hxl
  have HG := Lib.hid hgl
  clear hr ha ht hxl hgl
  go_enter Tryd.func58, Tryd.ntmps58
  go_wp2_with fail
  refine (pick_any m hm0 (by omega) g A n c k s _ hk hn hcur HR.out HA.out).mono ?_
  rintro e w1 ⟨r, rfl, hr0, hr1, hl⟩
  obtain ⟨i, rfl⟩ := Int.eq_ofNat_of_zero_le hr0
  have hi : i < m := by omega
  have hix : i < xs.length := by rw [HL.out]; exact hi
  have hc : w1.cell? ⟨gl, i, none⟩ = some (.int .i64 xs[i]) := hl.2.cell (HT.out i _ (List.getElem?_eq_getElem hix)) (by simpa using HG.out)
  have HLf := Lib.hid hl
  clear hl
  generalize xs[i] = x at *
  go_wp2_with fail
  go_ret
  exact ⟨x, rfl, HLf.out⟩

set_option maxHeartbeats 1000000 in
theorem drawFormat_any (A : Option Addr) (n c : Nat) (w : World) (hn : n ≤ 65536) (hr : RdB w A n) (ha : Apart A n w.heap.size) :
    Calls Tryd.prog 25 #[.slice A n c] w (OneInt w) := by
  have HR := Lib.hid (rdb_new hr ha (.cells #[.slice A n c, .int .i64 0, .int .u64 0] 59))
  have HA := Lib.hid ha
  have HC := Lib.hid (cur_new w A n c)
  clear hr ha
  go_enter Tryd.func25, Tryd.ntmps25
  go_wp2_with fail
  refine (pick_any 1000 (by omega) (by omega) w.heap.size A n c 0 0 _ (by omega) (by omega) HC.out HR.out HA.out).mono ?_
  rintro e w1 ⟨r, rfl, hr0, hr1, ⟨k1, s1, hk1, hc1⟩, hg1⟩
  have HR1 := Lib.hid (HR.out.grown HA.out hg1)
  go_wp2_with fail
  refine (among_any _ _ 9 [0, 1, -1, 10, 999999, -999999, 1000000, -1000000, r - 500] rfl (by omega) (by omega) w.heap.size (by have := hc1.lt; omega) A n c k1 s1 _ (by omega) (by omega) (hc1.alloc _) (HR1.out.alloc HA.out hc1.lt _) HA.out (Its.lit rfl)).mono ?_
  rintro e w2 ⟨y, rfl, hl⟩
  have HLf := Lib.hid hl.alloc
  clear hl
  go_wp2_with fail
  go_ret
  exact ⟨y, rfl, below_cur (below_new hg1) HLf.out.2⟩

set_option maxHeartbeats 1000000 in
theorem drawParse_any (A : Option Addr) (n c : Nat) (w : World) (hn : n ≤ 65536) (hr : RdB w A n) (ha : Apart A n w.heap.size) :
    Calls Tryd.prog 28 #[.slice A n c] w (OneStr 1048576 w) := by
  have HR := Lib.hid (rdb_new hr ha (.cells #[.slice A n c, .int .i64 0, .int .u64 0] 59))
  have HA := Lib.hid ha
  have HC := Lib.hid (cur_new w A n c)
  clear hr ha
  go_enter Tryd.func28, Tryd.ntmps28
  go_wp2_with fail
  refine (one_any 2 (by omega) (by omega) w.heap.size A n c 0 0 _ (by omega) (by omega) HC.out HR.out HA.out).mono ?_
  rintro e w1 ⟨b, rfl, ⟨k1, s1, hk1, hc1⟩, hg1⟩
  have HR1 := Lib.hid (HR.out.grown HA.out hg1)
  cases b with
  | true =>
    go_wp2_with fail
    refine (of_any (fun x => x.size ≤ 30) _ _ 11 [⟨#[]⟩, ⟨#[45]⟩, ⟨#[45, 48]⟩, ⟨#[48, 48]⟩, ⟨#[48, 49]⟩, ⟨#[45, 45, 49]⟩, ⟨#[49, 120]⟩, ⟨#[57, 57, 57, 57, 57, 57]⟩, ⟨#[49, 48, 48, 48, 48, 48, 48]⟩, ⟨#[45, 57, 57, 57, 57, 57, 57]⟩, ⟨#[49, 56, 52, 52, 54, 55, 52, 52, 48, 55, 51, 55, 48, 57, 53, 53, 49, 54, 49, 55]⟩] (by decide) rfl (by omega) (by omega) w.heap.size (by have := hc1.lt; omega) A n c k1 s1 _ (by omega) (by omega) (hc1.alloc _) (HR1.out.alloc HA.out hc1.lt _) HA.out (Txt.lit rfl)).mono ?_
    rintro e w2 ⟨y, hy, rfl, hl⟩
    have HLf := Lib.hid hl.alloc
    clear hl
    go_wp2_with fail
    go_ret
    exact ⟨y, by omega, rfl, below_cur (below_new hg1) HLf.out.2⟩
  | false =>
    go_wp2_with fail
    refine (pick_any 2000 (by omega) (by omega) w.heap.size A n c k1 s1 _ (by omega) (by omega) hc1 HR1.out HA.out).mono ?_
    rintro e w2 ⟨r, rfl, hr0, hr1, hl⟩
    have HLf := Lib.hid hl
    clear hl
    go_wp2_with fail
    refine (l1Num_any (r - 1000) _ (by omega) (by omega)).mono ?_
    rintro e w' ⟨rfl, q, rfl⟩
    have hlen : (ba (Lib.itoa (r - 1000))).size ≤ 1048576 := by rw [ba_size]; have := itoa_len (r - 1000) ⟨by omega, by omega⟩; omega
    generalize ba (Lib.itoa (r - 1000)) = t at *
    go_wp2_with fail
    go_ret
    exact ⟨t, hlen, rfl, below_drewN (below_cur (below_new hg1) HLf.out.2) q⟩

set_option maxHeartbeats 1000000 in
theorem drawAppend_any (A : Option Addr) (n c : Nat) (w : World) (hn : n ≤ 65536) (hr : RdB w A n) (ha : Apart A n w.heap.size) :
    Calls Tryd.prog 31 #[.slice A n c] w (OneStr 4096 w) := by
  have HR := Lib.hid (rdb_new hr ha (.cells #[.slice A n c, .int .i64 0, .int .u64 0] 59))
  have HA := Lib.hid ha
  have HC := Lib.hid (cur_new w A n c)
  clear hr ha
  go_enter Tryd.func31, Tryd.ntmps31
  go_wp2_with fail
  refine (one_any 20 (by omega) (by omega) w.heap.size A n c 0 0 _ (by omega) (by omega) HC.out HR.out HA.out).mono ?_
  rintro e w1 ⟨b, rfl, ⟨k1, s1, hk1, hc1⟩, hg1⟩
  have HR1 := Lib.hid (HR.out.grown HA.out hg1)
  cases b with
  | true =>
    go_wp2_with fail
    refine (pick_any 10 (by omega) (by omega) w.heap.size A n c k1 s1 _ (by omega) (by omega) hc1 HR1.out HA.out).mono ?_
    rintro e w3 ⟨r, rfl, hr0, hr1, hl⟩
    obtain ⟨p, rfl⟩ := Int.eq_ofNat_of_zero_le hr0
    have hp : p ≤ 9 := by omega
    clear hr0 hr1
    have HB3 := Lib.hid (below_cur (below_new hg1) hl.2)
    clear hl
    have hmk := mkz w3 (3990 + p) (by omega)
    have hst := strz w3 (3990 + p)
    have hcast : ((3990 + p : Nat) : Int) = 3990 + (p : Int) := by omega
    rw [hcast] at hmk
    clear hcast
    have HZ := Lib.hid (zeros_size (3990 + p))
    have HB4 := Lib.hid (HB3.out.alloc HB3.out.size (.cells (madeCells #[.int .u8 0] (3990 + p)) 5))
    generalize zeros (3990 + p) = z at *
    generalize w3.alloc (.cells (madeCells #[.int .u8 0] (3990 + p)) 5) = w4 at *
    go_wp2_with fail
    go_ret
    exact ⟨z, by rw [HZ.out]; omega, rfl, HB4.out⟩
  | false =>
    go_wp2_with fail
    refine (any1_any w.heap.size A n c k1 s1 _ (by omega) (by omega) hc1 HR1.out HA.out).mono ?_
    rintro e w2 ⟨y, hy, rfl, hl⟩
    have HLf := Lib.hid hl
    clear hl
    go_wp2_with fail
    go_ret
    exact ⟨y, by omega, rfl, below_cur (below_new hg1) HLf.out.2⟩

theorem vBig_any (A : Option Addr) (n c : Nat) (w : World) (r : Bool) (hr : decide (65536 < (n : Int)) = r) : Calls Tryd.prog 16 #[.slice A n c] w fun e w' => e = .returned (.bool r) ∧ w = w' := by
  subst hr
  go_enter Tryd.func16, Tryd.ntmps16
  go_wp2
  go_ret
  exact ⟨rfl, rfl⟩

def AByte (w : World) (e : Ending) (w' : World) : Prop := ∃ r : Int, e = .returned (.int .i64 r) ∧ 0 ≤ r ∧ r ≤ 255 ∧ w' = w
theorem vAt_any (A : Option Addr) (n c i : Nat) (w : World) (hn : n ≤ 65536) (hi : i ≤ 1000) (hr : RdB w A n) :
    Calls Tryd.prog 35 #[.slice A n c, .int .i64 i] w (AByte w) := by
  have HR := Lib.hid hr
  clear hr
  by_cases hlt : i < n
  · obtain ⟨gb, ob, z, rfl, hc, hz0, hz1⟩ := HR.out i hlt
    go_enter Tryd.func35, Tryd.ntmps35
    go_wp2_with fail
    go_ret
    exact ⟨z, rfl, hz0, hz1, rfl⟩
  · go_enter Tryd.func35, Tryd.ntmps35
    go_wp2_with fail
    go_ret
    exact ⟨((i : Int) * 7 + n) % 256, rfl, by omega, by omega, rfl⟩
end Go.Proofs.YtfnkaoobnhjlbaaDoor.Draw2
