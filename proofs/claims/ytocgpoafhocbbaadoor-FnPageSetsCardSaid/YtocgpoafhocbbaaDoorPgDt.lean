/-
  Contract of the laws' rRanges at equal lists; the drawn lists as the functions read them.
-/
import Derived.Test.YtocgpoafhocbbaaDoorPgDs
import Derived.Deep.QuietTactic
import Derived.BigQuiet
namespace Go.Proofs.YtocgpoafhocbbaaDoor.PgDr
open Go.RowKit Pl Cur Draw0 StN PgPl Pg
set_option linter.unusedVariables false
set_option linter.unusedSimpArgs false

set_option maxHeartbeats 2000000 in
/-- two lists of ranges that say the same -/
theorem same_any (A B : Option Addr) (c d N : Nat) (L : List Pr) (w : World) (h : RdP w A L) (h' : RdP w B L) (hn : L.length = N) (hm : N ≤ 1048576) :
    Calls Tryd.prog 8 #[.slice A N c, .slice B N d] w fun e w' => e = .returned (.bool true) ∧ Below w.heap.size w w' := by
  have H := Lib.hid h
  have H' := Lib.hid h'
  have HN := Lib.hid hn
  clear h h' hn
  go_enter Tryd.func8, Tryd.ntmps8
  go_wp2_with fail
  go_loopw [5] (fun i wr => ∃ k : Nat, k ≤ N ∧ i = .int .i64 k ∧ Below w.heap.size w wr) (fun i _ => N - (intOf i).toNat)
  case atStart => exact ⟨0, Nat.zero_le _, rfl, Below.refl _ _⟩
  case round =>
    obtain ⟨k, hk, rfl, hb⟩ := hrel
    by_cases hlt : k < N
    · have hkx : k < L.length := by rw [HN.out]; exact hlt
      have hx? := List.getElem?_eq_getElem hkx
      obtain ⟨g, o, rfl, hg, c0, c1, c2⟩ := (H.out.below hb) k L[k] hx?
      obtain ⟨g', o', rfl, hg', d0, d1, d2⟩ := (H'.out.below hb) k L[k] hx?
      clear hx?
      generalize L[k] = x at *
      obtain ⟨l, f, t⟩ := x
      dsimp only at c0 c1 c2 d0 d1 d2
      have hll : (l.toList == l.toList) = true := by simp
      have hbd : ∀ q, Below w.heap.size w (wr.drewN q) := fun q => ⟨hb.os, hb.tape, hb.output, hb.size, hb.block⟩
      go_wp2_with fail
      go_quiet (fail)
      go_wp2_with fail
      go_roundw
      case rel => exact ⟨k + 1, by omega, by go_num, by first | exact hb | exact hbd _⟩
      case measure => simp [intOf]; omega
    · go_wp2_with fail
      go_ret
      exact ⟨rfl, hb⟩
/-- a drawn list of ranges, the cursor left behind -/
def DrawnP (w : World) (e : Ending) (w' : World) : Prop := ∃ (Ap : Option Addr) (N cp : Nat) (L : List Pr), e = .returned (.slice Ap N cp) ∧ L.length = N ∧ N ≤ 9 ∧ RdP w' Ap L ∧ Below w.heap.size w w'
def DrawnQ (w : World) (e : Ending) (w' : World) : Prop := ∃ (s : ByteArray) (Ap : Option Addr) (N cp : Nat) (L : List Pr), e = .returned (.tuple #[.string s, .slice Ap N cp]) ∧ L.length = N ∧ N ≤ 9 ∧ RdP w' Ap L ∧ Below w.heap.size w w'
set_option maxHeartbeats 2000000 in
theorem drawPages_any (A : Option Addr) (n c : Nat) (w : World) (hn : n ≤ 65536) (hr : RdB w A n) (ha : Apart A n w.heap.size) :
    Calls Tryd.prog 14 #[.slice A n c] w (DrawnP w) := by
  have HR := Lib.hid (rdb_new hr ha (.cells #[.slice A n c, .int .i64 0, .int .u64 0] 46))
  have HA := Lib.hid ha
  have HC := Lib.hid (cur_new w A n c)
  clear hr ha
  go_enter Tryd.func14, Tryd.ntmps14
  go_wp2_with fail
  refine (pages_any w.heap.size A n c 0 0 _ (by omega) (by omega) HC.out HR.out HA.out).mono ?_
  rintro e w1 ⟨Ap, N, cp, L, rfl, hN, h9, hR, hl⟩
  have HR1 := Lib.hid hR
  have HB1 := Lib.hid (below_new hl.2)
  clear hl hR
  go_wp2_with fail
  go_ret
  exact ⟨Ap, N, cp, L, rfl, hN, h9, HR1.out, HB1.out⟩
set_option maxHeartbeats 2000000 in
theorem drawMerge_any (A : Option Addr) (n c : Nat) (w : World) (hn : n ≤ 65536) (hr : RdB w A n) (ha : Apart A n w.heap.size) :
    Calls Tryd.prog 5 #[.slice A n c] w (DrawnP w) := by
  have HD := Lib.hid (drawPages_any A n c w hn hr ha)
  clear hr ha
  go_enter Tryd.func5, Tryd.ntmps5
  go_wp2_with fail
  refine HD.out.mono ?_
  rintro e w1 ⟨Ap, N, cp, L, rfl, hN, h9, hR, hl⟩
  have HR1 := Lib.hid hR
  have HB1 := Lib.hid hl
  clear hl hR
  go_wp2_with fail
  go_ret
  exact ⟨Ap, N, cp, L, rfl, hN, h9, HR1.out, HB1.out⟩
set_option maxHeartbeats 2000000 in
theorem drawLocator_any (A : Option Addr) (n c : Nat) (w : World) (hn : n ≤ 65536) (hr : RdB w A n) (ha : Apart A n w.heap.size) :
    Calls Tryd.prog 11 #[.slice A n c] w (DrawnQ w) := by
  have HR := Lib.hid (rdb_new hr ha (.cells #[.slice A n c, .int .i64 0, .int .u64 0] 46))
  have HA := Lib.hid ha
  have HC := Lib.hid (cur_new w A n c)
  have HS0 := Lib.hid (St.start HC.out HR.out HA.out)
  clear hr ha
  go_enter Tryd.func11, Tryd.ntmps11
  go_upto_region 2 with fail
  generalize hw0 : w.alloc (.cells #[.slice A n c, .int .i64 0, .int .u64 0] 46) = w0 at HR HC HS0 ⊢
  go_wp2_with fail
  refine (of_any (fun _ => True) _ _ 6 [⟨#[112, 97, 103, 101]⟩, ⟨#[112, 97, 103, 101]⟩, ⟨#[108, 105, 110, 101]⟩, ⟨#[99, 104, 97, 112, 116, 101, 114]⟩, ⟨#[115, 101, 99, 116, 105, 111, 110]⟩, ⟨#[118, 101, 114, 115, 101]⟩] (by simp) rfl (by omega) (by omega) w.heap.size (Nat.ne_of_gt HC.out.lt) A n c 0 0 _ (by omega) (by omega) (HC.out.alloc _) (HR.out.alloc HA.out HC.out.lt _) HA.out (Txt.lit rfl)).mono ?_
  rintro e w1 ⟨s, -, rfl, hl⟩
  have HS1 := Lib.hid (HS0.out.call (Nat.le_refl _) hl.alloc)
  obtain ⟨k1, s1, hk1, hc1⟩ := HS1.out.cur
  have HC1 := Lib.hid hc1
  clear hl hc1 HC HR HS0
  go_wp2_with fail
  refine (pages_any w.heap.size A n c k1 s1 _ (by omega) (by omega) HC1.out HS1.out.rd HA.out).mono ?_
  rintro e w2 ⟨Ap, N, cp, L, rfl, hN, h9, hR, hl⟩
  have HR2 := Lib.hid hR
  have hg2 := (HS1.out.call hk1 hl).gr
  rw [← hw0] at hg2
  have HB2 := Lib.hid (below_new hg2)
  clear hl hR hg2
  go_wp2_with fail
  go_ret2
  exact ⟨s, Ap, N, cp, L, rfl, hN, h9, HR2.out, HB2.out⟩
end Go.Proofs.YtocgpoafhocbbaaDoor.PgDr
