/-
  Contract of strings.SplitSeq at one byte: an iterator over the parts between the bytes; its state lies in a box.
-/
import Derived.Test.YtobjfmchnlnohaaGreatDoorRows
import Derived.Test.YtobjfmchnlnohaaGreatDoorPlain
import Derived.Test.YtobjfmchnlnohaaGreatDoorStPl
import Derived.Test.YtobjfmchnlnohaaGreatDoorSplitPl
import Derived.Test.YtobjfmchnlnohaaGreatDoorNmPl
import Derived.Lib.IndexLaws
import Derived.Test.YtobjfmchnlnohaaGreatDoorShelf
import Derived.Test.YtobjfmchnlnohaaGreatDoorRf
import Derived.RangeFuncNested
import Derived.RangeFuncBound
import Derived.RangeFuncCalls
import Derived.RangeFuncLeaves
import Derived.Shelf.Abstract
import Derived.Shelf.RegionOpen
import Derived.WalkKit
import Derived.OwnWalkIn
import Derived.TacticsInMore
import Derived.LoopNIn
import Derived.LoopIn
import Derived.Lib.Hide
import Derived.WalkMore
import Derived.Maps.AppendAt
import Derived.Maps.OwnIn
namespace Go.Proofs.YtobjfmchnlnohaaGreatDoor.Sq
open Go.RowKit Go.Shelf Pl Stands SplitPl NmPl
set_option linter.unusedVariables false
set_option linter.unusedSimpArgs false
attribute [local go_sem] Oper.semAt_some

/-- what a round must keep: the three boxes of the iterator -/
def Kp3 (Bp Bs Bv : Nat) (W W' : World) : Prop := W'.heap[Bp]? = W.heap[Bp]? ∧ W'.heap[Bs]? = W.heap[Bs]? ∧ W'.heap[Bv]? = W.heap[Bv]?
/-- what is left in the iterator's box -/
def rest (W : World) (B : Nat) : Nat := match W.cell? ⟨B, 0, none⟩ with | some (.string r) => r.size | _ => 0
theorem rest_of {W : World} {B : Nat} {r : ByteArray} (h : W.cell? ⟨B, 0, none⟩ = some (.string r)) : rest W B = r.size := by simp [rest, h]

theorem cutl (x y : List UInt8) (b : UInt8) : (ba (x ++ b :: y)).extract 0 x.length = ba x := by
  rw [extract_list, toList_ba]; simp
theorem cutr (x y : List UInt8) (b : UInt8) : (ba (x ++ b :: y)).extract (x.length + 1) (ba (x ++ b :: y)).size = ba y := by
  have e : x ++ b :: y = (x ++ [b]) ++ y := by simp
  rw [extract_list, take_all _ _ (Nat.le_refl _), toList_ba, e, show x.length + 1 = (x ++ [b]).length by simp, List.drop_left]

theorem hd_more {b : UInt8} {l : List UInt8} (h : stB b l = true) : l = hd b l ++ b :: l.drop ((hd b l).length + 1) := by
  have hi : 0 ≤ Lib.indexByte l b := by rw [← stB_index] at h; simpa using h
  obtain ⟨o, ho⟩ := Int.eq_ofNat_of_zero_le hi
  obtain ⟨h1, h2⟩ := Lib.indexByte_some ho
  have hlt : o < l.length := (List.getElem?_eq_some_iff.1 h1).1
  have hb : l[o] = b := (List.getElem?_eq_some_iff.1 h1).2
  have e := hd_index h1 h2
  have el : (hd b l).length = o := by rw [e, List.length_take]; omega
  rw [el, e]
  conv => lhs; rw [← List.take_append_drop o l, List.drop_eq_getElem_cons hlt, hb]
theorem idx_app {b : UInt8} {r x y : List UInt8} (hx : stB b x = false) (h : r = x ++ b :: y) : Lib.indexByte r b = (x.length : Int) := by
  have hs : stB b r = true := by subst h; simp [stB]
  have hi : 0 ≤ Lib.indexByte r b := by rw [← stB_index] at hs; simpa using hs
  obtain ⟨o, ho⟩ := Int.eq_ofNat_of_zero_le hi
  obtain ⟨h1, h2⟩ := Lib.indexByte_some ho
  have e := hd_index h1 h2
  have e2 : hd b r = x := by rw [h]; exact hd_app hx
  have hlt : o < r.length := (List.getElem?_eq_some_iff.1 h1).1
  have := congrArg List.length (e2.symm.trans e)
  rw [List.length_take] at this
  rw [ho]; congr 1; omega

set_option maxRecDepth 100000 in
set_option maxHeartbeats 1000000 in
theorem seq1_in (n : Nat) (hn : 1 ≤ n) (l Bp Bs Bv : Nat) (s : List UInt8) (b : UInt8) (hs : s.length ≤ 1073741824)
    (J : List (List UInt8) → World → Prop) (W : World) (hJs : ∀ s W v, J s W → J s (W.setCell ⟨Bs, 0, none⟩ v))
    (hY : ∀ pre x W, J pre W → pre ++ [x] <+: split b s → YieldAt Fence.wide (n - 1) Tryz.prog l #[.string (ba x)] W fun e W' => e = .returned (.bool true) ∧ J (pre ++ [x]) W' ∧ Kp3 Bp Bs Bv W W')
    (hBp : Boxed W Bp 9 (.string ⟨#[b]⟩)) (hBs : Boxed W Bs 9 (.string (ba s))) (hBv : Boxed W Bv 3 (.int .i64 0)) (hn1 : Bp ≠ Bs) (hn2 : Bv ≠ Bs) (h0 : J [] W) :
    CallsIn Fence.wide n Tryz.prog 78 #[.func (.yield l) #[] #[], .pointer (some ⟨Bp, 0, none⟩), .pointer (some ⟨Bs, 0, none⟩), .pointer (some ⟨Bv, 0, none⟩)] W fun e W' => (∃ v, e = .returned v) ∧ J (split b s) W' := by
  have HY := Lib.hid hY
  have HJ := Lib.hid hJs
  have hcp := hBp.cell
  clear hY hJs
  refine callsIn_of_wp Tryz.func78 rfl trivial ?_ rfl
  simp only [Tryz.ntmps78, List.size_toArray, List.length_cons, List.length_nil, Nat.reduceAdd, Nat.reduceSub, Array.replicate_succ, Array.replicate_zero, List.push_toArray, List.append_toArray, List.nil_append, List.cons_append]
  gi_wp2
  clear hcp
  gi_loopw [7] (fun i wr => ∃ (r : List UInt8) (pre : List (List UInt8)), r.length ≤ s.length ∧ Hid (pre ++ split b r = split b s) ∧ J pre wr ∧ Boxed wr Bp 9 (.string ⟨#[b]⟩) ∧ Boxed wr Bs 9 (.string (ba r)) ∧ Boxed wr Bv 3 (.int .i64 0))
    (fun _ wr => rest wr Bs)
  case atStart => exact ⟨s, [], Nat.le_refl _, Lib.hid rfl, h0, hBp, hBs, hBv⟩
  case round =>
    obtain ⟨r, pre, hr, HP, hj, bp, bs, bv⟩ := hrel
    clear hBp hBs hBv h0
    have hcp := bp.cell
    have hcs := bs.cell
    have hcv := bv.cell
    cases hst : stB b r with
    | false =>
      have HI : Hid (CallsIn Fence.wide (n - 1) Tryz.prog 25 #[.string (ba r), .string ⟨#[b]⟩] wr fun e w' => e = .returned (.int .i64 (-1)) ∧ wr = w') := by
        have hge := Lib.indexByte_ge r b
        have hm1 : Lib.indexByte r b = -1 := by rw [← stB_index] at hst; simp at hst; omega
        have := Tryz.strings_Index_one (ba r) b wr
        rw [toList_ba, hm1] at this
        exact Lib.hid (callsIn_wide.2 (this.mono fun _ _ h => ⟨h.1, h.2.symm⟩))
      have HE := Lib.hid (split_one hst)
      rw [HE.out] at HP
      obtain ⟨fn, tmps, assign, body, hy, hR⟩ := HY.out pre r wr hj (by rw [HP.out]; exact List.prefix_refl _)
      clear hst hj
      gi_wp2_with fail
      refine ⟨trivial, HI.out.mono ?_⟩
      rintro e w' ⟨rfl, rfl⟩
      gi_wp2
      refine hR.mono ?_
      rintro e W3 ⟨rfl, hJ3, hk3⟩
      gi_wp2
      refine bodyPost_end (results_none rfl _ _ _) rfl ?_
      exact ⟨⟨_, rfl⟩, by rw [← HP.out]; exact hJ3⟩
    | true =>
      obtain ⟨x, y, HX, hx⟩ : ∃ x y, Hid (r = x ++ b :: y) ∧ stB b x = false := by
        refine ⟨hd b r, _, Lib.hid (hd_more hst), hd_nofind b r⟩
      have hrl : r.length = x.length + y.length + 1 := by rw [HX.out]; simp; omega
      have HI : Hid (CallsIn Fence.wide (n - 1) Tryz.prog 25 #[.string (ba r), .string ⟨#[b]⟩] wr fun e w' => e = .returned (.int .i64 (x.length : Int)) ∧ wr = w') := by
        have h2 : Lib.indexByte r b = (x.length : Int) := idx_app hx HX.out
        have := Tryz.strings_Index_one (ba r) b wr
        rw [toList_ba, h2] at this
        exact Lib.hid (callsIn_wide.2 (this.mono fun _ _ h => ⟨h.1, h.2.symm⟩))
      have HE : Hid (pre ++ [x] ++ split b y = split b s) := Lib.hid (by rw [← HP.out, HX.out, split_cons hx]; simp)
      obtain ⟨fn, tmps, assign, body, hy, hR⟩ := HY.out pre x wr hj ⟨_, HE.out⟩
      have HL : Hid ((ba r).extract 0 x.length = ba x) := Lib.hid (by rw [HX.out]; exact cutl x y b)
      have hsz : (ba r).size = x.length + y.length + 1 := by rw [ba_size, hrl]
      have HR : Hid ((ba r).extract (x.length + 1) (x.length + y.length + 1) = ba y) := Lib.hid (by rw [← hsz, HX.out]; exact cutr x y b)
      have HW : Hid (rest wr Bs = x.length + y.length + 1) := Lib.hid (by rw [rest_of hcs, hsz])
      have hl0 := HL.out
      have hr0 := HR.out
      clear hst hj hx
      gi_wp2_with fail
      refine ⟨trivial, HI.out.mono ?_⟩
      rintro e w' ⟨rfl, rfl⟩
      gi_wp2
      refine hR.mono ?_
      rintro e W3 ⟨rfl, hJ3, hk3⟩
      have bp3 : Boxed W3 Bp 9 (.string ⟨#[b]⟩) := hk3.1.trans bp
      have bs3 : Boxed W3 Bs 9 (.string (ba r)) := hk3.2.1.trans bs
      have bv3 : Boxed W3 Bv 3 (.int .i64 0) := hk3.2.2.trans bv
      clear hR hy hcp hcs hcv bp bs bv
      have hcp3 := bp3.cell
      have hcs3 := bs3.cell
      have hfs3 := bs3.frozen
      gi_wp2
      go_roundw
      case rel => exact ⟨y, pre ++ [x], by omega, HE, HJ.out _ _ _ hJ3, bp3.other hn1 _, bs3.set _, bv3.other hn2 _⟩
      case measure =>
        rw [rest_of (bs3.set (.string (ba y))).cell, HW.out, ba_size]
        omega

theorem split_in (n : Nat) (s sep : ByteArray) (w : World) :
    CallsIn Fence.wide n Tryz.prog 62 #[.string s, .string sep, .int .i64 0] w fun e w' => e = .returned (.func (.func 78) #[] #[.pointer (some ⟨w.heap.size + 1, 0, none⟩), .pointer (some ⟨w.heap.size, 0, none⟩), .pointer (some ⟨w.heap.size + 2, 0, none⟩)]) ∧ w' = ((w.alloc (.cells #[.string s] 9)).alloc (.cells #[.string sep] 9)).alloc (.cells #[.int .i64 0] 3) := by
  refine callsIn_of_wp Tryz.func62 rfl trivial ?_ rfl
  simp only [Tryz.ntmps62, List.size_toArray, List.length_cons, List.length_nil, Nat.reduceAdd, Nat.reduceSub, Array.replicate_succ, Array.replicate_zero, List.push_toArray, List.append_toArray, List.nil_append, List.cons_append]
  gi_wp2
  go_ret
  exact ⟨rfl, rfl⟩
theorem seq_in (n : Nat) (s sep : ByteArray) (w : World) :
    CallsIn Fence.wide n Tryz.prog 47 #[.string s, .string sep] w fun e w' => e = .returned (.func (.func 78) #[] #[.pointer (some ⟨w.heap.size + 1, 0, none⟩), .pointer (some ⟨w.heap.size, 0, none⟩), .pointer (some ⟨w.heap.size + 2, 0, none⟩)]) ∧ w' = ((w.alloc (.cells #[.string s] 9)).alloc (.cells #[.string sep] 9)).alloc (.cells #[.int .i64 0] 3) := by
  refine callsIn_of_wp Tryz.func47 rfl trivial ?_ rfl
  simp only [Tryz.ntmps47, List.size_toArray, List.length_cons, List.length_nil, Nat.reduceAdd, Nat.reduceSub, Array.replicate_succ, Array.replicate_zero, List.push_toArray, List.append_toArray, List.nil_append, List.cons_append]
  gi_wp2_with fail
  refine ⟨trivial, (fun h => by cases h), (split_in (n - 1) s sep w).mono ?_⟩
  rintro e w' ⟨rfl, rfl⟩
  gi_wp2
  go_ret
  exact ⟨rfl, rfl⟩
theorem seq_yields (n : Nat) (hn : 1 ≤ n) (Bp Bs Bv : Nat) (s : List UInt8) (b : UInt8) (hs : s.length ≤ 1073741824) (w : World)
    (hBp : Boxed w Bp 9 (.string ⟨#[b]⟩)) (hBs : Boxed w Bs 9 (.string (ba s))) (hBv : Boxed w Bv 3 (.int .i64 0)) (hn1 : Bp ≠ Bs) (hn2 : Bv ≠ Bs) :
    Rf.Yields Fence.wide n Tryz.prog 78 #[.pointer (some ⟨Bp, 0, none⟩), .pointer (some ⟨Bs, 0, none⟩), .pointer (some ⟨Bv, 0, none⟩)] (fun x : List UInt8 => #[Value.string (ba x)]) (Kp3 Bp Bs Bv) (split b s) Bs w :=
  fun l J W hW hB _ hJ hY h0 => seq1_in n hn l Bp Bs Bv s b hs J W hJ hY ((hW.block Bp hBp.lt).trans hBp) (hB.trans hBs) ((hW.block Bv hBv.lt).trans hBv) hn1 hn2 h0
theorem kp3_t {Bp Bs Bv : Nat} {A B C : World} (h : Kp3 Bp Bs Bv A B) (k : Kp3 Bp Bs Bv B C) : Kp3 Bp Bs Bv A C := ⟨k.1.trans h.1, k.2.1.trans h.2.1, k.2.2.trans h.2.2⟩
theorem kp3_b {Bp Bs Bv : Nat} {w : World} (h1 : Bp < w.heap.size) (h2 : Bs < w.heap.size) (h3 : Bv < w.heap.size) (W : World) (l : Nat) (o o' : Obj) (hl : w.heap.size ≤ l) (_ : W.heap[l]? = some o) (_ : o.isCells = false) (_ : o.isWalk = false) : Kp3 Bp Bs Bv W (W.putObj l o') :=
  ⟨World.putObj_heap_other (by omega), World.putObj_heap_other (by omega), World.putObj_heap_other (by omega)⟩
end Go.Proofs.YtobjfmchnlnohaaGreatDoor.Sq
