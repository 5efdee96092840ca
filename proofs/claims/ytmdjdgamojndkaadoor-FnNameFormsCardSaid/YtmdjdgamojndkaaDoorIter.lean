/-
  Contracts of impl.pieces (a function iterator) and impl.SplitString.
-/
import Derived.Test.YtmdjdgamojndkaaDoorRows
import Derived.Test.YtmdjdgamojndkaaDoorPlain
import Derived.Test.YtmdjdgamojndkaaDoorSplit
import Derived.RangeFuncNested
import Derived.RangeFuncBound
import Derived.RangeFuncCalls
import Derived.RangeFuncLeaves
import Derived.Shelf.Abstract
import Derived.Shelf.RegionOpen
import Derived.WalkKit
import Derived.OwnWalkIn
import Derived.TacticsInMore
import Derived.LoopNIn
import Derived.LoopIn
import Derived.Lib.Hide
import Derived.WalkMore
import Derived.Maps.AppendAt
import Derived.Maps.OwnIn
namespace Go.Proofs.YtmdjdgamojndkaaDoor.Iter
open Go.RowKit Go.Shelf Pl
attribute [local go_sem] Oper.semAt_some

theorem scopeW {n : Nat} {P : Program} {c : Code} {Q : Exit → Act → World → Prop} {a : Act} {w : World} (h : c.wpIn Fence.wide n P (Exit.noGoto Q) a w) : (Code.scope c).wpIn Fence.wide n P Q a w :=
  wpIn_wide.2 (wp_scope_straight (wpIn_wide.1 h))

theorem grown_drew (w : World) : w.grownBy w.drew none := ⟨rfl, rfl, rfl, Nat.le_refl _, fun _ _ _ => rfl⟩

/-- what a round must keep: the two boxes of the iterator -/
def KpB (Bs Bc : Nat) (W W' : World) : Prop := W'.heap[Bs]? = W.heap[Bs]? ∧ W'.heap[Bc]? = W.heap[Bc]?

set_option maxRecDepth 100000 in
set_option maxHeartbeats 1000000 in
theorem pieces1_in (n : Nat) (hn : 1 ≤ n) (l Bs Bc : Nat) (s : ByteArray) (b : UInt8) (hs : s.size ≤ 1073741824)
    (J Jx : List (List UInt8) → World → Prop) (W : World) (hJ : AbidesFrom W.heap.size J)
    (hY : ∀ pre x W, J pre W → pre.length < (split b s.data.toList).length → YieldAt Fence.wide (n - 1) Tryd.prog l #[.string (ba x)] W fun e W' =>
      (e = .returned (.bool true) ∧ J (pre ++ [x]) W' ∧ KpB Bs Bc W W') ∨ (e = .returned (.bool false) ∧ Jx (pre ++ [x]) W'))
    (hBs : W.cell? ⟨Bs, 0, none⟩ = some (.string s)) (hBc : W.cell? ⟨Bc, 0, none⟩ = some (.int .u8 b.toNat)) (h0 : J [] W) :
    CallsIn Fence.wide n Tryd.prog 56 #[.func (.yield l) #[] #[], .pointer (some ⟨Bs, 0, none⟩), .pointer (some ⟨Bc, 0, none⟩)] W fun e W' => (∃ v, e = .returned v) ∧
      ((∃ ys, ys = split b s.data.toList ∧ J ys W') ∨ (∃ pre, True ∧ Jx pre W')) := by
  have HY := Lib.hid hY
  have HJ := Lib.hid hJ
  clear hY hJ
  refine callsIn_of_wp Tryd.func56 rfl trivial ?_ rfl
  simp only [Tryd.ntmps56, List.size_toArray, List.length_cons, List.length_nil, Nat.reduceAdd, Nat.reduceSub, Array.replicate_succ, Array.replicate_zero, List.push_toArray, List.append_toArray, List.nil_append, List.cons_append]
  gi_wp2
  refine scopeW ?_
  gi_wp2
  refine wpIn_label ?_
  gi_wp2
  gi_loopw [4] (fun st wr => ∃ (f : Nat) (pre : List (List UInt8)), f ≤ s.size ∧ st = .int .i64 f ∧ Hid (spC b (s.data.toList.take f) = []) ∧ Hid (pre = spD b (s.data.toList.take f)) ∧ J pre wr ∧ wr.cell? ⟨Bs, 0, none⟩ = some (.string s) ∧ wr.cell? ⟨Bc, 0, none⟩ = some (.int .u8 b.toNat))
    (fun st _ => s.size + 1 - (intOf st).toNat)
  case atStart => exact ⟨0, [], Nat.zero_le _, rfl, Lib.hid rfl, Lib.hid rfl, h0, hBs, hBc⟩
  case round =>
    obtain ⟨f, pre, hf, rfl, HC, HD, hJs, hcs, hcc⟩ := hrel
    clear hBs hBc h0
    gi_wp2
    gi_loopw [4, 5] (fun st i wr2 => ∃ (k : Nat), st = .int .i64 f ∧ f ≤ k ∧ k ≤ s.size ∧ i = .int .i64 k ∧ Hid (f + (spC b (s.data.toList.take k)).length = k) ∧ Hid (pre = spD b (s.data.toList.take k)) ∧ J pre wr2 ∧ wr2.cell? ⟨Bs, 0, none⟩ = some (.string s) ∧ wr2.cell? ⟨Bc, 0, none⟩ = some (.int .u8 b.toNat))
      (fun _ i _ => s.size - (intOf i).toNat)
    case atStart => exact ⟨f, rfl, Nat.le_refl _, hf, rfl, Lib.hid (by rw [HC.out]; rfl), HD, hJs, hcs, hcc⟩
    case round =>
      obtain ⟨k, rfl, hfk, hk, rfl, HF, HD2, hJ2, hcs2, hcc2⟩ := hrel
      clear hcs hcc hJs
      by_cases hlt : k < s.size
      · have HT := Lib.hid (take_snoc s k hlt)
        have hJd : J pre wr.drew := HJ.out pre wr wr.drew none hJ2 (grown_drew wr) (fun r e => by cases e)
        by_cases hx : s[k] = b
        · have hq : ((s[k].toNat : Int) != (b.toNat : Int)) = false := by simp [hx]
          have HX := Lib.hid hx
          clear hx
          obtain ⟨x, HXC⟩ : ∃ x, Hid (x = spC b (s.data.toList.take k)) := ⟨_, Lib.hid rfl⟩
          have he : s.extract f k = ba x := by rw [HXC.out]; exact Split.cut_of b s k f hk HF.out
          have hlen : pre.length < (split b s.data.toList).length := by rw [HD2.out]; exact spD_take_lt b _ k
          obtain ⟨fn, tmps, assign, body, hy, hR⟩ := HY.out pre x wr.drew hJd hlen
          clear hJ2 hJd hlen
          gi_wp2
          gi_region
          gi_wp2
          refine hR.mono ?_
          rintro e W3 (⟨rfl, hJ3, hk3⟩ | ⟨rfl, hJx3⟩)
          · have hcs3 : W3.cell? ⟨Bs, 0, none⟩ = some (.string s) := (World.cell?_of_block (a := ⟨Bs, 0, none⟩) hk3.1).trans hcs2
            have hcc3 : W3.cell? ⟨Bc, 0, none⟩ = some (.int .u8 b.toNat) := (World.cell?_of_block (a := ⟨Bc, 0, none⟩) hk3.2).trans hcc2
            clear hR hy hcs2 hcc2
            gi_wp2
            go_roundw
            case rel =>
              have e : s.data.toList.take (k + 1) = s.data.toList.take k ++ [s[k]] := HT.out
              exact ⟨k + 1, pre ++ [x], by omega, by go_num, Lib.hid (by rw [e, spC_hit b _ HX.out]), Lib.hid (by rw [e, spD_hit b _ HX.out, HD2.out, HXC.out]), hJ3, hcs3, hcc3⟩
            case measure => simp [intOf]; omega
          · gi_wp2
            rw [Exit.noGoto_ret]
            refine bodyPost_ret (results_none rfl _ _ _) rfl ?_
            exact ⟨⟨_, rfl⟩, .inr ⟨pre ++ [x], trivial, hJx3⟩⟩
        · have hq : ((s[k].toNat : Int) != (b.toNat : Int)) = true := by
            rw [bne_iff_ne]; intro h; exact hx (UInt8.toNat_inj.1 (by omega))
          have HX := Lib.hid hx
          clear hx hJ2
          gi_wp2
          gi_region
          gi_wp2
          go_roundw
          case rel =>
            have e : s.data.toList.take (k + 1) = s.data.toList.take k ++ [s[k]] := HT.out
            exact ⟨k + 1, rfl, by omega, by omega, by go_num, Lib.hid (by have := HF.out; rw [e, spC_miss b _ HX.out]; simp; omega), Lib.hid (by rw [e, spD_miss b _ HX.out]; exact HD2.out), hJd, hcs2, hcc2⟩
          case measure => simp [intOf]; omega
      · have HE := Lib.hid (take_all s k (by omega))
        obtain rfl : k = s.size := by omega
        obtain ⟨x, HXC⟩ : ∃ x, Hid (x = spC b (s.data.toList.take s.size)) := ⟨_, Lib.hid rfl⟩
        have he : s.extract f s.size = ba x := by rw [HXC.out]; exact Split.cut_of b s s.size f hk HF.out
        have hlen : pre.length < (split b s.data.toList).length := by rw [HD2.out]; exact spD_take_lt b _ s.size
        obtain ⟨fn, tmps, assign, body, hy, hR⟩ := HY.out pre x wr hJ2 hlen
        clear hJ2 hlen
        gi_wp2
        refine hR.mono ?_
        rintro e W3 (⟨rfl, hJ3, hk3⟩ | ⟨rfl, hJx3⟩)
        · gi_wp2
          rw [Exit.noGoto_ret]
          refine bodyPost_ret (results_none rfl _ _ _) rfl ?_
          refine ⟨⟨_, rfl⟩, .inl ⟨pre ++ [x], ?_, hJ3⟩⟩
          rw [HD2.out, HXC.out, HE.out]; rfl
        · gi_wp2
          rw [Exit.noGoto_ret]
          refine bodyPost_ret (results_none rfl _ _ _) rfl ?_
          exact ⟨⟨_, rfl⟩, .inr ⟨pre ++ [x], trivial, hJx3⟩⟩

theorem pieces_in (n : Nat) (s : ByteArray) (b : UInt8) (w : World) :
    CallsIn Fence.wide n Tryd.prog 38 #[.string s, .int .u8 b.toNat] w fun e w' => e = .returned (.func (.func 56) #[] #[.pointer (some ⟨w.heap.size, 0, none⟩), .pointer (some ⟨w.heap.size + 1, 0, none⟩)]) ∧ w' = (w.alloc (.cells #[.string s] 9)).alloc (.cells #[.int .u8 b.toNat] 5) := by
  refine callsIn_of_wp Tryd.func38 rfl trivial ?_ rfl
  simp only [Tryd.ntmps38, List.size_toArray, List.length_cons, List.length_nil, Nat.reduceAdd, Nat.reduceSub, Array.replicate_succ, Array.replicate_zero, List.push_toArray, List.append_toArray, List.nil_append, List.cons_append]
  gi_wp2
  go_ret
  exact ⟨rfl, rfl⟩

theorem pieces_stops (n : Nat) (hn : 1 ≤ n) (Bs Bc : Nat) (s : ByteArray) (b : UInt8) (hs : s.size ≤ 1073741824) (w : World) (hBs : Boxed w Bs 9 (.string s)) (hBc : Boxed w Bc 5 (.int .u8 b.toNat)) :
    SeqStopsK Fence.wide n Tryd.prog 56 #[.pointer (some ⟨Bs, 0, none⟩), .pointer (some ⟨Bc, 0, none⟩)] (fun x : List UInt8 => #[Value.string (ba x)]) (KpB Bs Bc) (fun ys => ys = split b s.data.toList) (fun _ => True) (split b s.data.toList).length w := fun l J Jx W hW hJ _ hY h0 =>
  pieces1_in n hn l Bs Bc s b hs J Jx W hJ hY ((hW.cell (p := ⟨Bs, 0, none⟩) hBs.lt).trans hBs.cell) ((hW.cell (p := ⟨Bc, 0, none⟩) hBc.lt).trans hBc.cell) h0

theorem kpb_b {Bs Bc : Nat} {w : World} (h1 : Bs < w.heap.size) (h2 : Bc < w.heap.size) (W : World) (l : Nat) (o o' : Obj) (hl : w.heap.size ≤ l) (_ : W.heap[l]? = some o) (_ : o.isCells = false) (_ : o.isWalk = false) : KpB Bs Bc W (W.putObj l o') :=
  ⟨World.putObj_heap_other (by omega), World.putObj_heap_other (by omega)⟩
theorem kpb_t {Bs Bc : Nat} {A B C : World} (h : KpB Bs Bc A B) (k : KpB Bs Bc B C) : KpB Bs Bc A C := ⟨k.1.trans h.1, k.2.trans h.2⟩

set_option maxRecDepth 100000 in
set_option maxHeartbeats 2000000 in
theorem split_in (n : Nat) (hn : 3 ≤ n) (s sep : ByteArray) (w : World) (hs : s.size ≤ 4000) (hp : 0 < sep.size) (h1 : sep.size = 1) :
    CallsIn Fence.wide n Tryd.prog 19 #[.string s, .string sep] w fun e W' => ∃ v, e = .returned (.tuple #[v, .bool true]) ∧ W'.ownsRow w.heap.size 9 1 v (split sep[0] s.data.toList).length (Split.cs (split sep[0] s.data.toList)) ∧ Below w.heap.size w W' := by
  have hn1 : ((sep.size : Int) != 1) = false := by simp [h1]
  have hn4 : decide (4000 < (s.size : Int)) = false := by simp; omega
  have hnn : 1 ≤ n := by omega
  obtain ⟨i0, hi, hz0, hz1, hz2⟩ := info_parts Split.infoStr
  clear h1
  obtain ⟨b, HB⟩ : ∃ b, Hid (b = sep[0]) := ⟨_, Lib.hid rfl⟩
  rw [← HB.out]
  have hsb : (sep[0].toNat : Int) = (b.toNat : Int) := by rw [HB.out]
  refine callsIn_of_wp_marks Tryd.func19 rfl trivial ?_ rfl
  simp only [Tryd.ntmps19, List.size_toArray, List.length_cons, List.length_nil, Nat.reduceAdd, Nat.reduceSub, Array.replicate_succ, Array.replicate_zero, List.push_toArray, List.append_toArray, List.nil_append, List.cons_append]
  gi_wp2_with (refine ⟨trivial, ?_⟩; gi_at_call 38; refine (pieces_in (n - 1) s b _).mono ?_; rintro e w' ⟨rfl, rfl⟩)
  have bO := Boxed.new (w.alloc (.cells #[] 9)) 24 (.slice (some ⟨w.heap.size, 0, none⟩) 0 0)
  rw [World.size_alloc] at bO
  have bS := (Boxed.new ((w.alloc (.cells #[] 9)).alloc (.cells #[.slice (some ⟨w.heap.size, 0, none⟩) 0 0] 24)) 9 (.string s)).alloc (.cells #[.int .u8 b.toNat] 5)
  have bC := Boxed.new (((w.alloc (.cells #[] 9)).alloc (.cells #[.slice (some ⟨w.heap.size, 0, none⟩) 0 0] 24)).alloc (.cells #[.string s] 9)) 5 (.int .u8 b.toNat)
  have bO2 := (bO.alloc (.cells #[.string s] 9)).alloc (.cells #[.int .u8 b.toNat] 5)
  have hR0 := ((((World.ownsRow_lit (e := 9) (size := 1) w #[] 0 (Nat.le_refl _) (Nat.zero_le _) rfl).alloc (.cells #[.slice (some ⟨w.heap.size, 0, none⟩) 0 0] 24)).alloc (.cells #[.string s] 9)).alloc (.cells #[.int .u8 b.toNat] 5))
  have hB0 : Below w.heap.size w ((((w.alloc (.cells #[] 9)).alloc (.cells #[.slice (some ⟨w.heap.size, 0, none⟩) 0 0] 24)).alloc (.cells #[.string s] 9)).alloc (.cells #[.int .u8 b.toNat] 5)) :=
    ((((Below.refl _ w).alloc (Nat.le_refl _) _).alloc (by simp) _).alloc (by simp; omega) _).alloc (by simp; omega) _
  have hzz : ((((w.alloc (.cells #[] 9)).alloc (.cells #[.slice (some ⟨w.heap.size, 0, none⟩) 0 0] 24)).alloc (.cells #[.string s] 9)).alloc (.cells #[.int .u8 b.toNat] 5)).heap.size = w.heap.size + 4 := by simp
  rw [World.size_alloc, World.size_alloc] at bS
  rw [World.size_alloc, World.size_alloc, World.size_alloc] at bC
  generalize (((w.alloc (.cells #[] 9)).alloc (.cells #[.slice (some ⟨w.heap.size, 0, none⟩) 0 0] 24)).alloc (.cells #[.string s] 9)).alloc (.cells #[.int .u8 b.toNat] 5) = WS at *
  clear bO
  have HZ := Lib.hid hzz
  clear hzz hsb hn1 hn4
  have hsl := spC_le b s.data.toList
  have hsz : (split b s.data.toList).length ≤ s.size + 1 := by rw [len_size] at hsl; simp [split]; omega
  refine wpIn_rangeFunc_ownG (w0 := WS) rfl hnn (gf := 56) (lb := #[.pointer (some ⟨w.heap.size + 1 + 1, 0, none⟩), .pointer (some ⟨w.heap.size + 1 + 1 + 1, 0, none⟩)]) rfl trivial (enters_of Tryd.func56 (by kernel_rfl) rfl)
    (pieces_stops (n - 1) (by omega) (w.heap.size + 1 + 1) (w.heap.size + 1 + 1 + 1) s b (by omega) WS bS bC) kpb_t (kpb_b bS.lt bC.lt) (Below.refl _ _) (fun _ => rfl)
    (fun pre W => ((∃ v, Boxed W (w.heap.size + 1) 24 v ∧ W.ownsRow w.heap.size 9 1 v pre.length (Split.cs pre) ∧ v.ownBlock ≠ some (w.heap.size + 1 + 1)) ∧ Below w.heap.size w W) ∧ (Boxed W (w.heap.size + 1 + 1) 9 (.string s) ∧ Boxed W (w.heap.size + 1 + 1 + 1) 5 (.int .u8 b.toNat)))
    (fun _ _ _ => False)
    (OwnFrom.and (OwnFrom.and (Own.from (holdsRow_own w.heap.size (w.heap.size + 1) 24 9 1 (fun pre => pre.length) (fun pre => Split.cs pre) (fun _ v => v.ownBlock ≠ some (w.heap.size + 1 + 1))) _) (ownFrom_below (Nat.le_refl _) hB0.size)) (OwnFrom.and (Own.from (boxed_own _ _ (fun _ => .string s)) _) (Own.from (boxed_own _ _ (fun _ => .int .u8 b.toNat)) _)))
    (fun _ _ _ _ _ hs _ _ => hs)
    ⟨⟨⟨_, bO2, hR0, by simp only [Value.ownBlock, ne_eq, Option.some.injEq]; omega⟩, hB0⟩, bS, bC⟩
    (fun x => { tmps := #[.string s, .string sep, undef, undef, .slice none 0 0, .bool false, .pointer (some ⟨w.heap.size + 1, 0, none⟩), .string (ba x), .string s, .int .i64 s.size, .bool false, .bool false, .string sep, .int .i64 sep.size, .bool false, .bool false, undef, .slice (some ⟨w.heap.size, 0, none⟩) 0 0, .string s, .string sep, .int .u8 b.toNat,
          .func (.func 56) #[] #[.pointer (some ⟨w.heap.size + 1 + 1, 0, none⟩), .pointer (some ⟨w.heap.size + 1 + 1 + 1, 0, none⟩)], .string (ba x), undef, undef, undef, undef, undef], defers := [] }) ?assign ?body ?done ?stop
  case assign =>
    intro l x W K hK
    gi_wp2
    exact hK
  case body =>
    rintro l pre x W ⟨⟨⟨v, hv, hrow, hne⟩, hB⟩, hbs, hbc⟩ hlt
    have hc := hv.cell
    have hBs := hB.size
    gi_wp2_with (gi_at_builtin; refine wpListIn_append_own_at _ rfl _ _ 24 rfl w.heap.size 9 i0 (.string ByteArray.empty) 1 16 Tryd.underlying24 hi hz0 hz1 hz2 rfl (by decide) _ _ _ rfl (hrow.alloc _) ⟨W.heap.size, 0, none⟩ 1 1 [.string (ba x)] rfl rfl (cell_one_new _ _ _) (by simp [Value.oneCell']) (by unfold maxLen; omega) (by omega) (by simp; omega) ?_; intro v' w1 hown' hgrow _ hat; obtain ⟨g', cap', rfl⟩ := ownsRow_succ hown'; obtain ⟨hv1, hv2, hr2, hk2, hb2⟩ := hv.appended (by decide) hrow hBs (by omega) hown' hgrow; have hc1 := hv1.cell; have hf1 := hv1.frozen)
    have kbs := ((hbs.alloc _).kept hgrow (fun e => hne e.symm)).other (B' := w.heap.size + 1) (by omega) (.slice (some ⟨g', 0, none⟩) (pre.length + 1) cap')
    have kbc := ((hbc.alloc _).kept hgrow (hbc.not_row (by decide) hrow)).other (B' := w.heap.size + 1) (by omega) (.slice (some ⟨g', 0, none⟩) (pre.length + 1) cap')
    refine ⟨hk2.from _, ⟨kbs.trans hbs.symm, kbc.trans hbc.symm⟩, ⟨⟨_, hv2, ?_, ?_⟩, hB.trans hb2⟩, kbs, kbc⟩
    · rw [Split.cs_snoc]; simpa using hr2
    · rcases hat with h | h
      · rw [h]; exact hne
      · rw [h]
        have := hbs.lt
        simp only [World.size_alloc, ne_eq, Option.some.injEq]; omega
  case done =>
    rintro D ys W hD rfl ⟨⟨⟨v, hv, hrow, hne⟩, hB⟩, _⟩ hK
    have hc := hv.cell
    gi_wp2
    refine ⟨by simp, .inl ⟨_, _, rfl, run_takeDeferred hK, ?_⟩⟩
    exact ⟨_, results_tmp2 rfl _ _ _, v, rfl, ownsRow_putObj hrow _ hK rfl, hB.trans (belowK_b (w := w) (Nat.le_refl _) W D _ _ (by have := HZ.out; omega) hK rfl rfl)⟩
  case stop =>
    rintro D c pre W _ _ h _
    exact h.elim

theorem split_any (s sep : ByteArray) (w : World) (hs : s.size ≤ 4000) (hp : 0 < sep.size) (h1 : sep.size = 1) :
    Calls Tryd.prog 19 #[.string s, .string sep] w fun e W' => ∃ v, e = .returned (.tuple #[v, .bool true]) ∧ W'.ownsRow w.heap.size 9 1 v (split sep[0] s.data.toList).length (Split.cs (split sep[0] s.data.toList)) ∧ Below w.heap.size w W' :=
  callsIn_wide.1 (split_in 3 (Nat.le_refl _) s sep w hs hp h1)

theorem split_no (s sep : ByteArray) (w : World) (h : 4000 < s.size ∨ sep.size ≠ 1) :
    Calls Tryd.prog 19 #[.string s, .string sep] w fun e w' => e = .returned (.tuple #[.slice (some ⟨w.heap.size, 0, none⟩) 0 0, .bool false]) ∧ w' = w.alloc (.cells #[] 9) := by
  by_cases h4 : 4000 < s.size
  · have hn4 : decide (4000 < (s.size : Int)) = true := by simp; omega
    clear h
    go_enter Tryd.func19, Tryd.ntmps19
    go_wp2_with fail
    go_ret2
    exact ⟨rfl, rfl⟩
  · have hn4 : decide (4000 < (s.size : Int)) = false := by simp; omega
    have hn1 : ((sep.size : Int) != 1) = true := by rw [bne_iff_ne]; omega
    clear h
    go_enter Tryd.func19, Tryd.ntmps19
    go_wp2_with fail
    go_ret2
    exact ⟨rfl, rfl⟩
end Go.Proofs.YtmdjdgamojndkaaDoor.Iter
