/-
  Contract of titleWords: the words of a title.
-/
import Derived.Test.YtobjfmchnlnohaaGreatDoorSq
import Derived.Test.YtobjfmchnlnohaaGreatDoorRr
import Derived.Test.YtobjfmchnlnohaaGreatDoorMk
import Derived.Test.YtobjfmchnlnohaaGreatDoorWdPl
import Derived.Test.YtobjfmchnlnohaaGreatDoorCs
namespace Go.Proofs.YtobjfmchnlnohaaGreatDoor.Tw
open Go.RowKit Go.Shelf Pl TiPl Cs Sq
set_option linter.unusedVariables false
set_option linter.unusedSimpArgs false
attribute [local go_sem] Oper.semAt_some

/-- what holds between the rounds: the row of words so far, where the next one begins -/
def IW (s : ByteArray) (n0 N1 : Nat) (w : World) (pre : List (List UInt8)) (W : World) : Prop :=
  ((∃ v, Boxed W (n0 + 1 + 1) 26 v ∧ W.ownsRow n0 9 1 v pre.length (cs (cutBy pre s.data.toList)) ∧ v.ownBlock ≠ some n0 ∧ v.ownBlock ≠ some (N1 + 1) ∧ v.ownBlock ≠ some N1 ∧ v.ownBlock ≠ some (N1 + 2)) ∧ Below n0 w W) ∧
    Boxed W n0 9 (.string s) ∧ Boxed W (n0 + 1 + 1 + 1) 3 (.int .i64 (off pre)) ∧ Boxed W (N1 + 1) 9 (.string ⟨#[32]⟩) ∧ (∃ r, Boxed W N1 9 r) ∧ Boxed W (N1 + 2) 3 (.int .i64 0)
theorem iw_own (s : ByteArray) (n0 N1 : Nat) (w : World) (B : Nat) (hB : n0 ≤ B) (hw : n0 = w.heap.size) : OwnFrom B (IW s n0 N1 w) :=
  OwnFrom.and (OwnFrom.and (Own.from (holdsRow_own n0 (n0 + 1 + 1) 26 9 1 (fun pre => pre.length) (fun pre => cs (cutBy pre s.data.toList)) (fun _ v => v.ownBlock ≠ some n0 ∧ v.ownBlock ≠ some (N1 + 1) ∧ v.ownBlock ≠ some N1 ∧ v.ownBlock ≠ some (N1 + 2))) _) (ownFrom_below (by omega) hB))
    (OwnFrom.and (Own.from (boxed_own _ _ (fun _ => .string s)) _) (OwnFrom.and (Own.from (boxed_own _ _ (fun pre => .int .i64 (off pre))) _) (OwnFrom.and (Own.from (boxed_own _ _ (fun _ => .string ⟨#[32]⟩)) _)
      (OwnFrom.and (Own.from (fun p X Y row ⟨r, h⟩ hg hr => ⟨r, boxed_own N1 9 (fun _ : List (List UInt8) => r) p X Y row h hg hr⟩) _) (Own.from (boxed_own _ _ (fun _ => .int .i64 0)) _)))))
theorem iw_set (s : ByteArray) (n0 N1 : Nat) (w : World) (hz : n0 + 4 ≤ N1) (hw : n0 = w.heap.size) : ∀ p W v, IW s n0 N1 w p W → IW s n0 N1 w p (W.setCell ⟨N1, 0, none⟩ v) := by
  rintro p W u ⟨⟨⟨v, hv, hrow, h0, h1, h2, h3⟩, hB⟩, hS, hI, hbp, ⟨r, hr⟩, hbv⟩
  exact ⟨⟨⟨v, hv.other (by omega) _, hrow.kept (grownBy_setCell' W N1 u) (.inr h2), h0, h1, h2, h3⟩, hB.setCell (by show n0 ≤ N1; omega) _⟩, hS.other (by omega) _, hI.other (by omega) _, hbp.other (by omega) _, ⟨_, hr.set _⟩, hbv.other (by omega) _⟩

set_option maxRecDepth 100000 in
set_option maxHeartbeats 2000000 in
theorem words_in (n : Nat) (hn : 3 ≤ n) (s : ByteArray) (w : World) (hs : s.size ≤ 1048576) :
    CallsIn Fence.wide n Tryz.prog 22 #[.string s] w fun e W' => ∃ v, e = .returned v ∧ W'.ownsRow w.heap.size 9 1 v (words s.data.toList).length (cs (words s.data.toList)) ∧ Below w.heap.size w W' := by
  have hnn : 1 ≤ n := by omega
  obtain ⟨i0, hi, hz0, hz1, hz2⟩ := info_parts infoStr
  refine callsIn_of_wp_marks Tryz.func22 rfl trivial ?_ rfl
  simp only [Tryz.ntmps22, List.size_toArray, List.length_cons, List.length_nil, Nat.reduceAdd, Nat.reduceSub, Array.replicate_succ, Array.replicate_zero, List.push_toArray, List.append_toArray, List.nil_append, List.cons_append]
  gi_wp2_with fail
  have bS := ((Boxed.new w 9 (.string s)).alloc (.cells #[] 9)).alloc (.cells #[.slice (some ⟨w.heap.size + 1, 0, none⟩) 0 0] 26) |>.alloc (.cells #[.int .i64 0] 3)
  have bV := (Boxed.new ((w.alloc (.cells #[.string s] 9)).alloc (.cells #[] 9)) 26 (.slice (some ⟨w.heap.size + 1, 0, none⟩) 0 0)).alloc (.cells #[.int .i64 0] 3)
  have bI := Boxed.new (((w.alloc (.cells #[.string s] 9)).alloc (.cells #[] 9)).alloc (.cells #[.slice (some ⟨w.heap.size + 1, 0, none⟩) 0 0] 26)) 3 (.int .i64 0)
  rw [World.size_alloc, World.size_alloc] at bV
  rw [World.size_alloc, World.size_alloc, World.size_alloc] at bI
  have hR0 := (((World.ownsRow_lit (e := 9) (size := 1) (w.alloc (.cells #[.string s] 9)) #[] 0 (Nat.le_refl _) (Nat.zero_le _) rfl).alloc (.cells #[.slice (some ⟨w.heap.size + 1, 0, none⟩) 0 0] 26)).alloc (.cells #[.int .i64 0] 3))
  rw [World.size_alloc] at hR0
  have hB0 : Below w.heap.size w ((((w.alloc (.cells #[.string s] 9)).alloc (.cells #[] 9)).alloc (.cells #[.slice (some ⟨w.heap.size + 1, 0, none⟩) 0 0] 26)).alloc (.cells #[.int .i64 0] 3)) :=
    ((((Below.refl _ w).alloc (Nat.le_refl _) _).alloc (by simp) _).alloc (by simp; omega) _).alloc (by simp; omega) _
  have hzz : ((((w.alloc (.cells #[.string s] 9)).alloc (.cells #[] 9)).alloc (.cells #[.slice (some ⟨w.heap.size + 1, 0, none⟩) 0 0] 26)).alloc (.cells #[.int .i64 0] 3)).heap.size = w.heap.size + 4 := by simp
  have hR0 := row_base (b' := w.heap.size) (by omega) hR0
  generalize ((((w.alloc (.cells #[.string s] 9)).alloc (.cells #[] 9)).alloc (.cells #[.slice (some ⟨w.heap.size + 1, 0, none⟩) 0 0] 26)).alloc (.cells #[.int .i64 0] 3)) = W0 at *
  have HZ := Lib.hid hzz
  clear hzz
  refine ⟨trivial, (callsIn_wide.2 (Mk.mask_any s W0 hs)).mono ?_⟩
  rintro e W1 ⟨rfl, hb1⟩
  have hz1' : W0.heap.size ≤ W1.heap.size := hb1.size
  replace bS : Boxed W1 w.heap.size 9 (.string s) := (hb1.block _ bS.lt).trans bS
  replace bV : Boxed W1 (w.heap.size + 1 + 1) 26 (.slice (some ⟨w.heap.size + 1, 0, none⟩) 0 0) := (hb1.block _ bV.lt).trans bV
  replace bI : Boxed W1 (w.heap.size + 1 + 1 + 1) 3 (.int .i64 0) := (hb1.block _ bI.lt).trans bI
  replace hR0 := own_below hR0 hb1
  replace hB0 := hB0.trans (hb1.mono (by rw [HZ.out]; omega))
  have hz4 : w.heap.size + 4 ≤ W1.heap.size := by rw [← HZ.out]; exact hz1'
  clear hb1 hz1' HZ
  gi_wp2_with fail
  refine ⟨trivial, (seq_in (n - 1) _ _ W1).mono ?_⟩
  rintro e W2 ⟨rfl, rfl⟩
  have bs := ((Boxed.new W1 9 (.string (ba (mk s.data.toList)))).alloc (.cells #[.string ⟨#[32]⟩] 9)).alloc (.cells #[.int .i64 0] 3)
  have bp := (Boxed.new (W1.alloc (.cells #[.string (ba (mk s.data.toList))] 9)) 9 (.string ⟨#[32]⟩)).alloc (.cells #[.int .i64 0] 3)
  have bv := Boxed.new ((W1.alloc (.cells #[.string (ba (mk s.data.toList))] 9)).alloc (.cells #[.string ⟨#[32]⟩] 9)) 3 (.int .i64 0)
  rw [World.size_alloc] at bp
  rw [World.size_alloc, World.size_alloc] at bv
  replace bS := ((bS.alloc (.cells #[.string (ba (mk s.data.toList))] 9)).alloc (.cells #[.string ⟨#[32]⟩] 9)).alloc (.cells #[.int .i64 0] 3)
  replace bV := ((bV.alloc (.cells #[.string (ba (mk s.data.toList))] 9)).alloc (.cells #[.string ⟨#[32]⟩] 9)).alloc (.cells #[.int .i64 0] 3)
  replace bI := ((bI.alloc (.cells #[.string (ba (mk s.data.toList))] 9)).alloc (.cells #[.string ⟨#[32]⟩] 9)).alloc (.cells #[.int .i64 0] 3)
  replace hR0 := ((hR0.alloc (.cells #[.string (ba (mk s.data.toList))] 9)).alloc (.cells #[.string ⟨#[32]⟩] 9)).alloc (.cells #[.int .i64 0] 3)
  replace hB0 := ((hB0.alloc (by omega) (.cells #[.string (ba (mk s.data.toList))] 9)).alloc (by simp; omega) (.cells #[.string ⟨#[32]⟩] 9)).alloc (by simp; omega) (.cells #[.int .i64 0] 3)
  have hzz : (((W1.alloc (.cells #[.string (ba (mk s.data.toList))] 9)).alloc (.cells #[.string ⟨#[32]⟩] 9)).alloc (.cells #[.int .i64 0] 3)).heap.size = W1.heap.size + 3 := by simp
  generalize (((W1.alloc (.cells #[.string (ba (mk s.data.toList))] 9)).alloc (.cells #[.string ⟨#[32]⟩] 9)).alloc (.cells #[.int .i64 0] 3)) = WS at *
  have HZ := Lib.hid hzz
  clear hzz
  generalize W1.heap.size = N1 at *
  gi_wp2_with fail
  refine Rf.range_state (F := Fence.wide) (Kp := Kp3 (N1 + 1) N1 (N1 + 2)) (ys := split 32 (mk s.data.toList)) (Bs := N1) (encs := fun x : List UInt8 => #[Value.string (ba x)]) rfl hnn (gf := 78) (lb := #[.pointer (some ⟨N1 + 1, 0, none⟩), .pointer (some ⟨N1, 0, none⟩), .pointer (some ⟨N1 + 2, 0, none⟩)]) rfl trivial (enters_of Tryz.func78 (by kernel_rfl) rfl)
    (seq_yields (n - 1) (by omega) (N1 + 1) N1 (N1 + 2) (mk s.data.toList) 32 (by rw [mk_len, len_size]; omega) WS bp bs bv (by omega) (by omega)) bs.lt kp3_t (kp3_b bp.lt bs.lt bv.lt) (fun _ => rfl)
    (IW s w.heap.size N1 w) (iw_own s w.heap.size N1 w WS.heap.size hB0.size rfl) (iw_set s w.heap.size N1 w hz4 rfl)
    ⟨⟨⟨_, bV, hR0, by simp only [Value.ownBlock, ne_eq, Option.some.injEq]; omega, by simp only [Value.ownBlock, ne_eq, Option.some.injEq]; omega, by simp only [Value.ownBlock, ne_eq, Option.some.injEq]; omega, by simp only [Value.ownBlock, ne_eq, Option.some.injEq]; omega⟩, hB0⟩, bS, bI, bp, ⟨_, bs⟩, bv⟩
    (fun x => { tmps := #[.string s, .pointer (some ⟨w.heap.size, 0, none⟩), .slice none 0 0, .pointer (some ⟨w.heap.size + 1 + 1, 0, none⟩), .pointer (some ⟨w.heap.size + 1 + 1 + 1, 0, none⟩), .string (ba x), undef, .slice (some ⟨w.heap.size + 1, 0, none⟩) 0 0, .string s, .string (ba (mk s.data.toList)),
          .func (.func 78) #[] #[.pointer (some ⟨N1 + 1, 0, none⟩), .pointer (some ⟨N1, 0, none⟩), .pointer (some ⟨N1 + 2, 0, none⟩)], .string (ba x), undef, undef, undef, undef, undef, undef, undef, undef, undef, undef, undef, undef, undef, undef], defers := [] }) ?assign ?body ?done
  case assign =>
    intro l x W K hK
    gi_wp2
    exact hK
  case body =>
    rintro l pre x W ⟨⟨⟨v, hv, hrow, hne0, hne1, hne2, hne3⟩, hB⟩, hS, hI4, hbp, ⟨r, hbs⟩, hbv⟩ hpre
    have hroom := part_room hpre
    rw [mk_len, len_size] at hroom
    have hc3 := hv.cell
    have hc1 := hS.cell
    have hc4 := hI4.cell
    obtain ⟨m, HM⟩ : ∃ m, Hid (m = off pre + x.length) := ⟨_, Lib.hid rfl⟩
    have hmi : ((off pre : Nat) : Int) + ((x.length : Nat) : Int) = ((m : Nat) : Int) := by have := HM.out; omega
    have hbx : (ba x).size = x.length := ba_size x
    have hm1 : off pre ≤ m := by have := HM.out; omega
    have hm2 : m ≤ s.size := by have := HM.out; omega
    have HC := Lib.hid (cut_at s (off pre) x.length)
    have hpl := off_ge pre
    clear hpre hroom
    gi_wp2_with fail
    have hvd : Boxed W.drew (w.heap.size + 1 + 1) 26 v := hv
    have hSd : Boxed W.drew w.heap.size 9 (.string s) := hS
    have hId : Boxed W.drew (w.heap.size + 1 + 1 + 1) 3 (.int .i64 (off pre)) := hI4
    have hrowd : W.drew.ownsRow w.heap.size 9 1 v pre.length (cs (cutBy pre s.data.toList)) := hrow
    have hc3d : W.drew.cell? ⟨w.heap.size + 1 + 1, 0, none⟩ = some v := hvd.cell
    refine Rr.region_in (S := fun W' => W'.cell? ⟨w.heap.size, 0, none⟩ = some (.string s) ∧ W'.cell? ⟨w.heap.size + 1 + 1 + 1, 0, none⟩ = some (.int .i64 (off pre))) (by kernel_rfl) (by kernel_rfl) (by rintro ⟨_, _, h⟩; exact h) ⟨hc1, hc4⟩ (fun hHeld => ?_)
    have hxw := HC.out
    obtain ⟨y, HY⟩ : ∃ y, Hid (y = (s.data.toList.drop (off pre)).take x.length) := ⟨_, Lib.hid rfl⟩
    rw [← HM.out] at hxw
    rw [← HY.out] at hxw
    refine wpAnyH_take (i := 1) (oi := { dst := some 17, op := Op.load 9 (Operand.tmp 1), type := 9, pos := "l6_titles.go:89", after := #[], guard := none }) (v := ?v1) rfl (by kernel_rfl) (by kernel_rfl) (by kernel_rfl) (fun _ _ _ h => h) (Or.inl ⟨by rfl, ?hy1⟩) hHeld ?rest1
    case hy1 =>
      intro w hSw
      try dsimp only at hSw
      go_simp
      try with_reducible rfl
    try simp only [Act.put, List.setIfInBounds_toArray, List.set_cons_zero, List.set_cons_succ]
    refine wpAnyH_take (i := 2) (oi := { dst := some 18, op := Op.load 3 (Operand.tmp 4), type := 3, pos := "l6_titles.go:89", after := #[], guard := none }) (v := ?v2) rfl (by kernel_rfl) (by kernel_rfl) (by kernel_rfl) (fun _ _ _ h => h) (Or.inl ⟨by rfl, ?hy2⟩) hHeld ?rest2
    case hy2 =>
      intro w hSw
      try dsimp only at hSw
      go_simp
      try with_reducible rfl
    try simp only [Act.put, List.setIfInBounds_toArray, List.set_cons_zero, List.set_cons_succ]
    refine wpAnyH_take (i := 3) (oi := { dst := some 19, op := Op.move (Operand.tmp 6), type := 3, pos := "l6_titles.go:89", after := #[], guard := none }) (v := ?v3) rfl (by kernel_rfl) (by kernel_rfl) (by kernel_rfl) (fun _ _ _ h => h) (Or.inl ⟨by rfl, ?hy3⟩) hHeld ?rest3
    case hy3 =>
      intro w hSw
      try dsimp only at hSw
      go_simp
      try with_reducible rfl
    try simp only [Act.put, List.setIfInBounds_toArray, List.set_cons_zero, List.set_cons_succ]
    refine wpAnyH_take (i := 4) (oi := { dst := some 20, op := Op.slice 9 (Operand.tmp 17) (some (Operand.tmp 18)) (some (Operand.tmp 19)) none, type := 9, pos := "l6_titles.go:89", after := #[{ on := 1, ground := Ground.data }, { on := 2, ground := Ground.data }, { on := 3, ground := Ground.data }], guard := none }) (v := ?v4) rfl (by kernel_rfl) (by kernel_rfl) (by kernel_rfl) (fun _ _ _ h => h) (Or.inl ⟨by rfl, ?hy4⟩) hHeld ?rest4
    case hy4 =>
      intro w hSw
      try dsimp only at hSw
      go_simp
      try with_reducible rfl
    try simp only [Act.put, List.setIfInBounds_toArray, List.set_cons_zero, List.set_cons_succ]
    have hc3a : (W.alloc (.cells #[.string (ba y)] 9)).cell? ⟨w.heap.size + 1 + 1, 0, none⟩ = some v := (hv.alloc _).cell
    refine wpAnyH_ready (rs := [0, 5]) (by kernel_rfl) (by simp) ?_
    refine AllReadyH.cons (o := { dst := some 16, op := Op.load 26 (Operand.tmp 3), type := 26, pos := "l6_titles.go:89", after := #[], guard := none }) rfl (fun K hK => ?_) (AllReadyH.cons (o := { dst := some 21, op := Op.buildSlice 26 1 #[(0, Operand.tmp 20)], type := 26, pos := "l6_titles.go:89", after := #[{ on := 4, ground := Ground.data }], guard := none }) rfl (fun K hK => ?_) AllReadyH.nil)
    go_simp
    refine hK.out _ _ hHeld (fun hHeld => ?_)
    clear hK K
    try simp only [Act.put, List.setIfInBounds_toArray, List.set_cons_zero, List.set_cons_succ]
    refine wpAnyH_ready (rs := [5]) (by kernel_rfl) (by simp) ?_
    refine AllReadyH.cons (o := { dst := some 21, op := Op.buildSlice 26 1 #[(0, Operand.tmp 20)], type := 26, pos := "l6_titles.go:89", after := #[{ on := 4, ground := Ground.data }], guard := none }) rfl (fun K hK => ?_) AllReadyH.nil
    go_simp
    refine hK.out _ _ ⟨(hSd.alloc _).cell, (hId.alloc _).cell⟩ (fun hHeld => ?_)
    clear hK K
    try simp only [Act.put, List.setIfInBounds_toArray, List.set_cons_zero, List.set_cons_succ]
    rotate_left
    go_simp
    refine hK.out _ _ ⟨(hSd.alloc _).cell, (hId.alloc _).cell⟩ (fun hHeld => ?_)
    clear hK K
    try simp only [Act.put, List.setIfInBounds_toArray, List.set_cons_zero, List.set_cons_succ]
    refine wpAnyH_ready (rs := [0]) (by kernel_rfl) (by simp) ?_
    refine AllReadyH.cons (o := { dst := some 16, op := Op.load 26 (Operand.tmp 3), type := 26, pos := "l6_titles.go:89", after := #[], guard := none }) rfl (fun K hK => ?_) AllReadyH.nil
    go_simp
    refine hK.out _ _ hHeld (fun hHeld => ?_)
    clear hK K
    try simp only [Act.put, List.setIfInBounds_toArray, List.set_cons_zero, List.set_cons_succ]
    all_goals
      refine wpAnyH_ready (rs := [6]) (by kernel_rfl) (by simp) ?_
      refine AllReadyH.cons (o := { dst := some 22, op := Op.call { callee := Callee.builtin Builtin.append, args := #[Operand.tmp 16, Operand.tmp 21], argTypes := #[26, 26] }, type := 26, pos := "l6_titles.go:89", after := #[{ on := 0, ground := Ground.data }, { on := 5, ground := Ground.data }], guard := none }) rfl (fun K hK => ?_) AllReadyH.nil
      refine Rr.step_append_own rfl (.tmp 16) (.tmp 21) 26 rfl w.heap.size 9 i0 (.string ByteArray.empty) 1 16 Tryz.underlying26 hi hz0 hz1 hz2 rfl (by decide) v pre.length _ rfl (hrowd.alloc (.cells #[.string (ba y)] 9)) ⟨W.drew.heap.size, 0, none⟩ 1 1 [.string (ba y)] rfl rfl (cell_one_new _ _ _) (by simp [Value.oneCell']) (by unfold maxLen; omega) (by omega) (by have := hB.size; simp; omega) ?_
      intro v' w1 hown' hgrow hat
      replace hgrow : (W.drew.alloc (.cells #[.string (ba y)] 9)).grownBy w1 v.ownBlock := hgrow
      replace hat : v'.ownBlock = v.ownBlock ∨ v'.ownBlock = some (W.heap.size + 1) := by simpa using hat
      obtain ⟨g', cap', rfl⟩ := ownsRow_succ hown'
      obtain ⟨hv1, hv2, hr2, hk2, hb2⟩ := hvd.appended (by decide) hrowd (show w.heap.size ≤ W.drew.heap.size from hB.size) (by omega) hown' hgrow
      have hc31 := hv1.cell
      have hf31 := hv1.frozen
      have hS2 : Boxed (w1.setCell ⟨w.heap.size + 1 + 1, 0, none⟩ (.slice (some ⟨g', 0, none⟩) (pre.length + 1) cap')) w.heap.size 9 (.string s) := ((hSd.alloc _).kept hgrow (fun e => hne0 e.symm)).other (by omega) _
      have hI2 : Boxed (w1.setCell ⟨w.heap.size + 1 + 1, 0, none⟩ (.slice (some ⟨g', 0, none⟩) (pre.length + 1) cap')) (w.heap.size + 1 + 1 + 1) 3 (.int .i64 (off pre)) := ((hId.alloc _).kept hgrow (hId.not_row (by decide) hrowd)).other (by omega) _
      have hS1 := ((hSd.alloc (.cells #[.string (ba y)] 9)).kept hgrow (fun e => hne0 e.symm)).cell
      have hI1 := ((hId.alloc (.cells #[.string (ba y)] 9)).kept hgrow (hId.not_row (by decide) hrowd)).cell
      refine hK.out _ _ ⟨hS1, hI1⟩ (fun hHeld => ?_)
      clear hK K hHeld
      try simp only [Act.put, List.setIfInBounds_toArray, List.set_cons_zero, List.set_cons_succ]
      refine wpAnyH_ready (rs := [7]) (by kernel_rfl) (by simp) ?_
      refine AllReadyH.cons (o := { dst := none, op := Op.store 26 (Operand.tmp 3) (Operand.tmp 22), type := 0, pos := "l6_titles.go:89", after := #[{ on := 6, ground := Ground.data }, { on := 6, ground := Ground.chain }, { on := 0, ground := Ground.phase }, { on := 1, ground := Ground.phase }, { on := 2, ground := Ground.phase }, { on := 3, ground := Ground.phase }, { on := 4, ground := Ground.phase }, { on := 5, ground := Ground.phase }, { on := 6, ground := Ground.phase }], guard := none }) rfl (fun K hK => ?_) AllReadyH.nil
      go_simp
      refine hK.out _ _ ⟨hS2.cell, hI2.cell⟩ (fun hHeld => ?_)
      clear hK K hHeld hS1 hI1 hc31 hf31
      try simp only [Act.put, List.setIfInBounds_toArray, List.set_cons_zero, List.set_cons_succ]
      refine wpAnyH_done (by kernel_rfl) ?_ _
      have hc42 := hI2.cell
      have hf42 := hI2.frozen
      have hbp2 := ((show Boxed W.drew (N1 + 1) 9 (.string ⟨#[32]⟩) from hbp).alloc (.cells #[.string (ba y)] 9)).kept hgrow (fun e => hne1 e.symm)
      have hbs2 := ((show Boxed W.drew N1 9 r from hbs).alloc (.cells #[.string (ba y)] 9)).kept hgrow (fun e => hne2 e.symm)
      have hbv2 := ((show Boxed W.drew (N1 + 2) 3 (.int .i64 0) from hbv).alloc (.cells #[.string (ba y)] 9)).kept hgrow (fun e => hne3 e.symm)
      gi_wp2
      have kp : ∀ {B : Nat} {t : TypeId} {u : Value}, Boxed w1 B t u → w.heap.size + 4 ≤ B → Boxed ((w1.setCell ⟨w.heap.size + 1 + 1, 0, none⟩ (.slice (some ⟨g', 0, none⟩) (pre.length + 1) cap')).setCell ⟨w.heap.size + 1 + 1 + 1, 0, none⟩ (.int .i64 (m + 1))) B t u := fun h hb => (h.other (by omega) _).other (by omega) _
      refine ⟨((KeepsOthers.drew W).trans (hk2.trans (KeepsOthers.setCell _ _ _))).from _, ⟨(kp hbp2 (by omega)).trans hbp.symm, (kp hbs2 (by omega)).trans hbs.symm, (kp hbv2 (by omega)).trans hbv.symm⟩,
        ⟨⟨_, hv2.other (by omega) _, ?_, ?_⟩, ?_⟩, hS2.other (by omega) _, ?_, kp hbp2 (by omega), ⟨r, kp hbs2 (by omega)⟩, kp hbv2 (by omega)⟩
      · have h3 := hr2.kept (grownBy_setCell' _ (w.heap.size + 1 + 1 + 1) (.int .i64 (m + 1))) (.inr (hI2.not_row (by decide) hr2).symm)
        rw [cutBy_snoc, cs_snoc, ← HY.out]
        simpa using h3
      · rcases hat with h | h
        · rw [h]; exact ⟨hne0, hne1, hne2, hne3⟩
        · have l0 := hS.lt
          have l1 := hbp.lt
          have l2 := hbs.lt
          have l3 := hbv.lt
          rw [h]
          simp only [ne_eq, Option.some.injEq]
          omega
      · exact (hB.drew.trans hb2).setCell (by show w.heap.size ≤ w.heap.size + 1 + 1 + 1; omega) _
      · have e : off (pre ++ [x]) = m + 1 := by rw [off_snoc, HM.out]
        have := hI2.set (.int .i64 ((m : Int) + 1))
        rw [e]
        simpa using this
  case done =>
    rintro D W hD ⟨⟨⟨v, hv, hrow, _⟩, hB⟩, _⟩ hK
    have hc := hv.cell
    have he := words_cut s.data.toList
    have hrow' : W.ownsRow w.heap.size 9 1 v (words s.data.toList).length (cs (words s.data.toList)) := by
      have hl := cutBy_len (split 32 (mk s.data.toList)) s.data.toList
      rw [he] at hl hrow
      rw [hl]; exact hrow
    clear he hrow
    gi_wp2
    refine ⟨by simp, .inl ⟨_, _, rfl, run_takeDeferred hK, ?_⟩⟩
    exact ⟨_, results_tmp rfl _ _ _, v, rfl, ownsRow_putObj hrow' _ hK rfl, hB.trans (belowK_b (w := w) (Nat.le_refl _) W D _ _ (by have := HZ.out; omega) hK rfl rfl)⟩

theorem words_any (s : ByteArray) (w : World) (hs : s.size ≤ 1048576) :
    Calls Tryz.prog 22 #[.string s] w fun e W' => ∃ v, e = .returned v ∧ W'.ownsRow w.heap.size 9 1 v (words s.data.toList).length (cs (words s.data.toList)) ∧ Below w.heap.size w W' :=
  callsIn_wide.1 (words_in 3 (Nat.le_refl _) s w hs)
end Go.Proofs.YtobjfmchnlnohaaGreatDoor.Tw
