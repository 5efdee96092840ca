/-
  Several texts of one claim in one file: Th, Th2, Ag, Ag2, Ag3, Ag4, Ag5, Ag6, Ss, Ag7, Ag8, Ag9.
-/
import Derived.Test.YteccmlpibbchbaaGreatDoorGTe
import Derived.Maps.OwnRows
import Derived.Maps.Views
import Derived.StringKeys
import Derived.Test.YteccmlpibbchbaaGreatDoorHelp
import Derived.Test.YteccmlpibbchbaaGreatDoorGTo
import Derived.Deep.RegionHeld3
import Derived.Test.YteccmlpibbchbaaGreatDoorGOp
import Derived.Deep.Slices
import Derived.Deep.Fields
import Derived.Lib.SmallJoins
/-
  The groups of places with the same text: the program (ambiguousPlaces: a map of slices of places).
-/
namespace Go.Proofs.YteccmlpibbchbaaGreatDoor.Tdn
open Go.ChangeShapes Go.WideShapes Go.ChangeAt Go.RowKit Go.Joins Go.Deep
open Pl Strs Help Name Stands SplitPl NmPl Word Part NGood Nms Jn Ens Lab Kpz Ce Rdf LdPl Lbs Lbr Cit
open Num (Tab Tab.below)
set_option linter.unusedSimpArgs false
set_option linter.unusedVariables false

/-- the places with a text, below k -/
def plc (T : List ByteArray) (s : ByteArray) (k : Nat) : List Nat := (List.range k).filter fun j => decide (T[j]? = some s)
theorem plc_yes {T : List ByteArray} {s : ByteArray} {k : Nat} (h : T[k]? = some s) : plc T s (k + 1) = plc T s k ++ [k] := by
  unfold plc
  rw [List.range_succ, List.filter_append]
  simp [h]
theorem plc_no {T : List ByteArray} {s : ByteArray} {k : Nat} (h : ¬ T[k]? = some s) : plc T s (k + 1) = plc T s k := by
  unfold plc
  rw [List.range_succ, List.filter_append]
  simp [h]
theorem plc_len (T : List ByteArray) (s : ByteArray) (k : Nat) : (plc T s k).length ≤ k := by
  unfold plc
  exact Nat.le_trans (List.length_filter_le _ _) (by simp)
theorem plc_grp {T : List ByteArray} {s : ByteArray} {i : Nat} (h : T[i]? = some s) : plc T s T.length = grp T i := by
  unfold plc grp
  rw [h]
theorem plc_mem {T : List ByteArray} {s : ByteArray} {i k : Nat} : i ∈ plc T s k ↔ i < k ∧ T[i]? = some s := by
  unfold plc
  simp
theorem plc_sorted (T : List ByteArray) (s : ByteArray) (k : Nat) : (plc T s k).Pairwise (· < ·) := List.Pairwise.filter _ List.pairwise_lt_range
/-- the first place of a group -/
theorem fst_head {T : List ByteArray} {s : ByteArray} {i h : Nat} {R : List Nat} (hi : T[i]? = some s) (hp : plc T s T.length = h :: R) : fstT T i T.length = decide (h = i) := by
  have hil : i < T.length := (List.getElem?_eq_some_iff.1 hi).1
  have hh := plc_mem.1 (show h ∈ plc T s T.length by rw [hp]; exact List.mem_cons_self ..)
  have hle : ∀ j ∈ plc T s T.length, h ≤ j := fun j hj => by
    have hs := plc_sorted T s T.length
    rw [hp] at hs hj
    rcases List.mem_cons.1 hj with rfl | hj
    · exact Nat.le_refl _
    · exact Nat.le_of_lt ((List.pairwise_cons.1 hs).1 j hj)
  have h1 := hle i (plc_mem.2 ⟨hil, hi⟩)
  unfold fstT
  by_cases e : h = i
  · rw [decide_eq_true e, List.all_eq_true]
    intro k' hk'
    rw [List.mem_range] at hk'
    by_cases e2 : T[k']? = T[i]?
    · have := hle k' (plc_mem.2 ⟨hk', by rw [e2, hi]⟩)
      simp
      exact Or.inr (by omega)
    · simp [e2]
  · rw [decide_eq_false e, List.all_eq_false]
    refine ⟨h, List.mem_range.2 hh.1, ?_⟩
    rw [hh.2, hi]
    simp
    omega
def dat (L : List Nat) : DataW Unit := if L = [] then .nil else .slice (lits .i64 (L.map fun n : Nat => (n : Int))) []
theorem lits_inj {q : IntKind} : ∀ {a b : List Int}, (lits q a : List (DataW Unit)) = lits q b → a = b := by
  intro a b h
  unfold lits at h
  exact (List.map_inj_right (fun x y hxy => by injection hxy with h1; injection h1)).1 h
theorem dat_inv {w : World} {base : Nat} {e : TypeId} {v : Value} {zs : List Int} {L : List Nat} (ho : w.ownsInts base e .i64 v zs) (h : dat L = rowDatum .i64 v zs) : zs = L.map fun n : Nat => (n : Int) := by
  unfold dat at h
  rcases ho.datum (H := Unit) with ⟨h1, rfl⟩ | h1
  · rw [h1] at h
    split at h
    · rename_i h2
      rw [h2]; rfl
    · cases h
  · rw [h1] at h
    split at h
    · cases h
    · injection h with h2
      exact (lits_inj h2).symm
theorem lawS : Go.Maps.Keyed Tryz.prog 9 := Go.Maps.string_keyed Tryz.underlying9
theorem zeroSl (w : World) : (zeroValue 63).run Tryz.prog w = .ok (.slice none 0 0) w := by kernel_rfl
theorem key_s {s : ByteArray} (h : s.size ≤ 16777216) : keyOf Tryz.prog 9 (.string s) = some (.string s.data.toList) := Go.WideMaps.keyOf_string_mk (P := Tryz.prog) Tryz.underlying9 (by unfold maxLen; omega)
theorem str_ne {s t : ByteArray} (h : t ≠ s) : (Lit.string t.data.toList) ≠ Lit.string s.data.toList := fun e => h (ByteArray.ext (Array.ext' (by injection e)))
/-- block B is the map of the places of the first k texts -/
def Pm (w : World) (B k : Nat) (T : List ByteArray) : Prop := ∃ D : DataW Unit, w.ownsGroups Tryz.prog 9 (B + 1) 3 .i64 B k D ∧ Go.Maps.IsMap D ∧ ∀ s : ByteArray, D.atKey (.string s.data.toList) .nil = dat (plc T s k)
theorem Pm.made (w : World) (T : List ByteArray) : Pm (w.alloc (.map #[] 0)) w.heap.size 0 T := ⟨.map [], World.ownsGroups_made _ _ _ _ _, Go.Maps.isMap_empty, fun s => by simp [dat, plc]; rfl⟩
theorem Pm.step {wr w1 w2 : World} {B k : Nat} {T : List ByteArray} {D : DataW Unit} {s : ByteArray} {v v' : Value} {zs : List Int} (hD : Go.Maps.IsMap D) (h0 : ∀ s : ByteArray, D.atKey (.string s.data.toList) .nil = dat (plc T s k)) (hT : T[k]? = some s)
    (hoi : wr.ownsInts (B + 1) 3 .i64 v zs) (hat : D.atKey (.string s.data.toList) .nil = rowDatum .i64 v zs) (ha : w1.ownsInts (B + 1) 3 .i64 v' (zs ++ [(k : Int)]))
    (h2 : w2.ownsGroups Tryz.prog 9 (B + 1) 3 .i64 B (k + 1) (D.put (.string s.data.toList) (rowDatum .i64 v' (zs ++ [(k : Int)])))) : Pm w2 B (k + 1) T := by
  refine ⟨_, h2, hD.put _ _, fun t => ?_⟩
  by_cases hts : t = s
  · subst hts
    rw [Go.Maps.atKey_put_same hD (by trivial), ha.datum_pos (by simp), plc_yes hT, dat_inv hoi ((h0 t).symm.trans hat)]
    unfold dat
    rw [if_neg (by simp)]
    simp
  · rw [Go.Maps.atKey_put_other (str_ne hts), h0, plc_no (fun e => hts (by rw [hT] at e; exact (Option.some.inj e).symm))]
open Classical in
/-- what the map holds, and what each of its slices owns -/
theorem fin_F {w : World} {B n : Nat} {T : List ByteArray} (h : Pm w B n T) : ∃ F : ByteArray → Value, (∀ s : ByteArray, s.size ≤ 16777216 → ∀ w' : World, w'.heap[B]? = w.heap[B]? → (Instr.lookup 89 (.map (some B)) (.string s) false).run Tryz.prog w' = .ok (F s) w') ∧
    (∀ s : ByteArray, s.size ≤ 16777216 → w.ownsInts (B + 1) 3 .i64 (F s) ((plc T s n).map fun n : Nat => (n : Int))) ∧ (∀ s s' : ByteArray, s ≠ s' → (F s).ownBlock = none ∨ (F s).ownBlock ≠ (F s').ownBlock) := by
  obtain ⟨D, ⟨es, clock, hb, Fi, hs, rfl, hbb, hlen, hap⟩, hD, hat⟩ := h
  have uniq : ∀ x ∈ es.toList, ∀ y ∈ es.toList, x.key = y.key → x = y := by
    intro x hx y hy hk
    obtain ⟨i, hi, rfl⟩ := List.getElem_of_mem hx
    obtain ⟨j, hj, rfl⟩ := List.getElem_of_mem hy
    have hp := List.pairwise_iff_getElem.1 (Go.Maps.fit_apart lawS Fi)
    have hr : ∀ i (hi : i < es.toList.length), keyOf Tryz.prog 9 (es.toList[i].key) = some (Go.WideElems.rg Tryz.prog 9 (rowElem (H := Unit) w (B + 1) 3 .i64) es.toList[i]).1 := fun i hi => by
      obtain ⟨y, hy⟩ := Fi.reads _ (List.getElem_mem hi)
      have := Go.WideElems.rd_key hy
      rw [this]
      unfold Go.WideElems.rg
      rw [hy]; rfl
    have e1 := hr i hi
    have e2 := hr j hj
    rw [hk, e2] at e1
    have e3 := Option.some.inj e1
    rcases Nat.lt_trichotomy i j with h | h | h
    · have := hp i j (by simpa using hi) (by simpa using hj) h
      simp only [List.getElem_map] at this
      exact absurd e3.symm this
    · subst h; rfl
    · have := hp j i (by simpa using hj) (by simpa using hi) h
      simp only [List.getElem_map] at this
      exact absurd e3 this
  refine ⟨fun s => if h : ∃ x ∈ es.toList, x.key = .string s then (Classical.choose h).val else .slice none 0 0, fun s hz w' hw' => ?_, fun s hz => ?_, fun s s' hne => ?_⟩ <;> dsimp only
  · rcases Go.Maps.fit_look false lawS Tryz.underlying89 (zeroSl w') (hw'.trans hb) Fi (key_s hz) with ⟨hrun, hno, _⟩ | ⟨e0, y, hm, hk, hrun, _⟩
    · rw [dif_neg (by rintro ⟨x, hx, hxk⟩; exact hno x hx hxk)]
      simpa using hrun
    · have hex : ∃ x ∈ es.toList, x.key = .string s := ⟨e0, hm, hk⟩
      have hc := Classical.choose_spec hex
      rw [dif_pos hex, uniq _ hc.1 _ hm (hc.2.trans hk.symm)]
      simpa using hrun
  · rcases Go.Maps.fit_look false lawS Tryz.underlying89 (zeroSl w) hb Fi (key_s hz) with ⟨hrun, hno, hz0⟩ | ⟨e0, y, hm, hk, hrun, hR, hz0, _⟩
    · rw [dif_neg (by rintro ⟨x, hx, hxk⟩; exact hno x hx hxk)]
      have h1 := (hat s).symm.trans (hz0 .nil)
      unfold dat at h1
      split at h1
      · rename_i h2
        rw [h2]
        exact World.ownsInts_nil _ _ _ _
      · cases h1
    · have hex : ∃ x ∈ es.toList, x.key = .string s := ⟨e0, hm, hk⟩
      have hc := Classical.choose_spec hex
      rw [dif_pos hex, uniq _ hc.1 _ hm (hc.2.trans hk.symm)]
      obtain ⟨zs, ho, rfl⟩ := rowElem_inv hR
      rw [← dat_inv ho ((hat s).symm.trans (hz0 .nil))]
      exact ho
  · by_cases h1 : ∃ x ∈ es.toList, x.key = .string s
    · by_cases h2 : ∃ x ∈ es.toList, x.key = .string s'
      · rw [dif_pos h1, dif_pos h2]
        have c1 := Classical.choose_spec h1
        have c2 := Classical.choose_spec h2
        exact hap _ c1.1 _ c2.1 (fun e => hne (by rw [c1.2, c2.2] at e; injection e))
      · rw [dif_neg h2]
        rw [dif_pos h1]
        cases h9 : (Classical.choose h1).val.ownBlock with
        | none => exact .inl rfl
        | some g => exact .inr (by simp [Value.ownBlock])
    · rw [dif_neg h1]
      exact .inl rfl
theorem wpList_lookup_run {P : Program} (w : World) {ops : Array Oper} {rest : List Oper} {o : Oper} {a : Act} {Q : Exit → Act → World → Prop}
    (hg : o.guard = none) (m x : Operand) (t : TypeId) (hop : o.op = Op.lookup t m x false) {v mv xv : Value} (hm : a.eval m = mv) (hx : a.eval x = xv) (hrun : (Instr.lookup t mv xv false).run P w = .ok v w)
    (hK : wpList P ops Q rest (a.put o.dst v) w) : wpList P ops Q (o :: rest) a w := by
  refine wpList_plain hg fun K' hK' => ?_
  unfold Oper.wp
  simp [execOp, hop, hm, hx, hrun, Result.andThen]
  exact hK' _ _ hK
def tx (T : List ByteArray) (i : Nat) : ByteArray := (T[i]?).getD ByteArray.empty
def gv (F : ByteArray → Value) (T : List ByteArray) (k : Nat) : List Value := ((List.range k).filter (inG T)).map fun i => F (tx T i)
theorem gv_yes {F : ByteArray → Value} {T : List ByteArray} {i : Nat} {s : ByteArray} (h : inG T i = true) (hi : T[i]? = some s) : gv F T (i + 1) = gv F T i ++ [F s] := by
  unfold gv
  rw [List.range_succ, List.filter_append, List.map_append]
  simp [h, tx, hi]
theorem gv_no {F : ByteArray → Value} {T : List ByteArray} {i : Nat} (h : inG T i = false) : gv F T (i + 1) = gv F T i := by
  unfold gv
  rw [List.range_succ, List.filter_append, List.map_append]
  simp [h]
theorem gv_len (F : ByteArray → Value) (T : List ByteArray) (i : Nat) : (gv F T i).length ≤ i := by
  unfold gv
  rw [List.length_map]
  exact Nat.le_trans (List.length_filter_le _ _) (by simp)
end Go.Proofs.YteccmlpibbchbaaGreatDoor.Tdn
/-
  The groups of places with the same text: the walk of ambiguousPlaces.
-/
namespace Go.Proofs.YteccmlpibbchbaaGreatDoor.Tdn
open Go.ChangeShapes Go.WideShapes Go.ChangeAt Go.RowKit Go.Joins Go.Deep
open Pl Strs Help Name Stands SplitPl NmPl Word Part NGood Nms Jn Ens Lab Kpz Ce Rdf LdPl Lbs Lbr Cit
open Num (Tab Tab.below)
set_option linter.unusedSimpArgs false
set_option linter.unusedVariables false

/-- the slice holds groups of places, each in a row of its own, and none in another's -/
def Gd (w : World) (base : Nat) (v : Value) (G : List (List Nat)) : Prop := ∃ vs, w.ownsRow base 63 1 v G.length vs ∧ (∀ (j : Nat) (x : List Nat), G[j]? = some x → ∃ g c, vs[j]? = some (.slice (some ⟨g, 0, none⟩) x.length c) ∧ w.ownsRow base 3 1 (.slice (some ⟨g, 0, none⟩) x.length c) x.length (x.map iV) ∧ v.ownBlock ≠ some g) ∧
  ∀ (i j : Nat) (a b : Value), i ≠ j → vs[i]? = some a → vs[j]? = some b → a.ownBlock ≠ b.ownBlock
theorem Gd.gw {w : World} {base : Nat} {v : Value} {G : List (List Nat)} (h : Gd w base v G) : Gw w base v G := by
  obtain ⟨vs, h1, h2, _⟩ := h
  exact ⟨vs, h1, h2⟩
/-- what the map's slice at a text is -/
theorem at_F {w : World} {B : Nat} {s : ByteArray} {v : Value} {L : List Nat} (h : w.ownsInts (B + 1) 3 .i64 v (L.map fun n : Nat => (n : Int))) : w.ownsRow (B + 1) 3 1 v L.length (L.map iV) := by
  have h1 := h.1
  rw [List.length_map, List.map_map] at h1
  exact h1
theorem gd_of {wf w' : World} {B N : Nat} {T : List ByteArray} {F : ByteArray → Value} {v : Value} (hn : T.length = N) (h2 : ∀ s ∈ T, wf.ownsInts (B + 1) 3 .i64 (F s) ((plc T s N).map fun n : Nat => (n : Int))) (h3 : ∀ s s' : ByteArray, s ≠ s' → (F s).ownBlock = none ∨ (F s).ownBlock ≠ (F s').ownBlock)
    (hB : B + 1 ≤ wf.heap.size) (kp : Kp wf w') (ho : w'.ownsRow wf.heap.size 63 1 v (gv F T N).length (gv F T N)) : Gd w' B v (groups T) := by
  have hin : ∀ i, i ∈ (List.range N).filter (inG T) → ∃ s, T[i]? = some s ∧ tx T i = s ∧ (∃ g c, F s = .slice (some ⟨g, 0, none⟩) (grp T i).length c) ∧ wf.ownsRow (B + 1) 3 1 (F s) (grp T i).length ((grp T i).map iV) := by
    intro i hi
    obtain ⟨h4, h5⟩ := List.mem_filter.1 hi
    rw [List.mem_range, ← hn] at h4
    have hs := List.getElem?_eq_getElem h4
    refine ⟨T[i], hs, by unfold tx; rw [hs]; rfl, ?_⟩
    have hr := at_F (s := T[i]) (h2 _ (List.getElem_mem h4))
    rw [← hn, plc_grp hs] at hr
    refine ⟨?_, hr⟩
    unfold inG at h5
    rw [Bool.and_eq_true, decide_eq_true_eq] at h5
    obtain ⟨n, hl⟩ : ∃ n, (grp T i).length = n + 1 := ⟨(grp T i).length - 1, by omega⟩
    rw [hl] at hr ⊢
    exact pos_form hr
  have hG : groups T = ((List.range N).filter (inG T)).map (grp T) := by unfold groups; rw [hn]
  have hle : B ≤ B + 1 := Nat.le_succ _
  refine ⟨gv F T N, ?_, fun j x hx => ?_, fun i j a b hne ha hb => ?_⟩
  · have e : (groups T).length = (gv F T N).length := by rw [hG]; unfold gv; simp
    rw [e]
    exact Cs.row_base (by omega) ho
  · rw [hG, List.getElem?_map] at hx
    cases hf : ((List.range N).filter (inG T))[j]? with
    | none => rw [hf] at hx; cases hx
    | some i =>
      rw [hf] at hx
      cases hx
      obtain ⟨s, h4, h5, ⟨g, c, h6⟩, h7⟩ := hin i (List.mem_of_getElem? hf)
      rw [h6] at h7
      refine ⟨g, c, ?_, Cs.row_base hle (own_kp h7 kp), fun e => ?_⟩
      · unfold gv
        rw [List.getElem?_map, hf]
        show some (F (tx T i)) = _
        rw [h5, h6]
      · have q1 := (ho.lt g e).1
        have q2 := (h7.lt g rfl).2
        omega
  · unfold gv at ha hb
    rw [List.getElem?_map] at ha hb
    cases hf : ((List.range N).filter (inG T))[i]? with
    | none => rw [hf] at ha; cases ha
    | some p =>
      cases hf2 : ((List.range N).filter (inG T))[j]? with
      | none => rw [hf2] at hb; cases hb
      | some q =>
        rw [hf] at ha
        rw [hf2] at hb
        cases ha
        cases hb
        have mp := List.mem_of_getElem? hf
        have mq := List.mem_of_getElem? hf2
        obtain ⟨s, p4, p5, ⟨g, c, p6⟩, p7⟩ := hin p mp
        obtain ⟨s', q4, q5, ⟨g', c', q6⟩, q7⟩ := hin q mq
        have hnd : ((List.range N).filter (inG T)).Nodup := List.Pairwise.filter _ List.nodup_range
        have hpq : p ≠ q := fun e => hne (by
          subst e
          have li := (List.getElem?_eq_some_iff.1 hf).1
          have lj := (List.getElem?_eq_some_iff.1 hf2).1
          exact (List.getElem_inj hnd).1 (by rw [(List.getElem?_eq_some_iff.1 hf).2, (List.getElem?_eq_some_iff.1 hf2).2]))
        have hss : s ≠ s' := fun e => hpq (by
          subst e
          obtain ⟨a1, a2⟩ := List.mem_filter.1 mp
          obtain ⟨b1, b2⟩ := List.mem_filter.1 mq
          unfold inG fstT at a2 b2
          rw [Bool.and_eq_true, List.all_eq_true] at a2 b2
          have u1 := a2.1 q (by rw [hn]; exact b1)
          have u2 := b2.1 p (by rw [hn]; exact a1)
          rw [p4, q4] at u1 u2
          simp at u1 u2
          omega)
        rcases h3 s s' hss with h | h
        · rw [p6] at h; simp [Value.ownBlock] at h
        · dsimp only
          rw [p5, q5]
          exact h
set_option maxRecDepth 100000 in
set_option maxHeartbeats 16000000 in
theorem ambig_i (A : Option Addr) (c N : Nat) (T : List ByteArray) (w : World) (h : RdS w A T) (hn : T.length = N) (hm : N ≤ 8) (hz : ∀ s ∈ T, s.size ≤ 16777216) :
    Calls Tryz.prog 32 #[.slice A N c] w fun e w' => ∃ v, e = .returned v ∧ Gd w' w.heap.size v (groups T) ∧ Kp w w' := by
  have hmm := @run_makeMap Tryz.prog
  obtain ⟨i0, hi, hz0, hz1, hz2⟩ := Lbr.info_parts infoI
  obtain ⟨i1, hi1, hy0, hy1, hy2⟩ := Lbr.info_parts infoSl
  have H := Lib.hid h
  have HN := Lib.hid hn
  have HZ := Lib.hid hz
  have HP0 : Hid (Pm (w.alloc (.map #[] 0)) w.heap.size 0 T) := Lib.hid (Pm.made w T)
  have hb0 : Kp w (w.alloc (.map #[] 0)) := kal (kre _) _
  clear h hn hz
  go_enter Tryz.func32, Tryz.ntmps32
  go_wp2_with fail
  go_loopw [13] (fun i wr => ∃ k : Nat, k ≤ N ∧ i = .int .i64 k ∧ Hid (Pm wr w.heap.size k T) ∧ Kp w wr ∧ w.heap.size + 1 ≤ wr.heap.size) (fun i _ => N - (intOf i).toNat)
  case atStart => exact ⟨0, Nat.zero_le _, rfl, HP0, hb0, by simp⟩
  case round =>
    obtain ⟨k, hk, rfl, HP, kw, hws⟩ := hrel
    by_cases hlt : k < N
    · obtain ⟨tk, htk⟩ : ∃ x, T[k]? = some x := ⟨_, List.getElem?_eq_getElem (by rw [HN.out]; exact hlt)⟩
      obtain ⟨ga, oa, rfl, xk⟩ := rds_kp H.out kw k tk htk
      have HT := Lib.hid htk
      have hkey := key_s (HZ.out tk (List.mem_of_getElem? htk))
      obtain ⟨D, hown, hD, hat0⟩ := HP.out
      have HD := Lib.hid hD
      have HA := Lib.hid hat0
      have HKw := Lib.hid kw
      clear htk hD hat0 kw HP
      go_wp2_with (first
        | (at_lookup; refine wpList_lookup_groups _ rfl _ _ 89 rfl 9 63 3 .i64 lawS Tryz.underlying89 (zeroSl _) (w.heap.size + 1) w.heap.size k _ rfl hown (by unfold maxLen; omega) _ _ rfl hkey ?_; intro v zs hat hoi hzl hback)
        | (at_builtin; refine wpList_append_own_at _ rfl _ _ 63 rfl (w.heap.size + 1) 3 i0 (.int .i64 0) 1 8 Tryz.underlying63 hi hz0 hz1 hz2 rfl (by decide) _ _ _ rfl (hoi.1.alloc _) ⟨wr.heap.size, 0, none⟩ 1 1 [.int .i64 k] rfl rfl (cell_one_new _ _ _) (ints_oneCell .i64 [(k : Int)]) (by unfold maxLen; omega) (by omega) (by simp; omega) ?_; intro v' w1 hown' hgrow hnil hloc)
        | (at_mapUpdate; refine wpList_mapUpdate_back _ rfl _ _ _ 89 rfl hback rfl rfl rfl ((World.grownBy_alloc _ _ _).trans hgrow) (hoi.appended hown' (WalkArith.wf_i64 (by omega))) (by simp; omega) (hloc.imp id (fun h => ⟨_, h, by simp⟩)) ?_; intro w2 hown2 hgrow2)
        | go_in)
      have hall := (World.grownBy_alloc wr _ _).trans hgrow
      have HP2 : Hid (Pm w2 w.heap.size (k + 1) T) := Lib.hid (Pm.step HD.out HA.out HT.out hoi hat (hoi.appended hown' (WalkArith.wf_i64 (by omega))) hown2)
      have k2 : Kp w w2 := Below.groups HKw.out hoi hall hgrow2 (ksz HKw.out) (Nat.le_succ _) (Nat.le_refl _)
      have hs2 : w.heap.size + 1 ≤ w2.heap.size := Nat.le_trans hws (Nat.le_trans hall.size hgrow2.size)
      clear hall hgrow hgrow2 hown2 hback hoi hat hown' hloc hnil
      go_roundw
      case rel => exact ⟨k + 1, by omega, by go_num, HP2, k2, hs2⟩
      case measure => simp [intOf]; omega
    · obtain rfl : k = N := by omega
      rename World => wf
      obtain ⟨F, hF1, hF2, hF3⟩ := fin_F HP.out
      have HF1 := Lib.hid hF1
      have HF2 : Hid (∀ s ∈ T, wf.ownsInts (w.heap.size + 1) 3 .i64 (F s) ((plc T s k).map fun n : Nat => (n : Int))) := Lib.hid (fun s hs => hF2 s (HZ.out s hs))
      have HF3 := Lib.hid hF3
      have hq0 : (wf.alloc (.cells #[] 63)).ownsRow wf.heap.size 63 1 (.slice (some ⟨wf.heap.size, 0, none⟩) 0 0) 0 [] := by
        have h9 := World.ownsRow_lit (base := wf.heap.size) (e := 63) (size := 1) wf #[] 0 (Nat.le_refl _) (Nat.zero_le _) rfl
        simpa using h9
      have hqb : Kp wf (wf.alloc (.cells #[] 63)) := kal (kre _) _
      have HKw := Lib.hid kw
      clear hF1 hF2 hF3 HP kw HP0 hb0
      go_wp2_with fail
      go_loopw [6, 30] (fun v i wx => ∃ j : Nat, j ≤ k ∧ i = .int .i64 j ∧ Hid (wx.ownsRow wf.heap.size 63 1 v (gv F T j).length (gv F T j)) ∧ Kp wf wx) (fun _ i _ => k - (intOf i).toNat)
      case atStart => exact ⟨0, Nat.zero_le _, rfl, Lib.hid hq0, hqb⟩
      case round =>
        obtain ⟨j, hj, rfl, HO, kx⟩ := hrel
        by_cases hlj : j < k
        · obtain ⟨tj, htj⟩ : ∃ x, T[j]? = some x := ⟨_, List.getElem?_eq_getElem (by rw [HN.out]; exact hlj)⟩
          obtain ⟨ga, oa, rfl, xj⟩ := rds_kp H.out (ktr HKw.out kx) j tj htj
          have htm := List.mem_of_getElem? htj
          have hrun := HF1.out tj (HZ.out tj htm) wr (kx.block _ (by omega))
          have hrow := at_F (s := tj) (HF2.out tj htm)
          obtain ⟨hd, R, hL⟩ : ∃ hd R, plc T tj k = hd :: R := by
            cases e : plc T tj k with
            | nil => have := plc_mem.2 ⟨hlj, htj⟩; rw [e] at this; cases this
            | cons a b => exact ⟨a, b, rfl⟩
          have hLk := plc_len T tj k
          rw [hL] at hrow hLk
          have hRk : R.length + 1 ≤ k := by simpa using hLk
          have hfirst := fst_head htj (by rw [HN.out]; exact hL)
          have hgrp : grp T j = hd :: R := by rw [← plc_grp htj, HN.out]; exact hL
          have hIn : inG T j = (decide (hd = j) && decide (1 < R.length + 1)) := by unfold inG; rw [hfirst, hgrp]; rfl
          obtain ⟨g, cg, hform⟩ := pos_form (n := R.length) hrow
          have hhd : hd < k := (plc_mem.1 (show hd ∈ plc T tj k by rw [hL]; exact List.mem_cons_self ..)).1
          have HGy : Hid (inG T j = true → gv F T (j + 1) = gv F T j ++ [F tj]) := Lib.hid (fun e => gv_yes e htj)
          have HGn : Hid (inG T j = false → gv F T (j + 1) = gv F T j) := Lib.hid gv_no
          have hgl := gv_len F T j
          rw [hform] at hrun hrow HGy
          have hcell : wr.cell? ⟨g, 0, none⟩ = some (.int .i64 (hd : Int)) := by
            have hc := (own_kp hrow kx).cellAt 0 (by simp)
            simpa using hc
          have HKx := Lib.hid kx
          have hsx := ksz kx
          clear hrow hL hLk hfirst hgrp hform htj htm kx
          by_cases h1 : 1 < R.length + 1
          · have h1I : decide ((1 : Int) < ((R.length + 1 : Nat) : Int)) = true := decide_eq_true (by omega)
            rw [decide_eq_true h1, Bool.and_true] at hIn
            by_cases e : hd = j
            · have HE := Lib.hid (HGy.out (by rw [hIn]; exact decide_eq_true e))
              subst e
              clear hIn HGy HGn
              go_wp2_with (first
                | (at_lookup; refine wpList_lookup_run _ rfl _ _ 89 rfl rfl rfl hrun ?_)
                | (at_builtin; refine wpList_append_own _ rfl _ _ 59 rfl wf.heap.size 63 i1 (.slice none 0 0) 1 24 Tryz.underlying59 hi1 hy0 hy1 hy2 rfl (by decide) _ _ _ rfl (HO.out.alloc _) ⟨wr.heap.size, 0, none⟩ 1 1 [.slice (some ⟨g, 0, none⟩) (R.length + 1) cg] rfl rfl (cell_one_new _ _ _) (by simp [Value.oneCell']) (by unfold maxLen; omega) (by omega) (by simp; omega) ?_; intro v' w3 hown' hgrow _)
                | go_in)
              have k3 : Kp wf w3 := kgr (kal HKx.out _) hgrow (fun j hj => (HO.out.lt j hj).1)
              have HO3 : Hid (w3.ownsRow wf.heap.size 63 1 v' (gv F T (hd + 1)).length (gv F T (hd + 1))) := Lib.hid (by rw [HE.out, List.length_append]; exact hown')
              clear hown' hgrow
              go_roundw
              case rel => exact ⟨hd + 1, by omega, by go_num, HO3, k3⟩
              case measure => simp [intOf]; omega
            · have HE := Lib.hid (HGn.out (by rw [hIn]; exact decide_eq_false e))
              have heI : ((hd : Int) == (j : Int)) = false := by rw [beq_eq_false_iff_ne]; omega
              clear hIn HGy HGn e
              go_wp2_with (first
                | (at_lookup; refine wpList_lookup_run _ rfl _ _ 89 rfl rfl rfl hrun ?_)
                | go_in)
              go_roundw
              case rel => exact ⟨j + 1, by omega, by go_num, Lib.hid (by rw [HE.out]; exact HO.out), HKx.out⟩
              case measure => simp [intOf]; omega
          · have h1I : decide ((1 : Int) < ((R.length + 1 : Nat) : Int)) = false := decide_eq_false (by omega)
            have HE := Lib.hid (HGn.out (by rw [hIn, decide_eq_false h1, Bool.and_false]))
            clear hIn HGy HGn
            go_wp2_with (first
              | (at_lookup; refine wpList_lookup_run _ rfl _ _ 89 rfl rfl rfl hrun ?_)
              | go_in)
            go_roundw
            case rel => exact ⟨j + 1, by omega, by go_num, Lib.hid (by rw [HE.out]; exact HO.out), HKx.out⟩
            case measure => simp [intOf]; omega
        · obtain rfl : j = k := by omega
          have HR : Hid (∀ W v, Kp wf W → W.ownsRow wf.heap.size 63 1 v (gv F T j).length (gv F T j) → Gd W w.heap.size v (groups T)) := Lib.hid (fun W v kp ho => gd_of HN.out HF2.out HF3.out hws kp ho)
          have HKx := Lib.hid kx
          clear kx
          go_wp2_with fail
          go_ret
          exact ⟨_, rfl, HR.out _ _ HKx.out HO.out, ktr HKw.out HKx.out⟩
end Go.Proofs.YteccmlpibbchbaaGreatDoor.Tdn
/-
  Labels of the entries of a library: isLabelOf and slices.EqualFunc with it.
-/
namespace Go.Proofs.YteccmlpibbchbaaGreatDoor.Tdn
open Go.ChangeShapes Go.WideShapes Go.ChangeAt Go.RowKit Go.Joins Go.Deep
open Pl Strs Help Name Stands SplitPl NmPl Word Part NGood Nms Jn Ens Lab Kpz Ce Rdf LdPl Lbs Lbr Cit
open Num (Tab Tab.below)
set_option linter.unusedSimpArgs false
set_option linter.unusedVariables false

/-- a valid label of an entry -/
def labOf (x : En) (l : Lb4) : Bool := decide (l.k = x.key) && wrt l.n l.d l.t
def lsT (L : List En) (S : List Lb4) : Nat → Bool
  | 0 => true
  | k + 1 => lsT L S k && (match L[k]?, S[k]? with | some x, some l => labOf x l | _, _ => false)
def okLs (L : List En) (S : List Lb4) : Bool := decide (L.length = S.length) && lsT L S L.length
theorem lsT_step {L : List En} {S : List Lb4} {k : Nat} {x : En} {l : Lb4} (h : L[k]? = some x) (h' : S[k]? = some l) : lsT L S (k + 1) = (lsT L S k && labOf x l) := by
  show (lsT L S k && _) = _
  rw [h, h']
theorem lsT_false {L : List En} {S : List Lb4} {k : Nat} (h : lsT L S k = false) : ∀ n, k ≤ n → lsT L S n = false := by
  intro n hn
  induction n with
  | zero => obtain rfl : k = 0 := by omega
            exact h
  | succ n ih =>
    rcases Nat.lt_or_ge n k with h1 | h1
    · obtain rfl : k = n + 1 := by omega
      exact h
    · show (lsT L S n && _) = false
      rw [ih h1]; rfl
theorem lsT_at {L : List En} {S : List Lb4} : ∀ {n k : Nat} {x : En} {l : Lb4}, lsT L S n = true → k < n → L[k]? = some x → S[k]? = some l → labOf x l = true := by
  intro n
  induction n with
  | zero => intro k x l h hk; omega
  | succ n ih =>
    intro k x l h hk hx hl
    have h2 : (lsT L S n && (match L[n]?, S[n]? with | some x, some l => labOf x l | _, _ => false)) = true := h
    rw [Bool.and_eq_true] at h2
    rcases Nat.lt_or_ge k n with h1 | h1
    · exact ih h2.1 h1 hx hl
    · obtain rfl : k = n := by omega
      have := h2.2
      rw [hx, hl] at this
      exact this
theorem okLs_okS {L : List En} {S : List Lb4} (h : okLs L S = true) : L.length = S.length ∧ okS S := by
  unfold okLs at h
  rw [Bool.and_eq_true, decide_eq_true_eq] at h
  refine ⟨h.1, fun l hl => ?_⟩
  obtain ⟨k, hk⟩ := List.getElem?_of_mem hl
  have hk1 := (List.getElem?_eq_some_iff.1 hk).1
  have hk2 : k < L.length := by omega
  have := lsT_at h.2 hk2 (List.getElem?_eq_getElem hk2) hk
  unfold labOf at this
  rw [Bool.and_eq_true] at this
  exact this.2
theorem labOf_k {x y : En} (h : x.key = y.key) (l : Lb4) : labOf x l = labOf y l := by unfold labOf; rw [h]
set_option maxRecDepth 100000 in
set_option maxHeartbeats 4000000 in
theorem lo_i (key : ByteArray) (kind : Int) (auA : Option Addr) (auN : Nat) (auc : Nat) (auL : List Nm) (edA : Option Addr) (edN : Nat) (edc : Nat) (edL : List Nm) (ti : ByteArray) (co : ByteArray) (pu : ByteArray) (y : Int) (m : Int) (d : Int) (ci : Bool) (vol : Int) (pa : ByteArray) (cr : ByteArray) (lk : ByteArray) (ln ld lt : Int) (r : Bool) (w : World) (hr : labOf (⟨key, kind, auA, auN, auc, auL, edA, edN, edc, edL, ti, co, pu, y, m, d, ci, vol, pa, cr⟩ : En) ⟨lk, ln, ld, lt⟩ = r) :
    Calls Tryz.prog 31 #[.agg #[.string key, .int .i64 kind, .slice auA auN auc, .slice edA edN edc, .string ti, .string co, .string pu, .int .i64 y, .int .i64 m, .int .i64 d, .bool ci, .int .i64 vol, .string pa, .string cr], lbV lk ln ld lt] w fun e w' => e = .returned (.bool r) ∧ Kp w w' := by
  have b1 : Kp w (w.alloc (.cells #[.string key, .int .i64 kind, .slice auA auN auc, .slice edA edN edc, .string ti, .string co, .string pu, .int .i64 y, .int .i64 m, .int .i64 d, .bool ci, .int .i64 vol, .string pa, .string cr] 58)) := kal (kre _) _
  have hX := E14.new w (⟨key, kind, auA, auN, auc, auL, edA, edN, edc, edL, ti, co, pu, y, m, d, ci, vol, pa, cr⟩ : En) 58
  obtain ⟨q, hq⟩ : ∃ q, wrt ln ld lt = q := ⟨_, rfl⟩
  have HW := Lib.hid (fun w => wrt_i lk ln ld lt q w hq)
  have HR : Hid ((decide (lk = key) && q) = r) := Lib.hid (by rw [← hr, ← hq]; rfl)
  have hX2 := hX.below (kal (kre _) (.cells #[.string lk, .int .i64 ln, .int .i64 ld, .int .i64 lt] 53))
  obtain ⟨hlt, e0, -⟩ := hX2
  have b2 := kal b1 (.cells #[.string lk, .int .i64 ln, .int .i64 ld, .int .i64 lt] 53)
  clear hr hq hX
  go_enter Tryz.func31, Tryz.ntmps31
  go_upto_region 1 with fail
  generalize hW1 : w.alloc (.cells #[.string key, .int .i64 kind, .slice auA auN auc, .slice edA edN edc, .string ti, .string co, .string pu, .int .i64 y, .int .i64 m, .int .i64 d, .bool ci, .int .i64 vol, .string pa, .string cr] 58) = w1 at b1 b2 hlt e0 ⊢
  have hsz : w1.heap.size = w.heap.size + 1 := by rw [← hW1]; simp
  obtain ⟨l0, l1, l2, l3⟩ : (w1.alloc (.cells #[.string lk, .int .i64 ln, .int .i64 ld, .int .i64 lt] 53)).cell? ⟨w1.heap.size, 0, none⟩ = some (.string lk) ∧ (w1.alloc (.cells #[.string lk, .int .i64 ln, .int .i64 ld, .int .i64 lt] 53)).cell? ⟨w1.heap.size, 1, none⟩ = some (.int .i64 ln) ∧ (w1.alloc (.cells #[.string lk, .int .i64 ln, .int .i64 ld, .int .i64 lt] 53)).cell? ⟨w1.heap.size, 2, none⟩ = some (.int .i64 ld) ∧ (w1.alloc (.cells #[.string lk, .int .i64 ln, .int .i64 ld, .int .i64 lt] 53)).cell? ⟨w1.heap.size, 3, none⟩ = some (.int .i64 lt) := ⟨by simp, by simp, by simp, by simp⟩
  clear hW1
  rw [hsz] at l0 l1 l2 l3
  try rw [hsz]
  generalize w1.alloc (.cells #[.string lk, .int .i64 ln, .int .i64 ld, .int .i64 lt] 53) = w2 at *
  by_cases ek : lk = key
  · subst ek
    have HR2 : Hid (r = q) := Lib.hid (by rw [← HR.out]; simp)
    have HB := Lib.hid b2
    clear HR b1 b2
    go_wp2_with (first
      | (go_at_call 53; refine (HW.out _).mono ?_; rintro e w3 ⟨rfl, b3⟩)
      | fail)
    go_ret
    exact ⟨by rw [HR2.out]; rfl, ktr HB.out b3⟩
  · have HR2 : Hid (r = false) := Lib.hid (by rw [← HR.out]; simp [ek])
    have hq := ne_forms' ek
    have HB := Lib.hid b2
    clear HR b1 b2 ek
    go_wp2_with fail
    go_ret
    exact ⟨by rw [HR2.out]; rfl, HB.out⟩
end Go.Proofs.YteccmlpibbchbaaGreatDoor.Tdn
/-
  slices.EqualFunc of entries and labels with isLabelOf.
-/
namespace Go.Proofs.YteccmlpibbchbaaGreatDoor.Tdn
open Go.ChangeShapes Go.WideShapes Go.ChangeAt Go.RowKit Go.Joins Go.Deep
open Pl Strs Help Name Stands SplitPl NmPl Word Part NGood Nms Jn Ens Lab Kpz Ce Rdf LdPl Lbs Lbr Cit
open Num (Tab Tab.below)
set_option linter.unusedSimpArgs false
set_option linter.unusedVariables false

set_option maxRecDepth 100000 in
set_option maxHeartbeats 8000000 in
theorem eqf_i (A : Option Addr) (c N : Nat) (L : List En) (B : Option Addr) (c' M : Nat) (S : List Lb4) (w : World) (h : RdE w A L) (hn : L.length = N) (hm : N ≤ 1048576) (hS : RdL w B S) (hSn : S.length = M) (hM : M ≤ 1048576) :
    Calls Tryz.prog 30 #[.slice A N c, .slice B M c', .func (.func 31) #[] #[]] w fun e w' => e = .returned (.bool (okLs L S)) ∧ Kp w w' := by
  have H := Lib.hid h
  have HS := Lib.hid hS
  have HN := Lib.hid hn
  have HSN := Lib.hid hSn
  have HOk : Hid (okLs L S = (decide (N = M) && lsT L S N)) := Lib.hid (by unfold okLs; rw [hn, hSn])
  clear h hS hn hSn
  by_cases eNM : N = M
  · subst eNM
    have HOk2 : Hid (okLs L S = lsT L S N) := Lib.hid (by rw [HOk.out, decide_eq_true rfl, Bool.true_and])
    clear HOk
    go_enter Tryz.func30, Tryz.ntmps30
    go_wp2_with fail
    go_loopw [17] (fun i wr => ∃ k : Nat, k ≤ N ∧ i = .int .i64 k ∧ Hid (lsT L S k = true) ∧ Kp w wr) (fun i _ => N - (intOf i).toNat)
    case atStart => exact ⟨0, Nat.zero_le _, rfl, Lib.hid rfl, kre _⟩
    case round =>
      obtain ⟨k, hk, rfl, HP, kw⟩ := hrel
      by_cases hlt : k < N
      · have hkx : k < L.length := by rw [HN.out]; exact hlt
        have hky : k < S.length := by rw [HSN.out]; exact hlt
        have hx? := List.getElem?_eq_getElem hkx
        have hy? := List.getElem?_eq_getElem hky
        obtain ⟨hxr, g, o, rfl, hg, a0, a1, a2, a3, a4, a5, a6, a7, a8, a9, a10, a11, a12, a13⟩ := (H.out.below kw) k L[k] hx?
        obtain ⟨g2, o2, rfl, hg2, l0, l1, l2, l3⟩ := (HS.out.below kw) k S[k] hy?
        have HX : Hid (lsT L S (k + 1) = labOf L[k] S[k]) := Lib.hid (by rw [lsT_step hx? hy?, HP.out, Bool.true_and])
        clear hx? hy?
        generalize L[k] = x at *
        generalize S[k] = yl at *
        obtain ⟨key, kind, auA, auN, auc, auL, edA, edN, edc, edL, ti, co, pu, y, m, d, ci, vol, pa, cr⟩ := x
        obtain ⟨lk, ln, ld, lt⟩ := yl
        dsimp only at a0 a1 a2 a3 a4 a5 a6 a7 a8 a9 a10 a11 a12 a13 l0 l1 l2 l3
        obtain ⟨r, hr⟩ : ∃ r, labOf (⟨key, kind, auA, auN, auc, auL, edA, edN, edc, edL, ti, co, pu, y, m, d, ci, vol, pa, cr⟩ : En) ⟨lk, ln, ld, lt⟩ = r := ⟨_, rfl⟩
        have HC := Lib.hid (fun W => lo_i key kind auA auN auc auL edA edN edc edL ti co pu y m d ci vol pa cr lk ln ld lt r W hr)
        rw [hr] at HX
        have b5 : Kp wr (wr.alloc (.cells #[.string key, .int .i64 kind, .slice auA auN auc, .slice edA edN edc, .string ti, .string co, .string pu, .int .i64 y, .int .i64 m, .int .i64 d, .bool ci, .int .i64 vol, .string pa, .string cr] 58)) := kal (kre _) _
        have hX := E14.new wr (⟨key, kind, auA, auN, auc, auL, edA, edN, edc, edL, ti, co, pu, y, m, d, ci, vol, pa, cr⟩ : En) 58
        have HL : Hid (∀ W, Kp wr W → W.cell? ⟨g2, o2 + k * 4, none⟩ = some (.string lk) ∧ W.cell? ⟨g2, o2 + k * 4 + 1, none⟩ = some (.int .i64 ln) ∧ W.cell? ⟨g2, o2 + k * 4 + 2, none⟩ = some (.int .i64 ld) ∧ W.cell? ⟨g2, o2 + k * 4 + 3, none⟩ = some (.int .i64 lt)) := Lib.hid (fun W h => ⟨(h.cell (p := ⟨g2, o2 + k * 4, none⟩) hg2).trans l0, (h.cell (p := ⟨g2, o2 + k * 4 + 1, none⟩) hg2).trans l1, (h.cell (p := ⟨g2, o2 + k * 4 + 2, none⟩) hg2).trans l2, (h.cell (p := ⟨g2, o2 + k * 4 + 3, none⟩) hg2).trans l3⟩)
        clear hxr hr l0 l1 l2 l3
        go_upto_region 6 with fail
        generalize hW2 : wr.alloc (.cells #[.string key, .int .i64 kind, .slice auA auN auc, .slice edA edN edc, .string ti, .string co, .string pu, .int .i64 y, .int .i64 m, .int .i64 d, .bool ci, .int .i64 vol, .string pa, .string cr] 58) = w2 at hX b5 ⊢
        clear hW2 a0 a1 a2 a3 a4 a5 a6 a7 a8 a9 a10 a11 a12 a13
        obtain ⟨q0, q1, q2, q3⟩ := HL.out w2 b5
        have b6 : Kp w2 (w2.alloc (.cells #[.string lk, .int .i64 ln, .int .i64 ld, .int .i64 lt] 53)) := kal (kre _) _
        obtain ⟨hlt2, e0, e1, e2, e3, e4, e5, e6, e7, e8, e9, e10, e11, e12, e13⟩ := hX.below b6
        dsimp only at e0 e1 e2 e3 e4 e5 e6 e7 e8 e9 e10 e11 e12 e13
        obtain ⟨p0, p1, p2, p3⟩ : (w2.alloc (.cells #[.string lk, .int .i64 ln, .int .i64 ld, .int .i64 lt] 53)).cell? ⟨w2.heap.size, 0, none⟩ = some (.string lk) ∧ (w2.alloc (.cells #[.string lk, .int .i64 ln, .int .i64 ld, .int .i64 lt] 53)).cell? ⟨w2.heap.size, 1, none⟩ = some (.int .i64 ln) ∧ (w2.alloc (.cells #[.string lk, .int .i64 ln, .int .i64 ld, .int .i64 lt] 53)).cell? ⟨w2.heap.size, 2, none⟩ = some (.int .i64 ld) ∧ (w2.alloc (.cells #[.string lk, .int .i64 ln, .int .i64 ld, .int .i64 lt] 53)).cell? ⟨w2.heap.size, 3, none⟩ = some (.int .i64 lt) := ⟨by simp, by simp, by simp, by simp⟩
        have hk6 : Kp w (w2.alloc (.cells #[.string lk, .int .i64 ln, .int .i64 ld, .int .i64 lt] 53)) := ktr (ktr kw b5) b6
        clear hX
        go_upto_region 7 with fail
        generalize w2.alloc (.cells #[.string lk, .int .i64 ln, .int .i64 ld, .int .i64 lt] 53) = w3 at *
        go_wp2_with fail
        refine (HC.out _).mono ?_
        rintro e w4 ⟨rfl, b4⟩
        have hk7 := ktr hk6 b4
        clear e0 e1 e2 e3 e4 e5 e6 e7 e8 e9 e10 e11 e12 e13 p0 p1 p2 p3 q0 q1 q2 q3 hk6 b6 b4 HC HL
        cases r with
        | false =>
          have HE : Hid (lsT L S N = false) := Lib.hid (lsT_false HX.out N (by omega))
          go_wp2_with fail
          go_ret
          exact ⟨by rw [HOk2.out, HE.out]; rfl, hk7⟩
        | true =>
          go_wp2_with fail
          go_roundw
          case rel => exact ⟨k + 1, by omega, by go_num, HX, hk7⟩
          case measure => simp [intOf]; omega
      · obtain rfl : k = N := by omega
        go_wp2_with fail
        go_ret
        exact ⟨by rw [HOk2.out, HP.out]; rfl, kw⟩
  · have HOk2 : Hid (okLs L S = false) := Lib.hid (by rw [HOk.out, decide_eq_false eNM, Bool.false_and])
    have heq : ((N : Int) == (M : Int)) = false := by rw [beq_eq_false_iff_ne]; omega
    have hne : ((N : Int) != (M : Int)) = true := by simp; omega
    clear HOk
    go_enter Tryz.func30, Tryz.ntmps30
    go_wp2_with fail
    go_ret
    exact ⟨by rw [HOk2.out]; rfl, kre _⟩
end Go.Proofs.YteccmlpibbchbaaGreatDoor.Tdn
/-
  The keys of the groups: what AmbiguousGroups answers; the program.
-/
namespace Go.Proofs.YteccmlpibbchbaaGreatDoor.Tdn
open Go.ChangeShapes Go.WideShapes Go.ChangeAt Go.RowKit Go.Joins Go.Deep
open Pl Strs Help Name Stands SplitPl NmPl Word Part NGood Nms Jn Ens Lab Kpz Ce Rdf LdPl Lbs Lbr Cit
open Num (Tab Tab.below)
set_option linter.unusedSimpArgs false
set_option linter.unusedVariables false

/-- the key at a place -/
def kyOf (L : List En) (p : Nat) : ByteArray := ((L[p]?).map En.key).getD ByteArray.empty
theorem kyOf_at {L : List En} {p : Nat} {x : En} (h : L[p]? = some x) : kyOf L p = x.key := by unfold kyOf; rw [h]; rfl
/-- the slice holds lists of texts, each in a row of its own, and none in another's -/
def Gs (w : World) (base : Nat) (v : Value) (C : List (List ByteArray)) : Prop := ∃ vs, w.ownsRow base 61 1 v C.length vs ∧ (∀ (j : Nat) (x : List ByteArray), C[j]? = some x → ∃ g c, vs[j]? = some (.slice (some ⟨g, 0, none⟩) x.length c) ∧ w.ownsRow base 9 1 (.slice (some ⟨g, 0, none⟩) x.length c) x.length (x.map Value.string) ∧ v.ownBlock ≠ some g) ∧
  ∀ (i j : Nat) (a b : Value), i ≠ j → vs[i]? = some a → vs[j]? = some b → a.ownBlock ≠ b.ownBlock
theorem Gs.kp {w w' : World} {base : Nat} {v : Value} {C : List (List ByteArray)} (h : Gs w base v C) (hb : Kp w w') : Gs w' base v C := by
  obtain ⟨vs, h1, h2, h3⟩ := h
  refine ⟨vs, own_kp h1 hb, fun j x hx => ?_, h3⟩
  obtain ⟨g, c, e, ho, hne⟩ := h2 j x hx
  exact ⟨g, c, e, own_kp ho hb, hne⟩
theorem Gs.base {w : World} {b b' : Nat} {v : Value} {C : List (List ByteArray)} (hb : b' ≤ b) (h : Gs w b v C) : Gs w b' v C := by
  obtain ⟨vs, h1, h2, h3⟩ := h
  refine ⟨vs, Cs.row_base hb h1, fun j x hx => ?_, h3⟩
  obtain ⟨g, c, e, ho, hne⟩ := h2 j x hx
  exact ⟨g, c, e, Cs.row_base hb ho, hne⟩
theorem Gs.empty (w : World) (base : Nat) (h : base ≤ w.heap.size) : Gs (w.alloc (.cells #[] 61)) base (.slice (some ⟨w.heap.size, 0, none⟩) 0 0) [] := by
  refine ⟨[], ?_, fun j x hx => by simp at hx, fun i j a b _ ha => by simp at ha⟩
  have h9 := World.ownsRow_lit (base := base) (e := 61) (size := 1) w #[] 0 h (Nat.zero_le _) rfl
  simpa using h9
theorem infoStS : (Tryz.prog.info? 61).map (fun i => (i.zero, i.size, i.bytes)) = some (some (.slice none 0 0), 1, 24) := by kernel_rfl
/-- a row is appended -/
theorem Gs.add {w1 w2 : World} {base : Nat} {v v' : Value} {C : List (List ByteArray)} {x : List ByteArray} {vs : List Value} {g c : Nat}
    (h1 : ∀ (j : Nat) (y : List ByteArray), C[j]? = some y → ∃ g c, vs[j]? = some (.slice (some ⟨g, 0, none⟩) y.length c) ∧ w1.ownsRow base 9 1 (.slice (some ⟨g, 0, none⟩) y.length c) y.length (y.map Value.string) ∧ v.ownBlock ≠ some g)
    (h3 : ∀ (i j : Nat) (a b : Value), i ≠ j → vs[i]? = some a → vs[j]? = some b → a.ownBlock ≠ b.ownBlock) (h4 : ∀ (j : Nat) (a : Value), vs[j]? = some a → a.ownBlock ≠ some g)
    (hx : w1.ownsRow base 9 1 (.slice (some ⟨g, 0, none⟩) x.length c) x.length (x.map Value.string)) (hxg : v.ownBlock ≠ some g)
    (hvs : vs.length = C.length) (ho : w2.ownsRow base 61 1 v' (C.length + 1) (vs ++ [.slice (some ⟨g, 0, none⟩) x.length c])) (hg : w1.grownBy w2 v.ownBlock) (hat : v'.ownBlock = v.ownBlock ∨ v'.ownBlock = some w1.heap.size) : Gs w2 base v' (C ++ [x]) := by
  have key : ∀ g' (c' : Nat) (y : List ByteArray), w1.ownsRow base 9 1 (.slice (some ⟨g', 0, none⟩) y.length c') y.length (y.map Value.string) → v.ownBlock ≠ some g' → w2.ownsRow base 9 1 (.slice (some ⟨g', 0, none⟩) y.length c') y.length (y.map Value.string) ∧ v'.ownBlock ≠ some g' := fun g' c' y hy hne => by
    refine ⟨own_far hy hg (fun e => hne e.symm), fun e => ?_⟩
    rcases hat with h | h
    · exact hne (h.symm.trans e)
    · rw [h] at e
      have := (hy.lt g' rfl).2
      cases e
      omega
  have idx : ∀ (j : Nat) (a : Value), (vs ++ [Value.slice (some ⟨g, 0, none⟩) x.length c])[j]? = some a → (j < vs.length ∧ vs[j]? = some a) ∨ (j = vs.length ∧ a = .slice (some ⟨g, 0, none⟩) x.length c) := fun j a ha => by
    rcases Nat.lt_or_ge j vs.length with hj | hj
    · rw [List.getElem?_append_left hj] at ha
      exact .inl ⟨hj, ha⟩
    · rw [List.getElem?_append_right hj] at ha
      have hj0 : j - vs.length = 0 := by
        have := (List.getElem?_eq_some_iff.1 ha).1
        simp at this
        omega
      rw [hj0] at ha
      cases ha
      exact .inr ⟨by omega, rfl⟩
  refine ⟨vs ++ [.slice (some ⟨g, 0, none⟩) x.length c], by rw [List.length_append]; exact ho, fun j y hy => ?_, fun i j a b hij ha hb => ?_⟩
  · rcases Nat.lt_or_ge j C.length with hj | hj
    · rw [List.getElem?_append_left hj] at hy
      obtain ⟨g', c', e, ho', hne⟩ := h1 j y hy
      obtain ⟨k1, k2⟩ := key g' c' y ho' hne
      exact ⟨g', c', by rw [List.getElem?_append_left (by omega)]; exact e, k1, k2⟩
    · rw [List.getElem?_append_right hj] at hy
      have hj0 : j - C.length = 0 := by
        have := (List.getElem?_eq_some_iff.1 hy).1
        simp at this
        omega
      rw [hj0] at hy
      cases hy
      obtain ⟨k1, k2⟩ := key g c x hx hxg
      exact ⟨g, c, by rw [List.getElem?_append_right (by omega), show j - vs.length = 0 by omega]; rfl, k1, k2⟩
  · rcases idx i a ha with ⟨hi, ha⟩ | ⟨hi, rfl⟩
    · rcases idx j b hb with ⟨hj, hb⟩ | ⟨hj, rfl⟩
      · exact h3 i j a b hij ha hb
      · exact h4 i a ha
    · rcases idx j b hb with ⟨hj, hb⟩ | ⟨hj, rfl⟩
      · exact (h4 j b hb).symm
      · omega
/-- the keys of the groups -/
def agL (L : List En) (S : List Lb4) : List (List ByteArray) := (groups (txs L S)).map fun g => g.map (kyOf L)
def okAg (L : List En) (S : List Lb4) : Bool := okLib L && okLs L S
def agT (L : List En) (S : List Lb4) : List (List ByteArray) := if okAg L S = true then agL L S else []
def AgP (L : List En) (S : List Lb4) (w : World) (e : Ending) (w' : World) : Prop := ∃ v, e = .returned (.tuple #[v, .bool (okAg L S)]) ∧ Gs w' w.heap.size v (agT L S) ∧ Kp w w'
theorem ctS_size {x : En} (h : okE x = true) (hz : x.sz ≤ 1048576) (n d t : Int) : (ctS x n d t).size ≤ 16777216 := by
  obtain ⟨-, -, p3⟩ := ok_parts h
  have h1 := ctN_size h n.toNat d
  have h2 := ctY_size (t := t) (dl_size (ok_year p3))
  have h4 : x.ti.size ≤ 1048576 := by have := hz; unfold En.sz at this; omega
  have h5 : x.key.size ≤ 1048576 := by have := hz; unfold En.sz at this; omega
  have h3 : (fst3 (ctN x n.toNat d) x.ti x.key).size ≤ 1048576 := fst3_size (by omega) h4 h5
  have h6 : (⟨#[32]⟩ : ByteArray).size = 1 := rfl
  unfold ctS
  rw [ByteArray.size_append, ByteArray.size_append]
  omega
theorem txs_size {L : List En} {S : List Lb4} (hz : ∀ x ∈ L, x.sz ≤ 1048576) (hok : ∀ x ∈ L, okE x = true) : ∀ s ∈ txs L S, s.size ≤ 16777216 := by
  intro s hs
  unfold txs at hs
  obtain ⟨k, hk⟩ := List.getElem?_of_mem hs
  rw [List.getElem?_zipWith] at hk
  cases h1 : L[k]? with
  | none => rw [h1] at hk; simp at hk
  | some x =>
    cases h2 : S[k]? with
    | none => rw [h1, h2] at hk; simp at hk
    | some l =>
      rw [h1, h2] at hk
      cases hk
      have hm := List.mem_of_getElem? h1
      exact ctS_size (hok x hm) (hz x hm) _ _ _
theorem groups_len (T : List ByteArray) : (groups T).length ≤ T.length := by
  unfold groups
  rw [List.length_map]
  exact Nat.le_trans (List.length_filter_le _ _) (by simp)
theorem groups_in {T : List ByteArray} {x : List Nat} (h : x ∈ groups T) : x.length ≤ T.length ∧ ∀ p ∈ x, p < T.length := by
  unfold groups at h
  obtain ⟨i, hi, rfl⟩ := List.mem_map.1 h
  unfold grp
  refine ⟨Nat.le_trans (List.length_filter_le _ _) (by simp), fun p hp => ?_⟩
  have := (List.mem_filter.1 hp).1
  rwa [List.mem_range] at this
end Go.Proofs.YteccmlpibbchbaaGreatDoor.Tdn
/-
  AmbiguousGroups: the program.
-/
namespace Go.Proofs.YteccmlpibbchbaaGreatDoor.Tdn
open Go.ChangeShapes Go.WideShapes Go.ChangeAt Go.RowKit Go.Joins Go.Deep
open Pl Strs Help Name Stands SplitPl NmPl Word Part NGood Nms Jn Ens Lab Kpz Ce Rdf LdPl Lbs Lbr Cit
open Num (Tab Tab.below)
set_option linter.unusedSimpArgs false
set_option linter.unusedVariables false

theorem agL_take {L : List En} {G : List (List Nat)} {k : Nat} {x : List Nat} (h : G[k]? = some x) : (G.take (k + 1)).map (fun g => g.map (kyOf L)) = (G.take k).map (fun g => g.map (kyOf L)) ++ [x.map (kyOf L)] := by
  rw [List.take_add_one, h, List.map_append]; rfl
theorem ky_take {L : List En} {x : List Nat} {j p : Nat} {y : En} (h : x[j]? = some p) (hy : L[p]? = some y) : ((x.take (j + 1)).map (kyOf L)).map Value.string = ((x.take j).map (kyOf L)).map Value.string ++ [.string y.key] := by
  rw [List.take_add_one, h, List.map_append, List.map_append]
  show _ ++ [Value.string (kyOf L p)] = _
  rw [kyOf_at hy]
/-- the groups lie from lo on -/
def RdGr (lo : Nat) (w : World) (A : Option Addr) (G : List (List Nat)) : Prop := ∀ (j : Nat) (x : List Nat), G[j]? = some x → ∃ g o gi c, A = some ⟨g, o, none⟩ ∧ (lo ≤ g ∧ g < w.heap.size) ∧ (lo ≤ gi ∧ gi < w.heap.size) ∧ w.cell? ⟨g, o + j, none⟩ = some (.slice (some ⟨gi, 0, none⟩) x.length c) ∧ ∀ (i k : Nat), x[i]? = some k → w.cell? ⟨gi, i, none⟩ = some (iV k)
theorem Gw.rdr {w : World} {base : Nat} {v : Value} {G : List (List Nat)} (h : Gw w base v G) : ∃ A c, v = .slice A G.length c ∧ RdGr base w A G := by
  obtain ⟨vs, ho, hin⟩ := h
  rcases ho.2 with ⟨rfl, hl⟩ | ⟨g, cap, cur, rfl, _, hg, _⟩
  · refine ⟨none, 0, by rw [hl], fun j x hx => ?_⟩
    have := (List.getElem?_eq_some_iff.1 hx).1
    omega
  · refine ⟨_, cap, rfl, fun j x hx => ?_⟩
    obtain ⟨gi, c, e, hx2, _⟩ := hin j x hx
    have hj := (List.getElem?_eq_some_iff.1 hx).1
    refine ⟨g, 0, gi, c, rfl, ho.lt g rfl, hx2.lt gi rfl, ?_, fun i k hk => ?_⟩
    · rw [Nat.zero_add]
      exact (World.ownsRow.cellAt ho j (by omega)).trans e
    · have hi := (List.getElem?_eq_some_iff.1 hk).1
      refine (World.ownsRow.cellAt hx2 i (by omega)).trans ?_
      rw [List.getElem?_map, hk]
      rfl
/-- between lo and what was new, the world is as it was -/
def Mid (lo : Nat) (w w' : World) : Prop := w.heap.size ≤ w'.heap.size ∧ ∀ b, lo ≤ b → b < w.heap.size → w'.heap[b]? = w.heap[b]?
theorem Mid.refl (lo : Nat) (w : World) : Mid lo w w := ⟨Nat.le_refl _, fun _ _ _ => rfl⟩
theorem Mid.kp {lo : Nat} {w w1 w2 : World} (h : Mid lo w w1) (hb : Kp w1 w2) : Mid lo w w2 := ⟨Nat.le_trans h.1 (ksz hb), fun b h1 h2 => (hb.block b (Nat.lt_of_lt_of_le h2 h.1)).trans (h.2 b h1 h2)⟩
theorem Mid.gr {lo : Nat} {w w1 w2 : World} {row : Option Nat} (h : Mid lo w w1) (hg : w1.grownBy w2 row) (hr : ∀ b, row = some b → b < lo ∨ w.heap.size ≤ b) : Mid lo w w2 := ⟨Nat.le_trans h.1 hg.size, fun b h1 h2 => (hg.block b (Nat.lt_of_lt_of_le h2 h.1) (fun e => by have := hr b e.symm; omega)).trans (h.2 b h1 h2)⟩
theorem RdGr.mid {lo : Nat} {w w' : World} {A : Option Addr} {G : List (List Nat)} (h : RdGr lo w A G) (hb : Mid lo w w') : RdG w' A G := by
  intro j x hx
  obtain ⟨g, o, gi, c, e, h1, h2, h3, h4⟩ := h j x hx
  exact ⟨g, o, gi, c, e, Nat.lt_of_lt_of_le h1.2 hb.1, Nat.lt_of_lt_of_le h2.2 hb.1, (World.cell?_of_block (a := ⟨g, o + j, none⟩) (hb.2 g h1.1 h1.2)).trans h3, fun i k hk => (World.cell?_of_block (a := ⟨gi, i, none⟩) (hb.2 gi h2.1 h2.2)).trans (h4 i k hk)⟩
set_option maxRecDepth 100000 in
set_option maxHeartbeats 16000000 in
theorem ag_im (A : Option Addr) (c N : Nat) (L : List En) (B : Option Addr) (c' M : Nat) (S : List Lb4) (w : World) (h : RdE w A L) (hn : L.length = N) (hm : N ≤ 1048576) (hz : ∀ x ∈ L, x.sz ≤ 1048576) (hS : RdL w B S) (hSn : S.length = M) (hM : M ≤ 1048576) (hcp : Cap L) (ht : Tab w) (hmn : Mon w) :
    Calls Tryz.prog 10 #[.agg #[.slice A N c], .slice B M c'] w (AgP L S w) := by
  obtain ⟨i0, hi, hz0, hz1, hz2⟩ := Lbr.info_parts Split.infoStr
  obtain ⟨i1, hi1, hy0, hy1, hy2⟩ := Lbr.info_parts infoStS
  have hb0 : Kp w (w.alloc (.cells #[.slice A N c] 33)) := kal (kre _) _
  have hc0 := (box1 w (.slice A N c) 33).1
  have hs0 : w.heap.size < (w.alloc (.cells #[.slice A N c] 33)).heap.size := by simp
  have HV := Lib.hid (isValidL A c N L _ (h.below hb0) hn hm hz)
  have HEq := Lib.hid (fun W (k : Kp w W) => eqf_i A c N L B c' M S W (h.below k) hn hm (hS.below k) hSn hM)
  have H := Lib.hid h
  have HN := Lib.hid hn
  have HTx := Lib.hid (fun (ho : okLib L = true) (ho2 : okLs L S = true) W (k : Kp w W) => texts_i A c N L B c' S W (h.below k) hn (by have := okLib_8 ho; omega) (hS.below k) (by rw [← (okLs_okS ho2).1]; exact hn) hz (okL_of ho) (okLs_okS ho2).2 hcp (ht.below k) (hmn.below k))
  have HNM : Hid (okLs L S = true → M = N) := Lib.hid (fun ho2 => by rw [← hSn, ← hn]; exact (okLs_okS ho2).1.symm)
  have HTl : Hid (okLs L S = true → (txs L S).length = N) := Lib.hid (fun ho2 => txs_len hn (by rw [← (okLs_okS ho2).1]; exact hn))
  have HTz : Hid (okLib L = true → ∀ s ∈ txs L S, s.size ≤ 16777216) := Lib.hid (fun ho => txs_size hz (okL_of ho))
  have HN8 : Hid (okLib L = true → N ≤ 8) := Lib.hid (fun ho => by have := okLib_8 ho; omega)
  have HAs : Hid (okAg L S = (okLib L && okLs L S)) := Lib.hid rfl
  have E1 : Hid ((okLib L && okLs L S) = true → agT L S = agL L S) := Lib.hid (fun h => if_pos (by rw [HAs.out, h]))
  have E0 : Hid ((okLib L && okLs L S) = false → agT L S = []) := Lib.hid (fun h => if_neg (by rw [HAs.out, h]; exact Bool.false_ne_true))
  unfold AgP
  rw [HAs.out]
  generalize okLib L = r1 at *
  generalize okLs L S = r2 at *
  clear h hn hz hS hSn hcp ht hmn HAs
  go_enter Tryz.func10, Tryz.ntmps10
  go_wp2_with fail
  generalize w.alloc (.cells #[.slice A N c] 33) = w0 at hb0 hc0 hs0 HV ⊢
  refine HV.out.mono ?_
  rintro e w1 ⟨rfl, b1⟩
  have HC : Hid (∀ W, Kp w0 W → W.cell? ⟨w.heap.size, 0, none⟩ = some (.slice A N c)) := Lib.hid (fun W h => (h.cell (p := ⟨w.heap.size, 0, none⟩) hs0).trans hc0)
  have hc1 := HC.out w1 b1
  have k1 : Kp w w1 := ktr hb0 b1
  have HB1 := Lib.hid b1
  have hs1 := Nat.lt_of_lt_of_le hs0 b1.size
  clear b1 HV hc0 hs0
  cases r1 with
  | false =>
    go_wp2_with fail
    go_ret2
    exact ⟨_, rfl, by rw [E0.out (by first | rfl | trivial)]; exact Gs.base (ksz k1) (Gs.empty w1 w1.heap.size (Nat.le_refl _)), kal k1 _⟩
  | true =>
    go_wp2_with fail
    refine (HEq.out _ k1).mono ?_
    rintro e w2 ⟨rfl, b2⟩
    have hc2 := HC.out w2 (ktr HB1.out b2)
    have k2 : Kp w w2 := ktr k1 b2
    have HB2 := Lib.hid (ktr HB1.out b2)
    clear hc1 b2 k1 HEq
    cases r2 with
    | false =>
      go_wp2_with fail
      go_ret2
      exact ⟨_, rfl, by rw [E0.out (by first | rfl | trivial)]; exact Gs.base (ksz k2) (Gs.empty w2 w2.heap.size (Nat.le_refl _)), kal k2 _⟩
    | true =>
      have hN8 := HN8.out (by first | rfl | trivial)
      have HTxs := Lib.hid (HTx.out (by first | rfl | trivial) (by first | rfl | trivial))
      have HTl2 := Lib.hid (HTl.out (by first | rfl | trivial))
      have HTz2 := Lib.hid (HTz.out (by first | rfl | trivial))
      have HE1 := Lib.hid (E1.out (by first | rfl | trivial))
      obtain rfl : M = N := HNM.out (by first | rfl | trivial)
      clear HTx HTl HTz E1 E0 HN8 HNM
      go_upto_region 4 with fail
      have hb3 : Kp w2 (w2.alloc (.cells #[] 61)) := kal (kre _) _
      have hc3 := HC.out _ (ktr HB2.out hb3)
      have HG0 : Hid (∀ b, b ≤ w2.heap.size → Gs (w2.alloc (.cells #[] 61)) b (.slice (some ⟨w2.heap.size, 0, none⟩) 0 0) []) := Lib.hid (fun b hb => Gs.empty w2 b hb)
      have hs2 : w2.heap.size < (w2.alloc (.cells #[] 61)).heap.size := by simp
      generalize hW3 : w2.alloc (.cells #[] 61) = w3 at *
      clear hW3
      have k3 := ktr k2 hb3
      have HB3 := Lib.hid (ktr HB2.out hb3)
      clear hc2
      go_wp2_with fail
      refine (HTxs.out _ k3).mono ?_
      rintro e w4 ⟨vt, rfl, hvt, b4⟩
      have k4 := ktr k3 b4
      rw [HTl2.out] at hvt
      obtain ⟨AT, cT, rfl, -, hrt, -⟩ := own_rds hvt
      have HAm := Lib.hid (ambig_i AT cT M (txs L S) w4 hrt HTl2.out hN8 HTz2.out)
      clear hvt hrt HTxs
      go_wp2_with fail
      refine HAm.out.mono ?_
      rintro e w5 ⟨vG, rfl, hG, b5⟩
      obtain ⟨AG, cG, rfl, hrd⟩ := hG.gw.rdr
      have hGl := groups_len (txs L S)
      rw [HTl2.out] at hGl
      have HGi : Hid (∀ x ∈ groups (txs L S), x.length ≤ M ∧ ∀ p ∈ x, p < M) := Lib.hid (fun x hx => by have := groups_in hx; rwa [HTl2.out] at this)
      have HE2 : Hid (agL L S = (groups (txs L S)).map fun g => g.map (kyOf L)) := Lib.hid rfl
      have k45 := ktr b4 b5
      have hw4 := ksz k4
      have hs24 : w2.heap.size < w4.heap.size := Nat.lt_of_lt_of_le hs2 (ksz b4)
      have HR := Lib.hid hrd
      have HG5 : Hid (Gs w5 w2.heap.size (.slice (some ⟨w2.heap.size, 0, none⟩) 0 0) []) := Lib.hid ((HG0.out _ (Nat.le_refl _)).kp k45)
      have k5 : Kp w w5 := ktr k3 k45
      have HB5 := Lib.hid (ktr HB3.out k45)
      have HB25 := Lib.hid (ktr hb3 k45)
      have hs5 : w2.heap.size < w5.heap.size := Nat.lt_of_lt_of_le hs2 (ksz k45)
      generalize groups (txs L S) = G at *
      clear hG hrd HAm HG0 b4 b5 k4 k45 hc3 k3
      go_wp2_with fail
      go_loopw [6, 29] (fun v i wr => ∃ k : Nat, k ≤ G.length ∧ i = .int .i64 k ∧ Hid (Gs wr w2.heap.size v ((G.take k).map fun g => g.map (kyOf L))) ∧ Hid (∀ b, v.ownBlock = some b → b < w4.heap.size ∨ w5.heap.size ≤ b) ∧ Kp w2 wr ∧ Mid w4.heap.size w5 wr) (fun _ i _ => G.length - (intOf i).toNat)
      case atStart => exact ⟨0, Nat.zero_le _, rfl, HG5, Lib.hid (fun b hb => by have hb' : w2.heap.size = b := Option.some.inj hb; omega), HB25.out, Mid.refl _ _⟩
      case round =>
        obtain ⟨k, hk, rfl, HG, HV, kw, mw⟩ := hrel
        by_cases hlt : k < G.length
        · obtain ⟨x, hx⟩ : ∃ x, G[k]? = some x := ⟨_, List.getElem?_eq_getElem hlt⟩
          obtain ⟨gg, og, gi, cg, rfl, hgl, hgil, hcell, hcells⟩ := (HR.out.mid mw) k x hx
          obtain ⟨hxl, hxp⟩ := HGi.out x (List.mem_of_getElem? hx)
          have HTk := Lib.hid (agL_take (L := L) hx)
          have hxl8 : x.length ≤ 8 := by omega
          have HXp := Lib.hid hxp
          have HCs := Lib.hid hcells
          have hcl := HC.out _ (ktr HB2.out kw)
          have hq0 : (wr.alloc (.cells #[] 9)).ownsRow wr.heap.size 9 1 (.slice (some ⟨wr.heap.size, 0, none⟩) 0 0) 0 [] := by
            have h9 := World.ownsRow_lit (base := wr.heap.size) (e := 9) (size := 1) wr #[] 0 (Nat.le_refl _) (Nat.zero_le _) rfl
            simpa using h9
          have hqb : Kp wr (wr.alloc (.cells #[] 9)) := kal (kre _) _
          have HKw := Lib.hid kw
          clear hcells hxp hx kw
          go_wp2_with fail
          rename World => wo
          go_loopw [9, 36] (fun vg jj wx => ∃ j : Nat, j ≤ x.length ∧ jj = .int .i64 j ∧ Hid (wx.ownsRow wo.heap.size 9 1 vg j (((x.take j).map (kyOf L)).map Value.string)) ∧ (∃ g c, vg = .slice (some ⟨g, 0, none⟩) j c) ∧ Kp wo wx) (fun _ jj _ => x.length - (intOf jj).toNat)
          case atStart => exact ⟨0, Nat.zero_le _, rfl, Lib.hid hq0, ⟨_, _, rfl⟩, hqb⟩
          case round =>
            obtain ⟨j, hj, rfl, HO, ⟨gv, cv, rfl⟩, kx⟩ := hrel
            by_cases hlj : j < x.length
            · obtain ⟨p, hp⟩ : ∃ p, x[j]? = some p := ⟨_, List.getElem?_eq_getElem hlj⟩
              have hpM := HXp.out p (List.mem_of_getElem? hp)
              have hcp := (kx.cell (p := ⟨gi, j, none⟩) hgil).trans (HCs.out j p hp)
              have hcl2 := HC.out _ (ktr HB2.out (ktr HKw.out kx))
              have hpL : p < L.length := by rw [HN.out]; exact hpM
              obtain ⟨-, g, o, rfl, hgl2, a0, -⟩ := (H.out.below (ktr k2 (ktr HKw.out kx))) p L[p] (List.getElem?_eq_getElem hpL)
              have HKy := Lib.hid (ky_take (L := L) hp (List.getElem?_eq_getElem hpL))
              generalize L[p] = yy at *
              obtain ⟨key, kind, auA, auN, auc, auL, edA, edN, edc, edL, ti, co, pu, y, m, d, ci, vol, pa, cr⟩ := yy
              dsimp only at a0
              have HKx := Lib.hid kx
              have hpI : (p : Int) < (M : Int) := by omega
              have hp0 : (0 : Int) ≤ (p : Int) := by omega
              have hsx := ksz kx
              clear hp kx
              go_wp2_with (first
                | (at_builtin; refine wpList_append_own _ rfl _ _ 61 rfl wo.heap.size 9 i0 (.string ByteArray.empty) 1 16 Tryz.underlying61 hi hz0 hz1 hz2 rfl (by decide) _ _ _ rfl (HO.out.alloc _) ⟨wr.heap.size, 0, none⟩ 1 1 [.string key] rfl rfl (cell_one_new _ _ _) (by simp [Value.oneCell']) (by unfold maxLen; omega) (by omega) (by simp; omega) ?_; intro v' w4 hown' hgrow _)
                | go_in)
              have hk4 : Kp wo w4 := kgr (kal HKx.out _) hgrow (fun j hj => (HO.out.lt j hj).1)
              go_roundw
              case rel => exact ⟨j + 1, by omega, by go_num, Lib.hid (by rw [HKy.out]; exact hown'), pos_form hown', hk4⟩
              case measure => simp [intOf]; omega
            · obtain rfl : j = x.length := by omega
              have hXl : (x.map (kyOf L)).length = x.length := List.length_map ..
              have HO2 : Hid (wr.ownsRow wo.heap.size 9 1 (.slice (some ⟨gv, 0, none⟩) (x.map (kyOf L)).length cv) (x.map (kyOf L)).length ((x.map (kyOf L)).map Value.string)) := Lib.hid (by have h9 := HO.out; rw [List.take_length] at h9; rw [hXl]; exact h9)
              obtain ⟨vs, ho, hin, hd⟩ := HG.out
              have hvl : vs.length = ((G.take k).map fun g => g.map (kyOf L)).length := by have := ho.1; omega
              have hgv := (HO2.out.lt gv rfl).1
              have hGk : ((G.take k).map fun g => g.map (kyOf L)).length ≤ 8 := by rw [List.length_map, List.length_take]; omega
              have hX8 : (x.map (kyOf L)).length ≤ 8 := by omega
              have H4 : Hid (∀ (j : Nat) (a : Value), vs[j]? = some a → a.ownBlock ≠ some gv) := Lib.hid (fun j a ha e => by
                have hj := (List.getElem?_eq_some_iff.1 ha).1
                rw [hvl] at hj
                obtain ⟨g', c', e', ho', -⟩ := hin j _ (List.getElem?_eq_getElem hj)
                rw [e'] at ha
                cases ha
                have := (ho'.lt g' rfl).2
                have e2 : g' = gv := Option.some.inj e
                omega)
              have hvg : ∀ b, (_ : Value).ownBlock = some b → b < wo.heap.size := fun b hb => (ho.lt b hb).2
              have HVg := Lib.hid hvg
              have HLt := Lib.hid ho.lt
              have HOo := Lib.hid (own_kp ho kx)
              have HIn := Lib.hid hin
              have HD := Lib.hid hd
              have HKx := Lib.hid kx
              have HMw := Lib.hid mw
              have hmw := mw.1
              have hkx := ksz kx
              have hko := ksz HKw.out
              clear ho hin hd kx HO mw hvg hcell
              generalize hXX : x.map (kyOf L) = X at *
              go_wp2_with (first
                | (at_builtin; refine wpList_append_own_at _ rfl _ _ 28 rfl w2.heap.size 61 i1 (.slice none 0 0) 1 24 Tryz.underlying28 hi1 hy0 hy1 hy2 rfl (by decide) _ _ _ rfl (HOo.out.alloc _) ⟨wr.heap.size, 0, none⟩ 1 1 [.slice (some ⟨gv, 0, none⟩) x.length cv] rfl rfl (cell_one_new _ _ _) (by simp [Value.oneCell']) (by unfold maxLen; omega) (by omega) (by simp; omega) ?_; intro v' w6 hown' hgrow _ hat)
                | go_in)
              rw [← hXl] at hown'
              have HA3 : Hid (Gs w6 w2.heap.size v' ((G.take (k + 1)).map fun g => g.map (kyOf L))) := Lib.hid (by
                rw [HTk.out]
                exact Gs.add (fun j y hy => by obtain ⟨g', c', e, hh, hne⟩ := HIn.out j y hy; exact ⟨g', c', e, own_kp hh (kal HKx.out _), hne⟩) HD.out H4.out (Cs.row_base hko (own_kp HO2.out (kal (kre _) _))) (fun e => by have := HVg.out gv e; omega) hvl hown' hgrow hat)
              have hk6 : Kp w2 w6 := kgr (kal (ktr HKw.out HKx.out) _) hgrow (fun j hj => (HLt.out j hj).1)
              have hm6 : Mid w4.heap.size w5 w6 := Mid.gr ((HMw.out.kp HKx.out).kp (kal (kre _) _)) hgrow HV.out
              have HV6 : Hid (∀ b, v'.ownBlock = some b → b < w4.heap.size ∨ w5.heap.size ≤ b) := Lib.hid (fun b hb => by
                rcases hat with h9 | h9
                · exact HV.out b (h9.symm.trans hb)
                · rw [h9] at hb
                  have hb' := Option.some.inj hb
                  simp at hb'
                  omega)
              clear hown' hgrow hat
              go_roundw
              case rel => exact ⟨k + 1, by omega, by go_num, HA3, HV6, hk6, hm6⟩
              case measure => simp [intOf]; omega
        · obtain rfl : k = G.length := by omega
          have HA3 := Lib.hid HG.out
          rw [List.take_length] at HA3
          go_wp2_with fail
          go_ret2
          exact ⟨_, rfl, by rw [HE1.out, HE2.out]; exact Gs.base (ksz k2) HA3.out, ktr k2 kw⟩
end Go.Proofs.YteccmlpibbchbaaGreatDoor.Tdn
/-
  AmbiguousGroups: the model.
-/
namespace Go.Proofs.YteccmlpibbchbaaGreatDoor.Tdn
open Go.ChangeShapes Go.WideShapes Go.ChangeAt Go.RowKit Go.Joins Go.Deep
open Pl Strs Help Name Stands SplitPl NmPl Word Part NGood Nms Jn Ens Lab Kpz Ce Rdf LdPl Lbs Lbr Cit
open Num (Tab Tab.below)
set_option linter.unusedSimpArgs false
set_option linter.unusedVariables false

theorem fnd_pos : ∀ (L : List En) (t : ByteArray) (k : Nat) (x : En), x ∈ L → x.key = t → 0 ≤ fnd L t k
  | [], _, _, _, h, _ => by cases h
  | y :: r, t, k, x, h, e => by
    unfold fnd
    split
    · omega
    · rename_i hne
      rcases List.mem_cons.1 h with rfl | h
      · exact absurd e hne
      · exact fnd_pos r t (k + 1) x h e
theorem lab_of {L : List En} {x : En} {l : Lb4} (hx : x ∈ L) : labOf x l = ((decide (0 ≤ fnd L l.k 0) && wrt l.n l.d l.t) && decide (l.k = x.key)) := by
  unfold labOf
  by_cases e : l.k = x.key
  · have := fnd_pos L l.k 0 x hx e.symm
    rw [decide_eq_true e, decide_eq_true this]
    simp
  · rw [decide_eq_false e]
    simp
set_option maxRecDepth 100000 in
set_option maxHeartbeats 16000000 in
/-- are the labels those of the entries: the model's loop and what comes behind it -/
theorem ag_sp (A : Option Addr) (c N : Nat) (L : List En) (B : Option Addr) (c' M : Nat) (S : List Lb4) (w : World) (h : RdE w A L) (hn : L.length = N) (hm : N ≤ 1048576) (hz : ∀ x ∈ L, x.sz ≤ 1048576) (hS : RdL w B S) (hSn : S.length = M) (hM : M ≤ 1048576) :
    Calls Tryz.prog 7 #[.agg #[.slice A N c], .slice B M c'] w (AgP L S w) := by
  obtain ⟨i0, hi, hz0, hz1, hz2⟩ := Lbr.info_parts Split.infoStr
  obtain ⟨i1, hi1, hy0, hy1, hy2⟩ := Lbr.info_parts infoStS
  have hb0 : Kp w (w.alloc (.cells #[.slice A N c] 33)) := kal (kre _) _
  have hc0 := (box1 w (.slice A N c) 33).1
  have hs0 : w.heap.size < (w.alloc (.cells #[.slice A N c] 33)).heap.size := by simp
  have HV := Lib.hid (fun W (k : Kp w W) => l4Good_any A c N L W (h.below k) hn hm hz)
  have H := Lib.hid h
  have HS := Lib.hid hS
  have HN := Lib.hid hn
  have HSN := Lib.hid hSn
  have HLab := Lib.hid (fun W (k : Kp w W) a b c' d => lab_s A c N L a b c' d W (h.below k) hn hm)
  have HTx := Lib.hid (fun (ho : okLib L = true) (ho2 : okLs L S = true) W (k : Kp w W) => texts_s A c N L B c' S W (h.below k) hn (by have := okLib_8 ho; omega) (hS.below k) (by rw [← (okLs_okS ho2).1]; exact hn) hz (okL_of ho) (okLs_okS ho2).2)
  have HTl : Hid (okLs L S = true → (txs L S).length = N) := Lib.hid (fun ho2 => txs_len hn (by rw [← (okLs_okS ho2).1]; exact hn))
  have HN8 : Hid (okLib L = true → N ≤ 8) := Lib.hid (fun ho => by have := okLib_8 ho; omega)
  have HAs : Hid (okAg L S = (okLib L && okLs L S)) := Lib.hid rfl
  have E1 : Hid ((okLib L && okLs L S) = true → agT L S = agL L S) := Lib.hid (fun h => if_pos (by rw [HAs.out, h]))
  have E0 : Hid ((okLib L && okLs L S) = false → agT L S = []) := Lib.hid (fun h => if_neg (by rw [HAs.out, h]; exact Bool.false_ne_true))
  have HOk : Hid (okLs L S = (decide (N = M) && lsT L S N)) := Lib.hid (by unfold okLs; rw [hn, hSn])
  unfold AgP
  rw [HAs.out]
  generalize okLib L = r1 at *
  clear h hn hz hS hSn HAs
  go_enter Tryz.func7, Tryz.ntmps7
  go_upto_region 2 with fail
  generalize hW0 : w.alloc (.cells #[.slice A N c] 33) = w0 at hb0 hc0 hs0 ⊢
  have hzw : w0.heap.size = w.heap.size + 1 := by rw [← hW0]; simp
  have HG0 : Hid (∀ b, b ≤ w0.heap.size → Gs (w0.alloc (.cells #[] 61)) b (.slice (some ⟨w.heap.size + 1, 0, none⟩) 0 0) []) := Lib.hid (fun b hb => by rw [← hzw]; exact Gs.empty w0 b hb)
  clear hW0
  have hb1 : Kp w0 (w0.alloc (.cells #[] 61)) := kal (kre _) _
  have hs1 : w0.heap.size < (w0.alloc (.cells #[] 61)).heap.size := by simp
  generalize hW1 : w0.alloc (.cells #[] 61) = w1 at *
  clear hW1
  have k1 : Kp w w1 := ktr hb0 hb1
  have HC : Hid (∀ W, Kp w0 W → W.cell? ⟨w.heap.size, 0, none⟩ = some (.slice A N c)) := Lib.hid (fun W h => (h.cell (p := ⟨w.heap.size, 0, none⟩) hs0).trans hc0)
  have HG1 := Lib.hid (HG0.out _ (ksz hb0))
  have HGb := Lib.hid (HG0.out _ (Nat.le_refl _))
  have hc1 := HC.out w1 hb1
  clear HG0 hc0
  go_wp2_with fail
  refine (HV.out _ k1).mono ?_
  rintro e w2 ⟨rfl, b2⟩
  have k2 : Kp w w2 := ktr k1 b2
  have b2' : Kp w1 w2 := b2
  have hb2 := ktr hb1 b2
  have hc2 := HC.out w2 hb2
  have HG2 := Lib.hid (HG1.out.kp b2)
  have hs2 := Nat.lt_of_lt_of_le hs1 (ksz b2)
  clear HV hc1 hs1 HG1
  cases r1 with
  | false =>
    go_wp2_with fail
    go_ret2
    exact ⟨_, rfl, by rw [E0.out (by first | rfl | trivial)]; exact HG2.out, k2⟩
  | true =>
    by_cases eNM : M = N
    · subst eNM
      have HOk2 : Hid (okLs L S = lsT L S M) := Lib.hid (by rw [HOk.out, decide_eq_true rfl, Bool.true_and])
      clear HOk
      go_wp2_with fail
      go_loopw [7] (fun i wr => ∃ k : Nat, k ≤ M ∧ i = .int .i64 k ∧ Hid (lsT L S k = true) ∧ Kp w2 wr) (fun i _ => M - (intOf i).toNat)
      case atStart => exact ⟨0, Nat.zero_le _, rfl, Lib.hid rfl, kre _⟩
      case round =>
        obtain ⟨k, hk, rfl, HP, kw⟩ := hrel
        by_cases hlt : k < M
        · have hkx : k < L.length := by rw [HN.out]; exact hlt
          have hky : k < S.length := by rw [HSN.out]; exact hlt
          have hx? := List.getElem?_eq_getElem hkx
          have hy? := List.getElem?_eq_getElem hky
          obtain ⟨-, g, o, rfl, hg, a0, -⟩ := (H.out.below (ktr k2 kw)) k L[k] hx?
          obtain ⟨g2, o2, rfl, hg2, l0, l1, l2, l3⟩ := (HS.out.below (ktr k2 kw)) k S[k] hy?
          have HX : Hid (lsT L S (k + 1) = labOf L[k] S[k]) := Lib.hid (by rw [lsT_step hx? hy?, HP.out, Bool.true_and])
          have HLo := Lib.hid (lab_of (l := S[k]) (List.getElem_mem hkx))
          clear hx? hy?
          generalize L[k] = xx at *
          generalize S[k] = yl at *
          obtain ⟨key, kind, auA, auN, auc, auL, edA, edN, edc, edL, ti, co, pu, y, m, d, ci, vol, pa, cr⟩ := xx
          obtain ⟨lk, ln, ld, lt⟩ := yl
          dsimp only at a0 l0 l1 l2 l3
          obtain ⟨r, hr⟩ : ∃ r, (decide (0 ≤ fnd L lk 0) && wrt ln ld lt) = r := ⟨_, rfl⟩
          have HLb := Lib.hid (fun W (kk : Kp wr W) => HLab.out W (ktr (ktr k2 kw) kk) lk ln ld lt)
          have HLo2 : Hid (lsT L S (k + 1) = (r && decide (lk = key))) := Lib.hid (by rw [HX.out, HLo.out]; show ((decide (0 ≤ fnd L lk 0) && wrt ln ld lt) && decide (lk = key)) = _; rw [hr])
          rw [hr] at HLb
          have hcw := HC.out _ (ktr hb2 kw)
          have hsw : w.heap.size < wr.heap.size := Nat.lt_of_lt_of_le hs0 (ksz (ktr hb2 kw))
          have HSt : Hid (∀ W, Kp wr W → (W.cell? ⟨w.heap.size, 0, none⟩ = some (.slice (some ⟨g, o, none⟩) M c) ∧ W.cell? ⟨g2, o2 + k * 4, none⟩ = some (.string lk) ∧ W.cell? ⟨g2, o2 + k * 4 + 1, none⟩ = some (.int .i64 ln) ∧ W.cell? ⟨g2, o2 + k * 4 + 2, none⟩ = some (.int .i64 ld) ∧ W.cell? ⟨g2, o2 + k * 4 + 3, none⟩ = some (.int .i64 lt) ∧ W.cell? ⟨g, o + k * 14, none⟩ = some (.string key))) := Lib.hid (fun W h => ⟨(h.cell (p := ⟨w.heap.size, 0, none⟩) hsw).trans hcw, (h.cell (p := ⟨g2, o2 + k * 4, none⟩) hg2).trans l0, (h.cell (p := ⟨g2, o2 + k * 4 + 1, none⟩) hg2).trans l1, (h.cell (p := ⟨g2, o2 + k * 4 + 2, none⟩) hg2).trans l2, (h.cell (p := ⟨g2, o2 + k * 4 + 3, none⟩) hg2).trans l3, (h.cell (p := ⟨g, o + k * 14, none⟩) hg).trans a0⟩)
          have HK0 := Lib.hid (kdr (kre wr))
          clear HX HLo hr l0 l1 l2 l3 a0
          cases r with
          | false =>
            have HE : Hid (lsT L S M = false) := Lib.hid (lsT_false (by rw [HLo2.out]; rfl) M (by omega))
            go_wp2_with fail
            refine wp_region_held_drew (S := fun W => (W.cell? ⟨w.heap.size, 0, none⟩ = some (.slice (some ⟨g, o, none⟩) M c) ∧ W.cell? ⟨g2, o2 + k * 4, none⟩ = some (.string lk) ∧ W.cell? ⟨g2, o2 + k * 4 + 1, none⟩ = some (.int .i64 ln) ∧ W.cell? ⟨g2, o2 + k * 4 + 2, none⟩ = some (.int .i64 ld) ∧ W.cell? ⟨g2, o2 + k * 4 + 3, none⟩ = some (.int .i64 lt) ∧ W.cell? ⟨g, o + k * 14, none⟩ = some (.string key))) (by kernel_rfl) (HSt.out _ HK0.out) (fun hHeld => ?_)
            refine Held.takeL (i := 0) (v := ?_) rfl (by kernel_rfl) (by kernel_rfl) (by kernel_rfl) (fun _ _ _ h => h) (Or.inl ⟨by rfl, ?_⟩) (by assumption) ?_
            rotate_left
            · intro W hSw
              (try dsimp only at hSw)
              go_simp
              try (with_reducible rfl)
            try simp only [Act.put, List.setIfInBounds_toArray, List.set_cons_zero, List.set_cons_succ]
            refine Held.takeL (i := 1) (v := ?_) rfl (by kernel_rfl) (by kernel_rfl) (by kernel_rfl) (fun _ _ _ h => h) (Or.inl ⟨by rfl, ?_⟩) (by assumption) ?_
            rotate_left
            · intro W hSw
              (try dsimp only at hSw)
              go_simp
              try (with_reducible rfl)
            try simp only [Act.put, List.setIfInBounds_toArray, List.set_cons_zero, List.set_cons_succ]
            refine Held.takeL (i := 2) (v := ?_) rfl (by kernel_rfl) (by kernel_rfl) (by kernel_rfl) (fun _ _ _ h => h) (Or.inl ⟨by rfl, ?_⟩) (by assumption) ?_
            rotate_left
            · intro W hSw
              (try dsimp only at hSw)
              go_simp
              try (with_reducible rfl)
            try simp only [Act.put, List.setIfInBounds_toArray, List.set_cons_zero, List.set_cons_succ]
            refine Held.takeL (i := 3) (v := ?_) rfl (by kernel_rfl) (by kernel_rfl) (by kernel_rfl) (fun _ _ _ h => h) (Or.inl ⟨by rfl, ?_⟩) (by assumption) ?_
            rotate_left
            · intro W hSw
              (try dsimp only at hSw)
              go_simp
              try (with_reducible rfl)
            try simp only [Act.put, List.setIfInBounds_toArray, List.set_cons_zero, List.set_cons_succ]
            refine Held.takeL (i := 4) (v := ?_) rfl (by kernel_rfl) (by kernel_rfl) (by kernel_rfl) (fun _ _ _ h => h) (Or.inl ⟨by rfl, ?_⟩) (by assumption) ?_
            rotate_left
            · intro W hSw
              (try dsimp only at hSw)
              go_simp
              try (with_reducible rfl)
            try simp only [Act.put, List.setIfInBounds_toArray, List.set_cons_zero, List.set_cons_succ]
            refine Held.callL (i := 5) rfl (by kernel_rfl) (by rfl) (fun K hK => ?_)
            try go_simp
            go_at_call 24
            refine (HLb.out _ HK0.out).mono ?_
            rintro e w4 ⟨rfl, b4⟩
            have hk2 : Kp wr w4 := ktr HK0.out b4
            try go_wp2_with fail
            refine hK.out _ _ ?_ (fun hHeld => ?_)
            · exact HSt.out _ hk2
            clear hK K
            try simp only [Act.put, List.setIfInBounds_toArray, List.set_cons_zero, List.set_cons_succ]
            refine Held.takeL (i := 6) (v := ?_) rfl (by kernel_rfl) (by kernel_rfl) (by kernel_rfl) (fun _ _ _ h => h) (Or.inl ⟨by rfl, ?_⟩) (by assumption) ?_
            rotate_left
            · intro W hSw
              (try dsimp only at hSw)
              go_simp
              try (with_reducible rfl)
            try simp only [Act.put, List.setIfInBounds_toArray, List.set_cons_zero, List.set_cons_succ]
            refine Held.takeL (i := 7) (v := ?_) rfl (by kernel_rfl) (by kernel_rfl) (by kernel_rfl) (fun _ _ _ h => h) (Or.inl ⟨by rfl, ?_⟩) (by assumption) ?_
            rotate_left
            · intro W hSw
              (try dsimp only at hSw)
              go_simp
              try (with_reducible rfl)
            try simp only [Act.put, List.setIfInBounds_toArray, List.set_cons_zero, List.set_cons_succ]
            refine Held.skipL (i := 8) rfl (by kernel_rfl) (by kernel_rfl) (by kernel_rfl) (fun _ _ _ h => h) (by rfl) (by assumption) ?_
            try simp only [Act.put, List.setIfInBounds_toArray, List.set_cons_zero, List.set_cons_succ]
            refine Held.skipL (i := 9) rfl (by kernel_rfl) (by kernel_rfl) (by kernel_rfl) (fun _ _ _ h => h) (by rfl) (by assumption) ?_
            try simp only [Act.put, List.setIfInBounds_toArray, List.set_cons_zero, List.set_cons_succ]
            refine Held.skipL (i := 10) rfl (by kernel_rfl) (by kernel_rfl) (by kernel_rfl) (fun _ _ _ h => h) (by rfl) (by assumption) ?_
            try simp only [Act.put, List.setIfInBounds_toArray, List.set_cons_zero, List.set_cons_succ]
            refine Held.skipL (i := 11) rfl (by kernel_rfl) (by kernel_rfl) (by kernel_rfl) (fun _ _ _ h => h) (by rfl) (by assumption) ?_
            try simp only [Act.put, List.setIfInBounds_toArray, List.set_cons_zero, List.set_cons_succ]
            refine Held.skipL (i := 12) rfl (by kernel_rfl) (by kernel_rfl) (by kernel_rfl) (fun _ _ _ h => h) (by rfl) (by assumption) ?_
            try simp only [Act.put, List.setIfInBounds_toArray, List.set_cons_zero, List.set_cons_succ]
            refine Held.skipL (i := 13) rfl (by kernel_rfl) (by kernel_rfl) (by kernel_rfl) (fun _ _ _ h => h) (by rfl) (by assumption) ?_
            try simp only [Act.put, List.setIfInBounds_toArray, List.set_cons_zero, List.set_cons_succ]
            refine Held.skipL (i := 14) rfl (by kernel_rfl) (by kernel_rfl) (by kernel_rfl) (fun _ _ _ h => h) (by rfl) (by assumption) ?_
            try simp only [Act.put, List.setIfInBounds_toArray, List.set_cons_zero, List.set_cons_succ]
            refine Held.skipL (i := 15) rfl (by kernel_rfl) (by kernel_rfl) (by kernel_rfl) (fun _ _ _ h => h) (by rfl) (by assumption) ?_
            try simp only [Act.put, List.setIfInBounds_toArray, List.set_cons_zero, List.set_cons_succ]
            refine Held.skipL (i := 16) rfl (by kernel_rfl) (by kernel_rfl) (by kernel_rfl) (fun _ _ _ h => h) (by rfl) (by assumption) ?_
            try simp only [Act.put, List.setIfInBounds_toArray, List.set_cons_zero, List.set_cons_succ]
            refine Held.skipL (i := 17) rfl (by kernel_rfl) (by kernel_rfl) (by kernel_rfl) (fun _ _ _ h => h) (by rfl) (by assumption) ?_
            try simp only [Act.put, List.setIfInBounds_toArray, List.set_cons_zero, List.set_cons_succ]
            refine Held.skipL (i := 18) rfl (by kernel_rfl) (by kernel_rfl) (by kernel_rfl) (fun _ _ _ h => h) (by rfl) (by assumption) ?_
            try simp only [Act.put, List.setIfInBounds_toArray, List.set_cons_zero, List.set_cons_succ]
            refine Held.skipL (i := 19) rfl (by kernel_rfl) (by kernel_rfl) (by kernel_rfl) (fun _ _ _ h => h) (by rfl) (by assumption) ?_
            try simp only [Act.put, List.setIfInBounds_toArray, List.set_cons_zero, List.set_cons_succ]
            refine Held.takeL (i := 20) (v := ?_) rfl (by kernel_rfl) (by kernel_rfl) (by kernel_rfl) (fun _ _ _ h => h) (Or.inl ⟨by rfl, ?_⟩) (by assumption) ?_
            rotate_left
            · intro W hSw
              (try dsimp only at hSw)
              go_simp
              try (with_reducible rfl)
            try simp only [Act.put, List.setIfInBounds_toArray, List.set_cons_zero, List.set_cons_succ]
            refine wpAnyH_done (by kernel_rfl) ?_ _
            have hk5 := ktr kw hk2
            clear HSt HK0 HLb
            (try clear hHeld)
            go_wp2_with fail
            go_ret2
            exact ⟨_, by rw [HOk2.out, HE.out]; rfl, by rw [E0.out (by rw [HOk2.out, HE.out]; rfl)]; exact HG2.out.kp hk5, ktr k2 hk5⟩
          | true =>
            by_cases ek : lk = key
            · subst ek
              have HE : Hid (lsT L S (k + 1) = true) := Lib.hid (by rw [HLo2.out]; simp)
              go_wp2_with fail
              go_region_held3 (fun W => (W.cell? ⟨w.heap.size, 0, none⟩ = some (.slice (some ⟨g, o, none⟩) M c) ∧ W.cell? ⟨g2, o2 + k * 4, none⟩ = some (.string lk) ∧ W.cell? ⟨g2, o2 + k * 4 + 1, none⟩ = some (.int .i64 ln) ∧ W.cell? ⟨g2, o2 + k * 4 + 2, none⟩ = some (.int .i64 ld) ∧ W.cell? ⟨g2, o2 + k * 4 + 3, none⟩ = some (.int .i64 lt) ∧ W.cell? ⟨g, o + k * 14, none⟩ = some (.string lk)))
                (first | exact HSt.out _ HK0.out | exact HSt.out _ (by assumption))
                (first
                  | (go_at_call 24; refine (HLb.out _ HK0.out).mono ?_; rintro e w4 ⟨rfl, b4⟩; have hk4 : Kp wr w4 := ktr HK0.out b4)
                  | fail)
              (try clear hHeld)
              have hk5 := ktr kw hk4
              clear HSt HK0 HLb
              go_wp2_with fail
              go_roundw
              case rel => exact ⟨k + 1, by omega, by go_num, HE, hk5⟩
              case measure => simp [intOf]; omega
            · have HE : Hid (lsT L S M = false) := Lib.hid (lsT_false (k := k + 1) (by rw [HLo2.out]; simp [ek]) M (by omega))
              have hq := ne_forms' ek
              clear ek
              go_wp2_with fail
              go_region_held3 (fun W => (W.cell? ⟨w.heap.size, 0, none⟩ = some (.slice (some ⟨g, o, none⟩) M c) ∧ W.cell? ⟨g2, o2 + k * 4, none⟩ = some (.string lk) ∧ W.cell? ⟨g2, o2 + k * 4 + 1, none⟩ = some (.int .i64 ln) ∧ W.cell? ⟨g2, o2 + k * 4 + 2, none⟩ = some (.int .i64 ld) ∧ W.cell? ⟨g2, o2 + k * 4 + 3, none⟩ = some (.int .i64 lt) ∧ W.cell? ⟨g, o + k * 14, none⟩ = some (.string key)))
                (first | exact HSt.out _ HK0.out | exact HSt.out _ (by assumption))
                (first
                  | (go_at_call 24; refine (HLb.out _ HK0.out).mono ?_; rintro e w4 ⟨rfl, b4⟩; have hk4 : Kp wr w4 := ktr HK0.out b4)
                  | fail)
              (try clear hHeld)
              have hk5 := ktr kw hk4
              clear HSt HK0 HLb
              go_wp2_with fail
              go_ret2
              exact ⟨_, by rw [HOk2.out, HE.out]; rfl, by rw [E0.out (by rw [HOk2.out, HE.out]; rfl)]; exact HG2.out.kp hk5, ktr k2 hk5⟩
        · obtain rfl : M = k := by omega
          have hok2 : okLs L S = true := by rw [HOk2.out]; exact HP.out
          have hN8 := HN8.out (by first | rfl | trivial)
          have HTxs := Lib.hid (HTx.out (by first | rfl | trivial) hok2)
          have HTl2 := Lib.hid (HTl.out hok2)
          have HE1 := Lib.hid (E1.out (by rw [hok2]; rfl))
          have HE2 : Hid (agL L S = (groups (txs L S)).map fun g => g.map (kyOf L)) := Lib.hid rfl
          have HOkT := Lib.hid hok2
          rename World => wp
          have k3 : Kp w wp := ktr k2 kw
          have hb3 := ktr hb2 kw
          have HGb3 := Lib.hid ((HGb.out.kp b2').kp kw)
          have hcw := HC.out wp hb3
          have HB3 := Lib.hid hb3
          have hs3 := Nat.lt_of_lt_of_le hs2 (ksz kw)
          have HK3 := Lib.hid k3
          clear HTx HTl E1 E0 HN8 HOk2 HLab HP HG2 HS HSN hok2 HGb kw
          go_wp2_with fail
          refine (HTxs.out _ HK3.out).mono ?_
          rintro e w4 ⟨vt, rfl, hvt, b4⟩
          have k4 := ktr k3 b4
          rw [HTl2.out] at hvt
          obtain ⟨AT, cT, rfl, -, hrt, -⟩ := own_rds hvt
          have HAm := Lib.hid (groups_s AT cT M (txs L S) w4 hrt HTl2.out hN8)
          clear hvt hrt HTxs
          go_wp2_with fail
          refine HAm.out.mono ?_
          rintro e w5 ⟨vG, rfl, hG, b5⟩
          obtain ⟨AG, cG, rfl, hrd⟩ := hG.rdr
          have hGl := groups_len (txs L S)
          rw [HTl2.out] at hGl
          have HGi : Hid (∀ x ∈ groups (txs L S), x.length ≤ M ∧ ∀ p ∈ x, p < M) := Lib.hid (fun x hx => by have := groups_in hx; rwa [HTl2.out] at this)
          have k45 := ktr b4 b5
          have HR := Lib.hid hrd
          have HG5 := Lib.hid (HGb3.out.kp k45)
          have k5 : Kp w w5 := ktr k3 k45
          have HB5 := Lib.hid (ktr HB3.out k45)
          have hw4 := ksz b4
          have hw5 := ksz b5
          generalize groups (txs L S) = G at *
          clear hG hrd HAm HGb3 b4 b5 k4 k45 hcw k3 HB3 HK3 hb3 HTl2
          go_wp2_with fail
          go_loopw [6, 9] (fun v i wr => ∃ k : Nat, k ≤ G.length ∧ i = .int .i64 k ∧ Hid (Gs wr w0.heap.size v ((G.take k).map fun g => g.map (kyOf L))) ∧ Hid (∀ b, v.ownBlock = some b → b < w4.heap.size ∨ w5.heap.size ≤ b) ∧ Kp w0 wr ∧ Mid w4.heap.size w5 wr) (fun _ i _ => G.length - (intOf i).toNat)
          case atStart => exact ⟨0, Nat.zero_le _, rfl, HG5, Lib.hid (fun b hb => by have hb' : w.heap.size + 1 = b := Option.some.inj hb; omega), HB5.out, Mid.refl _ _⟩
          case round =>
            obtain ⟨k, hk, rfl, HG, HV, kw, mw⟩ := hrel
            have hcw := HC.out _ kw
            by_cases hlt : k < G.length
            · obtain ⟨x, hx⟩ : ∃ x, G[k]? = some x := ⟨_, List.getElem?_eq_getElem hlt⟩
              obtain ⟨gg, og, gi, cg, rfl, hgl, hgil, hcell, hcells⟩ := (HR.out.mid mw) k x hx
              obtain ⟨hxl, hxp⟩ := HGi.out x (List.mem_of_getElem? hx)
              have HTk := Lib.hid (agL_take (L := L) hx)
              have hxl8 : x.length ≤ 8 := by omega
              have HXp := Lib.hid hxp
              have HCs := Lib.hid hcells
              have hq0 : (wr.alloc (.cells #[] 9)).ownsRow wr.heap.size 9 1 (.slice (some ⟨wr.heap.size, 0, none⟩) 0 0) 0 [] := by
                have h9 := World.ownsRow_lit (base := wr.heap.size) (e := 9) (size := 1) wr #[] 0 (Nat.le_refl _) (Nat.zero_le _) rfl
                simpa using h9
              have hqb : Kp wr (wr.alloc (.cells #[] 9)) := kal (kre _) _
              have HKw := Lib.hid kw
              have hsw : w.heap.size < wr.heap.size := Nat.lt_of_lt_of_le hs0 (ksz kw)
              clear hcells hxp hx kw
              go_wp2_with fail
              rename World => wo
              go_loopw [10, 11] (fun vg jj wx => ∃ j : Nat, j ≤ x.length ∧ jj = .int .i64 j ∧ Hid (wx.ownsRow wo.heap.size 9 1 vg j (((x.take j).map (kyOf L)).map Value.string)) ∧ (∃ g c, vg = .slice (some ⟨g, 0, none⟩) j c) ∧ Kp wo wx) (fun _ jj _ => x.length - (intOf jj).toNat)
              case atStart => exact ⟨0, Nat.zero_le _, rfl, Lib.hid hq0, ⟨_, _, rfl⟩, hqb⟩
              case round =>
                obtain ⟨j, hj, rfl, HO, ⟨gv, cv, rfl⟩, kx⟩ := hrel
                have hcellx := (kx.cell (p := ⟨gg, og + k, none⟩) hgl).trans hcell
                have hcx := (kx.cell (p := ⟨w.heap.size, 0, none⟩) hsw).trans hcw
                by_cases hlj : j < x.length
                · obtain ⟨p, hp⟩ : ∃ p, x[j]? = some p := ⟨_, List.getElem?_eq_getElem hlj⟩
                  have hpM := HXp.out p (List.mem_of_getElem? hp)
                  have hcp := (kx.cell (p := ⟨gi, j, none⟩) hgil).trans (HCs.out j p hp)
                  have hpL : p < L.length := by rw [HN.out]; exact hpM
                  obtain ⟨-, g, o, rfl, hgl2, a0, -⟩ := (H.out.below (ktr (ktr hb0 HKw.out) kx)) p L[p] (List.getElem?_eq_getElem hpL)
                  obtain ⟨-, _, _, ea', hgw', -⟩ := H.out p L[p] (List.getElem?_eq_getElem hpL)
                  have hgw : g < w.heap.size := by cases ea'; exact hgw'
                  clear ea' hgw'
                  have HKy := Lib.hid (ky_take (L := L) hp (List.getElem?_eq_getElem hpL))
                  generalize L[p] = yy at *
                  obtain ⟨key, kind, auA, auN, auc, auL, edA, edN, edc, edL, ti, co, pu, y, m, d, ci, vol, pa, cr⟩ := yy
                  dsimp only at a0
                  have hpI : (p : Int) < (M : Int) := by omega
                  have hp0 : (0 : Int) ≤ (p : Int) := by omega
                  have hsx := ksz kx
                  have HSt : Hid (∀ W, Kp wr W → (W.cell? ⟨w.heap.size, 0, none⟩ = some (.slice (some ⟨g, o, none⟩) M c) ∧ W.cell? ⟨gg, og + k, none⟩ = some (.slice (some ⟨gi, 0, none⟩) x.length cg) ∧ W.cell? ⟨gi, j, none⟩ = some (iV p) ∧ W.cell? ⟨g, o + p * 14, none⟩ = some (.string key))) := Lib.hid (fun W h => ⟨(h.cell (p := ⟨w.heap.size, 0, none⟩) (Nat.lt_of_lt_of_le hsw hsx)).trans hcx, (h.cell (p := ⟨gg, og + k, none⟩) (Nat.lt_of_lt_of_le hgl hsx)).trans hcellx, (h.cell (p := ⟨gi, j, none⟩) (Nat.lt_of_lt_of_le hgil hsx)).trans hcp, (h.cell (p := ⟨g, o + p * 14, none⟩) hgl2).trans a0⟩)
                  have HK0 := Lib.hid (kdr (kre wr))
                  have HNe := Lib.hid HO.out.lt
                  have HKx := Lib.hid kx
                  have hdz : wr.drew.heap.size = wr.heap.size := rfl
                  clear hp kx hcp a0
                  go_wp2_with fail
                  go_region_held3 (fun W => (W.cell? ⟨w.heap.size, 0, none⟩ = some (.slice (some ⟨g, o, none⟩) M c) ∧ W.cell? ⟨gg, og + k, none⟩ = some (.slice (some ⟨gi, 0, none⟩) x.length cg) ∧ W.cell? ⟨gi, j, none⟩ = some (iV p) ∧ W.cell? ⟨g, o + p * 14, none⟩ = some (.string key)))
                    (first | exact HSt.out _ HK0.out | exact HSt.out _ (kal HK0.out _) | exact HSt.out _ (by assumption) | exact hs4)
                    (first
                      | (refine step_app (by rfl) _ _ _ (by rfl) wo.heap.size 9 i0 (.string ByteArray.empty) 1 16 Tryz.underlying61 hi hz0 hz1 hz2 rfl (by decide) _ j _ (by rfl) ((own_kp HO.out HK0.out).alloc _) ⟨wr.drew.heap.size, 0, none⟩ 1 1 [.string key] (by rfl) rfl (cell_one_new _ _ _) (by simp [Value.oneCell']) (by unfold maxLen; omega) (by omega) (by simp; omega) ?_; intro v' w6 hown' hgrow hat; have hk6 : Kp wo w6 := kgr (kal (ktr HKx.out HK0.out) _) hgrow (fun j hj => (HNe.out j hj).1); have hg1 : ∀ b i, b < wo.heap.size → w6.cell? ⟨b, i, none⟩ = (wr.drew.alloc (.cells #[.string key] 9)).cell? ⟨b, i, none⟩ := (fun b i hb => grown_cell hgrow (by simp; omega) (fun e => by have := (HNe.out _ e).1; omega)); obtain ⟨z0, z1, z2, z3⟩ := HSt.out _ (kal HK0.out (.cells #[.string key] 9)); have hs4 : (w6.cell? ⟨w.heap.size, 0, none⟩ = some (.slice (some ⟨g, o, none⟩) M c) ∧ w6.cell? ⟨gg, og + k, none⟩ = some (.slice (some ⟨gi, 0, none⟩) x.length cg) ∧ w6.cell? ⟨gi, j, none⟩ = some (iV p) ∧ w6.cell? ⟨g, o + p * 14, none⟩ = some (.string key)) := ⟨(hg1 _ _ (by omega)).trans z0, (hg1 _ _ (by omega)).trans z1, (hg1 _ _ (by omega)).trans z2, (hg1 _ _ (by omega)).trans z3⟩)
                      | fail)
                  (try clear hHeld)
                  go_wp2_with fail
                  go_roundw
                  case rel => exact ⟨j + 1, by omega, by go_num, Lib.hid (by rw [HKy.out]; exact hown'), pos_form hown', hk6⟩
                  case measure => simp [intOf]; omega
                · obtain rfl : j = x.length := by omega
                  have hXl : (x.map (kyOf L)).length = x.length := List.length_map ..
                  have HO2 : Hid (wr.ownsRow wo.heap.size 9 1 (.slice (some ⟨gv, 0, none⟩) (x.map (kyOf L)).length cv) (x.map (kyOf L)).length ((x.map (kyOf L)).map Value.string)) := Lib.hid (by have h9 := HO.out; rw [List.take_length] at h9; rw [hXl]; exact h9)
                  obtain ⟨vs, ho, hin, hd⟩ := HG.out
                  have hvl : vs.length = ((G.take k).map fun g => g.map (kyOf L)).length := by have := ho.1; omega
                  have hgv := (HO2.out.lt gv rfl).1
                  have hGk : ((G.take k).map fun g => g.map (kyOf L)).length ≤ 8 := by rw [List.length_map, List.length_take]; omega
                  have hX8 : (x.map (kyOf L)).length ≤ 8 := by omega
                  have H4 : Hid (∀ (j : Nat) (a : Value), vs[j]? = some a → a.ownBlock ≠ some gv) := Lib.hid (fun j a ha e => by
                    have hj := (List.getElem?_eq_some_iff.1 ha).1
                    rw [hvl] at hj
                    obtain ⟨g', c', e', ho', -⟩ := hin j _ (List.getElem?_eq_getElem hj)
                    rw [e'] at ha
                    cases ha
                    have := (ho'.lt g' rfl).2
                    have e2 : g' = gv := Option.some.inj e
                    omega)
                  have HVg := Lib.hid (fun b (hb : (_ : Value).ownBlock = some b) => (ho.lt b hb).2)
                  have HLt := Lib.hid ho.lt
                  have HOo := Lib.hid (own_kp ho kx)
                  have HIn := Lib.hid hin
                  have HD := Lib.hid hd
                  have HKx := Lib.hid kx
                  have HMw := Lib.hid mw
                  have hmw := mw.1
                  have hkx := ksz kx
                  have hko := ksz HKw.out
                  clear ho hin hd kx HO mw hcell
                  generalize hXX : x.map (kyOf L) = X at *
                  go_wp2_with (first
                    | (at_builtin; refine wpList_append_own_at _ rfl _ _ 28 rfl w0.heap.size 61 i1 (.slice none 0 0) 1 24 Tryz.underlying28 hi1 hy0 hy1 hy2 rfl (by decide) _ _ _ rfl (HOo.out.alloc _) ⟨wr.heap.size, 0, none⟩ 1 1 [.slice (some ⟨gv, 0, none⟩) x.length cv] rfl rfl (cell_one_new _ _ _) (by simp [Value.oneCell']) (by unfold maxLen; omega) (by omega) (by simp; omega) ?_; intro v' w6 hown' hgrow _ hat)
                    | go_in)
                  rw [← hXl] at hown'
                  have HA3 : Hid (Gs w6 w0.heap.size v' ((G.take (k + 1)).map fun g => g.map (kyOf L))) := Lib.hid (by
                    rw [HTk.out]
                    exact Gs.add (fun j y hy => by obtain ⟨g', c', e, hh, hne⟩ := HIn.out j y hy; exact ⟨g', c', e, own_kp hh (kal HKx.out _), hne⟩) HD.out H4.out (Cs.row_base hko (own_kp HO2.out (kal (kre _) _))) (fun e => by have := HVg.out gv e; omega) hvl hown' hgrow hat)
                  have hk6 : Kp w0 w6 := kgr (kal (ktr HKw.out HKx.out) _) hgrow (fun j hj => (HLt.out j hj).1)
                  have hm6 : Mid w4.heap.size w5 w6 := Mid.gr ((HMw.out.kp HKx.out).kp (kal (kre _) _)) hgrow HV.out
                  have HV6 : Hid (∀ b, v'.ownBlock = some b → b < w4.heap.size ∨ w5.heap.size ≤ b) := Lib.hid (fun b hb => by
                    rcases hat with h9 | h9
                    · exact HV.out b (h9.symm.trans hb)
                    · rw [h9] at hb
                      have hb' := Option.some.inj hb
                      simp at hb'
                      omega)
                  clear hown' hgrow hat
                  go_roundw
                  case rel => exact ⟨k + 1, by omega, by go_num, HA3, HV6, hk6, hm6⟩
                  case measure => simp [intOf]; omega
            · obtain rfl : k = G.length := by omega
              have HA3 := Lib.hid HG.out
              rw [List.take_length] at HA3
              have HB9 := Lib.hid (Nat.le_trans (Nat.le_succ _) (Nat.le_of_eq hzw.symm))
              go_wp2_with fail
              go_ret2
              exact ⟨_, by rw [HOkT.out]; rfl, by rw [HE1.out, HE2.out]; exact Gs.base (ksz hb0) HA3.out, ktr hb0 kw⟩
    · have HOk2 : Hid (okLs L S = false) := Lib.hid (by rw [HOk.out, decide_eq_false (fun e => eNM e.symm), Bool.false_and])
      have heq : ((M : Int) == (N : Int)) = false := by rw [beq_eq_false_iff_ne]; omega
      have hne : ((M : Int) != (N : Int)) = true := by simp; omega
      clear HOk
      go_wp2_with fail
      go_ret2
      exact ⟨_, by rw [HOk2.out]; rfl, by rw [E0.out (by rw [HOk2.out]; rfl)]; exact HG2.out, k2⟩
end Go.Proofs.YteccmlpibbchbaaGreatDoor.Tdn
/-
  An owned list of owned lists of texts: marked, and the marks held.
-/
namespace Go.Proofs.YteccmlpibbchbaaGreatDoor.Tdn
open Go.ChangeShapes Go.WideShapes Go.ChangeAt Go.RowKit Go.Joins Go.Deep
open Pl Strs Help Name Stands SplitPl NmPl Word Part NGood Nms Jn Ens Lab Kpz Ce Rdf LdPl Lbs Lbr Cit
open Num (Tab Tab.below)
set_option linter.unusedSimpArgs false
set_option linter.unusedVariables false

theorem Gs.set {w w' : World} {base k g c : Nat} {v : Value} {C : List (List ByteArray)} {x y : List ByteArray} {vs : List Value} (h1 : w.ownsRow base 61 1 v C.length vs)
    (h2 : ∀ (j : Nat) (x : List ByteArray), C[j]? = some x → ∃ g c, vs[j]? = some (.slice (some ⟨g, 0, none⟩) x.length c) ∧ w.ownsRow base 9 1 (.slice (some ⟨g, 0, none⟩) x.length c) x.length (x.map Value.string) ∧ v.ownBlock ≠ some g)
    (h3 : ∀ (i j : Nat) (a b : Value), i ≠ j → vs[i]? = some a → vs[j]? = some b → a.ownBlock ≠ b.ownBlock) (hx : C[k]? = some x) (hv : vs[k]? = some (.slice (some ⟨g, 0, none⟩) x.length c)) (hvg : v.ownBlock ≠ some g) (hg : w.grownBy w' (some g))
    (hy : y.length = x.length) (ho : w'.ownsRow base 9 1 (.slice (some ⟨g, 0, none⟩) x.length c) x.length (y.map Value.string)) : Gs w' base v (C.set k y) := by
  refine ⟨vs, by rw [List.length_set]; exact own_far h1 hg hvg, fun j z hz => ?_, h3⟩
  by_cases e : j = k
  · subst e
    have hk := (List.getElem?_eq_some_iff.1 hx).1
    rw [List.getElem?_set_self hk] at hz
    cases hz
    exact ⟨g, c, by rw [hy]; exact hv, by rw [hy]; exact ho, hvg⟩
  · rw [List.getElem?_set_ne (fun e2 => e e2.symm)] at hz
    obtain ⟨g', c', e', ho', hne⟩ := h2 j z hz
    exact ⟨g', c', e', own_far ho' hg (h3 j k _ _ e e' hv), hne⟩
def cnt2 (C : List (List ByteArray)) : Nat := (C.map List.length).sum
theorem cnt2_take {C : List (List ByteArray)} {k : Nat} {x : List ByteArray} (h : C[k]? = some x) : cnt2 (C.take (k + 1)) = cnt2 (C.take k) + x.length := by
  unfold cnt2
  rw [List.take_add_one, h]
  simp
theorem cnt2_le (C : List (List ByteArray)) : ∀ k, cnt2 (C.take k) ≤ cnt2 C := by
  intro k
  have : cnt2 C = cnt2 (C.take k) + cnt2 (C.drop k) := by
    unfold cnt2
    rw [← List.sum_append, ← List.map_append, List.take_append_drop]
  omega
/-- the lists behind k rounds of marking -/
def mxs (k0 : Nat) (C : List (List ByteArray)) : Nat → List (List ByteArray)
  | 0 => C
  | k + 1 => (mxs k0 C k).set k (marks (k0 + cnt2 (C.take k)) ((C[k]?).getD []).length)
theorem mxs_len (k0 : Nat) (C : List (List ByteArray)) : ∀ k, (mxs k0 C k).length = C.length
  | 0 => rfl
  | k + 1 => by rw [mxs, List.length_set, mxs_len]
theorem mxs_ge {k0 : Nat} {C : List (List ByteArray)} : ∀ {k j : Nat}, k ≤ j → (mxs k0 C k)[j]? = C[j]?
  | 0, _, _ => rfl
  | k + 1, j, h => by rw [mxs, List.getElem?_set_ne (by omega), mxs_ge (by omega)]
theorem mxs_lt {k0 : Nat} {C : List (List ByteArray)} : ∀ {k j : Nat} {x : List ByteArray}, j < k → C[j]? = some x → (mxs k0 C k)[j]? = some (marks (k0 + cnt2 (C.take j)) x.length)
  | 0, _, _, h, _ => by omega
  | k + 1, j, x, h, hx => by
    rw [mxs]
    by_cases e : j = k
    · subst e
      rw [List.getElem?_set_self (by rw [mxs_len]; exact (List.getElem?_eq_some_iff.1 hx).1), hx]; rfl
    · rw [List.getElem?_set_ne (fun e2 => e e2.symm)]
      exact mxs_lt (by omega) hx
/-- the lists, marked -/
def mksC (k0 : Nat) (C : List (List ByteArray)) : List (List ByteArray) := mxs k0 C C.length
theorem own_form {w : World} {base n : Nat} {e : TypeId} {v : Value} {xs : List Value} (h : w.ownsRow base e 1 v n xs) : ∃ A c, v = .slice A n c := by
  rcases h.2 with ⟨rfl, h0⟩ | ⟨g, cap, cur, rfl, _⟩
  · exact ⟨none, 0, by rw [h0]⟩
  · exact ⟨_, cap, rfl⟩
set_option maxRecDepth 100000 in
set_option maxHeartbeats 4000000 in
theorem markSS (base : Nat) (v : Value) (C : List (List ByteArray)) (k0 n : Nat) (w : World) (h : Gs w base v C) (hn : C.length = n) (hm : n ≤ 1048576) (h0 : 0 < k0) (hl : k0 + cnt2 C ≤ 4194304) (hb : base ≤ w.heap.size) :
    Calls Tryz.prog 16 #[v, .int .i64 k0] w fun e w' => e = .returned (.int .i64 ((k0 + cnt2 C : Nat) : Int)) ∧ Gs w' base v (mksC k0 C) ∧ Below base w w' := by
  obtain ⟨A, c, rfl⟩ : ∃ A c, v = .slice A n c := by obtain ⟨vs, ho, -⟩ := h; rw [← hn]; exact own_form ho
  have HN := Lib.hid hn
  have H0 : Hid (Gs w base (.slice A n c) (mxs k0 C 0)) := Lib.hid h
  have HL := Lib.hid (cnt2_le C)
  have HE : Hid (mksC k0 C = mxs k0 C n) := Lib.hid (by unfold mksC; rw [hn])
  have HCn : Hid (cnt2 (C.take n) = cnt2 C) := Lib.hid (by rw [List.take_of_length_le (by omega)])
  clear h hn
  go_enter Tryz.func16, Tryz.ntmps16
  go_wp2_with fail
  go_loopw [1, 5] (fun m i wr => ∃ k : Nat, k ≤ n ∧ i = .int .i64 k ∧ m = .int .i64 ((k0 + cnt2 (C.take k) : Nat) : Int) ∧ Hid (Gs wr base (.slice A n c) (mxs k0 C k)) ∧ Below base w wr ∧ base ≤ wr.heap.size) (fun _ i _ => n - (intOf i).toNat)
  case atStart => exact ⟨0, Nat.zero_le _, rfl, by simp [cnt2], H0, Below.refl _ _, hb⟩
  case round =>
    obtain ⟨k, hk, rfl, rfl, HG, kb, hbs⟩ := hrel
    by_cases hlt : k < n
    · obtain ⟨x, hx⟩ : ∃ x, C[k]? = some x := ⟨_, List.getElem?_eq_getElem (by rw [HN.out]; exact hlt)⟩
      have hx2 : (mxs k0 C k)[k]? = some x := (mxs_ge (Nat.le_refl _)).trans hx
      obtain ⟨vs, ho, hin, hd⟩ := HG.out
      obtain ⟨g, cg, hvk, hrow, hvg⟩ := hin k x hx2
      have ho' := ho
      rw [mxs_len, HN.out] at ho'
      obtain ⟨gv, cv, e9⟩ : ∃ g c2, Value.slice A n c = .slice (some ⟨g, 0, none⟩) n c2 := by
        rcases ho'.2 with ⟨_, h9⟩ | ⟨g, cap, cur, e, _⟩
        · omega
        · exact ⟨g, cap, e⟩
      cases e9
      have hcell := (World.ownsRow.cellAt ho' k (by omega)).trans hvk
      have hle := HL.out (k + 1)
      rw [cnt2_take hx] at hle
      have hrl : cnt2 (C.take k) = cnt2 (C.take k) := rfl
      obtain ⟨q, hq⟩ : ∃ q, k0 + cnt2 (C.take k) = q := ⟨_, rfl⟩
      have hq0 : 0 < q := by omega
      have hql : q + x.length ≤ 4194304 := by omega
      have HM := Lib.hid (markStringS_own base (.slice (some ⟨g, 0, none⟩) x.length cg) x q x.length wr hrow rfl hq0 hql)
      have HS := Lib.hid (fun w' (hg : wr.grownBy w' (some g)) (ho2 : w'.ownsRow base 9 1 (.slice (some ⟨g, 0, none⟩) x.length cg) x.length ((marks q x.length).map Value.string)) => Gs.set (y := marks q x.length) ho hin hd hx2 hvk hvg hg (by rw [marks_len]) ho2)
      have HMx : Hid (mxs k0 C (k + 1) = (mxs k0 C k).set k (marks q x.length)) := Lib.hid (by rw [mxs, hx, hq]; rfl)
      have HQ : Hid (k0 + cnt2 (C.take (k + 1)) = q + x.length) := Lib.hid (by rw [cnt2_take hx, ← hq]; omega)
      have hgl := hrow.lt g rfl
      rw [hq]
      clear ho ho' hin hd hx2 hvk hvg hrow hx hle hrl
      go_wp2_with (first
        | (go_at_call 39; refine HM.out.mono ?_; rintro e w1 ⟨rfl, ho1, hg1⟩)
        | go_in)
      have hk1 : Below base w w1 := Below.grown kb hg1 hbs (fun j hj => by cases hj; exact hgl.1)
      have hs1 : base ≤ w1.heap.size := Nat.le_trans hbs hg1.size
      go_roundw
      case rel => exact ⟨k + 1, by omega, by go_num, by rw [HQ.out]; first | rfl | (push_cast; rfl), Lib.hid (by rw [HMx.out]; exact HS.out _ hg1 ho1), hk1, hs1⟩
      case measure => simp [intOf]; omega
    · obtain rfl : k = n := by omega
      go_wp2_with fail
      go_ret
      exact ⟨by rw [HCn.out]; rfl, by rw [HE.out]; exact HG.out, kb⟩
set_option maxRecDepth 100000 in
set_option maxHeartbeats 4000000 in
theorem heldSS (base : Nat) (v : Value) (C : List (List ByteArray)) (k0 n : Nat) (w : World) (h : Gs w base v (mksC k0 C)) (hn : C.length = n) (hm : n ≤ 1048576) (h0 : 0 < k0) (hl : k0 + cnt2 C ≤ 4194304) :
    Calls Tryz.prog 17 #[v, .int .i64 k0] w fun e w' => e = .returned (.int .i64 ((k0 + cnt2 C : Nat) : Int)) ∧ Kp w w' := by
  obtain ⟨A, c, rfl⟩ : ∃ A c, v = .slice A n c := by obtain ⟨vs, ho, -⟩ := h; unfold mksC at ho; rw [mxs_len, hn] at ho; exact own_form ho
  have HN := Lib.hid hn
  have H := Lib.hid h
  have HL := Lib.hid (cnt2_le C)
  have HCn : Hid (cnt2 (C.take n) = cnt2 C) := Lib.hid (by rw [List.take_of_length_le (by omega)])
  clear h hn
  go_enter Tryz.func17, Tryz.ntmps17
  go_wp2_with fail
  go_loopw [1, 5] (fun m i wr => ∃ k : Nat, k ≤ n ∧ i = .int .i64 k ∧ m = .int .i64 ((k0 + cnt2 (C.take k) : Nat) : Int) ∧ Kp w wr) (fun _ i _ => n - (intOf i).toNat)
  case atStart => exact ⟨0, Nat.zero_le _, rfl, by simp [cnt2], kre _⟩
  case round =>
    obtain ⟨k, hk, rfl, rfl, kb⟩ := hrel
    by_cases hlt : k < n
    · obtain ⟨x, hx⟩ : ∃ x, C[k]? = some x := ⟨_, List.getElem?_eq_getElem (by rw [HN.out]; exact hlt)⟩
      have hx2 : (mksC k0 C)[k]? = some (marks (k0 + cnt2 (C.take k)) x.length) := mxs_lt (by rw [HN.out]; exact hlt) hx
      obtain ⟨vs, ho, hin, hd⟩ := H.out.kp kb
      obtain ⟨g, cg, hvk, hrow, hvg⟩ := hin k _ hx2
      rw [marks_len] at hvk hrow
      have ho' := ho
      unfold mksC at ho'
      rw [mxs_len, HN.out] at ho'
      obtain ⟨gv, cv, e9⟩ : ∃ g c2, Value.slice A n c = .slice (some ⟨g, 0, none⟩) n c2 := by
        rcases ho'.2 with ⟨_, h9⟩ | ⟨g, cap, cur, e, _⟩
        · omega
        · exact ⟨g, cap, e⟩
      cases e9
      have hcell := (World.ownsRow.cellAt ho' k (by omega)).trans hvk
      have hle := HL.out (k + 1)
      rw [cnt2_take hx] at hle
      obtain ⟨q, hq⟩ : ∃ q, k0 + cnt2 (C.take k) = q := ⟨_, rfl⟩
      have hq0 : 0 < q := by omega
      have hql : q + x.length ≤ 4194304 := by omega
      rw [hq] at hrow
      obtain ⟨_, _, e8, -, hrd, hA⟩ := own_rds hrow
      cases e8
      have HM := Lib.hid (heldStringS_marks (some ⟨g, 0, none⟩) cg q x.length wr hrd hA hq0 hql)
      have HQ : Hid (k0 + cnt2 (C.take (k + 1)) = q + x.length) := Lib.hid (by rw [cnt2_take hx, ← hq]; omega)
      have hqI : ¬ ((q : Int) + (x.length : Int) < 0) := by omega
      rw [hq]
      clear ho ho' hin hd hx2 hvk hvg hrow hx hle hrd hA
      go_wp2_with (first
        | (go_at_call 40; refine HM.out.mono ?_; rintro e w1 ⟨rfl, b1⟩)
        | go_in)
      have hk1 : Kp w w1 := ktr kb b1
      go_roundw
      case rel => exact ⟨k + 1, by omega, by go_num, by rw [HQ.out]; first | rfl | (push_cast; rfl), hk1⟩
      case measure => simp [intOf]; omega
    · obtain rfl : k = n := by omega
      go_wp2_with fail
      go_ret
      exact ⟨by rw [HCn.out]; rfl, kb⟩
end Go.Proofs.YteccmlpibbchbaaGreatDoor.Tdn
/-
  Lists of lists of strings as arguments: the laws' helpers szStringSS, toStringSS, eqStringSS, markStringSS.
-/
namespace Go.Proofs.YteccmlpibbchbaaGreatDoor.Sss
open Go.RowKit Pl Strs Help Nms Kpz
open Tms hiding lt_cell
set_option linter.unusedVariables false
set_option linter.unusedSimpArgs false

/-- the slice at A holds the lists C -/
def RdA (w : World) (A : Option Addr) (C : List (List ByteArray)) : Prop := ∀ j xs, C[j]? = some xs → ∃ g o Ai ci, A = some ⟨g, o, none⟩ ∧ w.cell? ⟨g, o + j, none⟩ = some (.slice Ai xs.length ci) ∧ RdS w Ai xs ∧ (0 < xs.length → ∀ a, Ai = some a → a.block < w.heap.size)
/-- .. in blocks between b0 and b1 -/
def RdC (b0 b1 : Nat) (w : World) (A : Option Addr) (C : List (List ByteArray)) : Prop := ∀ j xs, C[j]? = some xs → ∃ g o Ai ci, A = some ⟨g, o, none⟩ ∧ (b0 ≤ g ∧ g < b1 ∧ NF w g) ∧ w.cell? ⟨g, o + j, none⟩ = some (.slice Ai xs.length ci) ∧ RdS w Ai xs ∧ (0 < xs.length → ∀ a, Ai = some a → b0 ≤ a.block ∧ a.block < b1 ∧ NF w a.block) ∧ (Ai = none → ci = 0)
theorem RdA.kp {w w' : World} {A : Option Addr} {C : List (List ByteArray)} (h : RdA w A C) (hb : Kp w w') : RdA w' A C := by
  intro j xs hx
  obtain ⟨g, o, Ai, ci, e, hc, hr, ha⟩ := h j xs hx
  exact ⟨g, o, Ai, ci, e, (hb.cell (p := ⟨g, o + j, none⟩) (lt_cell hc)).trans hc, hr.of (fun hp a e => hb.block _ (ha hp a e)), fun hp a e => Nat.lt_of_lt_of_le (ha hp a e) (ksz hb)⟩
theorem RdC.kp {b0 b1 : Nat} {w w' : World} {A : Option Addr} {C : List (List ByteArray)} (h : RdC b0 b1 w A C) (hb : Kp w w') : RdC b0 b1 w' A C := by
  intro j xs hx
  obtain ⟨g, o, Ai, ci, e, ⟨g1, g2, g3⟩, hc, hr, ha, hz⟩ := h j xs hx
  exact ⟨g, o, Ai, ci, e, ⟨g1, g2, g3.below hb⟩, (hb.cell (p := ⟨g, o + j, none⟩) (lt_cell hc)).trans hc, hr.of (fun hp a e => hb.block _ (ha hp a e).2.2.lt), fun hp a e => ⟨(ha hp a e).1, (ha hp a e).2.1, (ha hp a e).2.2.below hb⟩, hz⟩
theorem RdC.rda {b0 b1 : Nat} {w : World} {A : Option Addr} {C : List (List ByteArray)} (h : RdC b0 b1 w A C) : RdA w A C := by
  intro j xs hx
  obtain ⟨g, o, Ai, ci, e, _, hc, hr, ha, _⟩ := h j xs hx
  exact ⟨g, o, Ai, ci, e, hc, hr, fun hp a e => (ha hp a e).2.2.lt⟩
/-- the elements and their bytes -/
def lensC (C : List (List ByteArray)) : Nat := (C.map fun x => x.length + lens x).sum
theorem lensC_take {C : List (List ByteArray)} {k : Nat} {x : List ByteArray} (h : C[k]? = some x) : lensC (C.take (k + 1)) = lensC (C.take k) + (x.length + lens x) := by
  unfold lensC
  rw [List.take_add_one, h]
  simp
theorem lensC_le (C : List (List ByteArray)) (k : Nat) : lensC (C.take k) ≤ lensC C := by
  conv => rhs; rw [← List.take_append_drop k C]
  unfold lensC
  rw [List.map_append, List.sum_append]
  omega
theorem lensC_mem {C : List (List ByteArray)} {x : List ByteArray} (h : x ∈ C) : x.length + lens x ≤ lensC C := by
  obtain ⟨k, hk, e⟩ := List.getElem_of_mem h
  have h1 := lensC_take (C := C) (k := k) (x := x) (by rw [List.getElem?_eq_getElem hk, e])
  have h2 := lensC_le C (k + 1)
  omega
def szC (left : Nat) (C : List (List ByteArray)) : Int := if C.length + lensC C ≤ left then (left : Int) - C.length - lensC C else -1
theorem infoSS : (Tryz.prog.info? 61).map (fun i => (i.zero, i.size, i.bytes)) = some (some (.slice none 0 0), 1, 24) := by kernel_rfl
/-- k lists copied into block g -/
def Part (w : World) (g k n : Nat) (C : List (List ByteArray)) : Prop :=
  NF w g ∧ (∀ j, j < n → ∃ u, w.cell? ⟨g, j, none⟩ = some u) ∧ ∀ j xs, j < k → C[j]? = some xs → ∃ Ai ci, w.cell? ⟨g, j, none⟩ = some (.slice Ai xs.length ci) ∧ RdS w Ai xs ∧ (0 < xs.length → ∀ a, Ai = some a → g < a.block ∧ NF w a.block) ∧ (Ai = none → ci = 0)
theorem Part.kp {w w' : World} {g k n : Nat} {C : List (List ByteArray)} (h : Part w g k n C) (hb : Kp w w') : Part w' g k n C := by
  obtain ⟨h1, h2, h3⟩ := h
  refine ⟨h1.below hb, fun j hj => ?_, fun j xs hj hx => ?_⟩
  · obtain ⟨u, hu⟩ := h2 j hj
    exact ⟨u, (hb.cell (p := ⟨g, j, none⟩) h1.lt).trans hu⟩
  · obtain ⟨Ai, ci, hc, hr, ha, hz⟩ := h3 j xs hj hx
    exact ⟨Ai, ci, (hb.cell (p := ⟨g, j, none⟩) h1.lt).trans hc, hr.of (fun hp a e => hb.block _ (ha hp a e).2.lt), fun hp a e => ⟨(ha hp a e).1, (ha hp a e).2.below hb⟩, hz⟩
theorem Part.put {w : World} {g k n ci : Nat} {C : List (List ByteArray)} {x : List ByteArray} {Ai : Option Addr} (h : Part w g k n C) (hk : k < n) (hx : C[k]? = some x) (hr : RdS w Ai x) (ha : 0 < x.length → ∀ a, Ai = some a → g < a.block ∧ NF w a.block) (hz : Ai = none → ci = 0) : Part (w.setCell ⟨g, k, none⟩ (.slice Ai x.length ci)) g (k + 1) n C := by
  obtain ⟨h1, h2, h3⟩ := h
  obtain ⟨u, hu⟩ := h2 k hk
  have hb : ∀ b, b ≠ g → (w.setCell ⟨g, k, none⟩ (.slice Ai x.length ci)).heap[b]? = w.heap[b]? := fun b hb => Below.heap_setCell _ _ _ _ (fun e => hb e)
  refine ⟨h1.set _ _, fun j hj => ?_, fun j xs hj hxj => ?_⟩
  · by_cases e : j = k
    · subst e; exact ⟨_, World.cell?_setCell_same _ _ _ hu⟩
    · obtain ⟨u', hu'⟩ := h2 j hj
      exact ⟨u', (World.cell?_setCell_other w _ _ _ (fun e' => by cases e'; exact e rfl)).trans hu'⟩
  · by_cases e : j = k
    · subst e
      rw [hx] at hxj; cases hxj
      exact ⟨Ai, ci, World.cell?_setCell_same _ _ _ hu, hr.of (fun hp a e => hb _ (by have := (ha hp a e).1; omega)), fun hp a e => ⟨(ha hp a e).1, (ha hp a e).2.set _ _⟩, hz⟩
    · obtain ⟨A', c', hc, hr', ha', hz'⟩ := h3 j xs (by omega) hxj
      exact ⟨A', c', (World.cell?_setCell_other w _ _ _ (fun e' => by cases e'; exact e rfl)).trans hc, hr'.of (fun hp a e => hb _ (by have := (ha' hp a e).1; omega)), fun hp a e => ⟨(ha' hp a e).1, (ha' hp a e).2.set _ _⟩, hz'⟩
def ToPost (n : Nat) (C : List (List ByteArray)) (w : World) (e : Ending) (w' : World) : Prop := ∃ A, e = .returned (.slice A n n) ∧ RdC w.heap.size w'.heap.size w' A C ∧ Kp w w'
set_option maxHeartbeats 2000000 in
theorem eqStringSS_same (A B : Option Addr) (c d n : Nat) (C : List (List ByteArray)) (w : World) (h : RdA w A C) (h' : RdA w B C) (hn : C.length = n) (hm : n ≤ 1048576) (hx : ∀ xs ∈ C, xs.length ≤ 1048576) :
    Calls Tryz.prog 11 #[.slice A n c, .slice B n d] w fun e w' => e = .returned (.bool true) ∧ Kp w w' := by
  have H := Lib.hid h
  have H' := Lib.hid h'
  have HN := Lib.hid hn
  have HX := Lib.hid hx
  clear h h' hn hx
  go_enter Tryz.func11, Tryz.ntmps11
  go_wp2_with fail
  go_loopw [5] (fun i wr => ∃ k : Nat, k ≤ n ∧ i = .int .i64 k ∧ Kp w wr) (fun i _ => n - (intOf i).toNat)
  case atStart => exact ⟨0, Nat.zero_le _, rfl, kre _⟩
  case round =>
    obtain ⟨k, hk, rfl, hb⟩ := hrel
    by_cases hlt : k < n
    · obtain ⟨x, hxk⟩ : ∃ x, C[k]? = some x := ⟨_, List.getElem?_eq_getElem (by rw [HN.out]; exact hlt)⟩
      obtain ⟨g, o, Ai, ci, rfl, c0, r0, a0⟩ := (H.out.kp hb) k x hxk
      obtain ⟨g', o', Ai', ci', rfl, d0, r1, a1⟩ := (H'.out.kp hb) k x hxk
      have hxl := HX.out x (List.mem_of_getElem? hxk)
      have hg := lt_cell c0
      have hg' := lt_cell d0
      have HE := Lib.hid (fun w' (hk : Kp wr w') => (eqStringS_same Ai Ai' ci ci' x w' (r0.of fun hp a e => hk.block _ (a0 hp a e)) (r1.of fun hp a e => hk.block _ (a1 hp a e)) (by omega)).mono (R' := fun e w'' => e = .returned (.bool true) ∧ Kp w' w'') fun _ _ h => ⟨h.1, by obtain ⟨q, hq⟩ := h.2; rw [hq]; exact kdn (kre _) q⟩)
      have HSS : Hid (∀ w', Kp wr w' → ((w'.cell? ⟨g, o + k, none⟩ = some (.slice Ai x.length ci) ∧ w'.cell? ⟨g', o' + k, none⟩ = some (.slice Ai' x.length ci')) ∧ Kp wr w')) := Lib.hid (fun w' h => ⟨⟨(h.cell (p := ⟨g, o + k, none⟩) hg).trans c0, (h.cell (p := ⟨g', o' + k, none⟩) hg').trans d0⟩, h⟩)
      have HK0 := Lib.hid (kdr (kre wr))
      clear c0 d0 r0 r1 a0 a1 hxk
      generalize x.length = lx at *
      go_wp2_with fail
      go_region_held3 (fun w' => (w'.cell? ⟨g, o + k, none⟩ = some (.slice Ai lx ci) ∧ w'.cell? ⟨g', o' + k, none⟩ = some (.slice Ai' lx ci')) ∧ Kp wr w')
        (first | exact HSS.out _ HK0.out | exact HSS.out _ (by assumption))
        (first | (go_at_call 34; (with_reducible refine (HE.out _ HK0.out).mono ?_); rintro e w1 ⟨rfl, b1⟩; have hk1 : Kp wr w1 := ktr HK0.out b1))
      (try clear hHeld)
      have hb1 := ktr hb hk1
      clear HSS HK0 hk1 b1
      go_wp2_with fail
      go_roundw
      case rel => exact ⟨k + 1, by omega, by go_num, hb1⟩
      case measure => (simp [intOf] <;> omega)
    · go_wp2_with fail
      go_ret
      exact ⟨rfl, hb⟩

/-- the strings of all lists -/
def cntC (C : List (List ByteArray)) : Nat := (C.map List.length).sum
theorem cntC_take {C : List (List ByteArray)} {k : Nat} {x : List ByteArray} (h : C[k]? = some x) : cntC (C.take (k + 1)) = cntC (C.take k) + x.length := by
  unfold cntC
  rw [List.take_add_one, h]
  simp
theorem cntC_le (C : List (List ByteArray)) (k : Nat) : cntC (C.take k) ≤ cntC C := by
  conv => rhs; rw [← List.take_append_drop k C]
  unfold cntC
  rw [List.map_append, List.sum_append]
  omega
theorem cntC_lens (C : List (List ByteArray)) : cntC C ≤ lensC C := by
  induction C with
  | nil => simp [cntC, lensC]
  | cons x r ih => simp only [cntC, lensC, List.map_cons, List.sum_cons] at ih ⊢; omega
/-- lists of strings that lie between b0 and b1; ns: their lengths -/
def Sls (b0 b1 : Nat) (w : World) (A : Option Addr) (C : List (List ByteArray)) : Prop := ∀ j xs, C[j]? = some xs → ∃ g o Ai ci, A = some ⟨g, o, none⟩ ∧ w.cell? ⟨g, o + j, none⟩ = some (.slice Ai xs.length ci) ∧ Ss b0 b1 w Ai xs.length
theorem Sls.tm {b0 b1 : Nat} {C : List (List ByteArray)} {w w' : World} {A : Option Addr} (h : Sls b0 b1 w A C) (ht : Tm b0 b1 w w') : Sls b0 b1 w' A C := by
  intro j xs hx
  obtain ⟨g, o, Ai, ci, e, hc, hs⟩ := h j xs hx
  exact ⟨g, o, Ai, ci, e, ht.sl _ _ _ _ _ hc, hs.tm ht⟩
theorem RdC.sls {b0 b1 : Nat} {w : World} {A : Option Addr} {C : List (List ByteArray)} (h : RdC b0 b1 w A C) : Sls b0 b1 w A C := by
  intro j xs hx
  obtain ⟨g, o, Ai, ci, e, _, hc, hr, ha, _⟩ := h j xs hx
  refine ⟨g, o, Ai, ci, e, hc, fun i hi => ?_⟩
  obtain ⟨g', o', e', hc'⟩ := hr i xs[i] (List.getElem?_eq_getElem hi)
  obtain ⟨h1, h2, h3⟩ := ha (by omega) _ e'
  exact ⟨g', o', _, e', h1, h2, h3, hc'⟩
set_option maxHeartbeats 1000000 in
theorem markStringSS_tm (b0 b1 : Nat) (A : Option Addr) (c n k0 q0 : Nat) (C : List (List ByteArray)) (w : World) (h : Sls b0 b1 w A C) (hn : C.length = n) (hm : n ≤ 1048576) (h0 : 0 < k0) (hl : k0 + cntC C ≤ 1073741824) (hq : k0 + cntC C = q0) :
    Calls Tryz.prog 16 #[.slice A n c, .int .i64 k0] w fun e w' => e = .returned (.int .i64 (q0 : Int)) ∧ Tm b0 b1 w w' := by
  have H := Lib.hid h
  have HN := Lib.hid hn
  have HQ := Lib.hid hq
  have HL0 := Lib.hid hl
  clear h hn hq hl
  go_enter Tryz.func16, Tryz.ntmps16
  go_wp2_with fail
  go_loopw [1, 5] (fun m i wr => ∃ j p : Nat, j ≤ n ∧ i = .int .i64 j ∧ m = .int .i64 p ∧ Hid (p = k0 + cntC (C.take j)) ∧ Hid (Tm b0 b1 w wr)) (fun _ i _ => n - (intOf i).toNat)
  case atStart => exact ⟨0, k0, Nat.zero_le _, rfl, rfl, Lib.hid (by simp [cntC]), Lib.hid (Tm.refl _ _ _)⟩
  case round =>
    obtain ⟨j, p, hj, rfl, rfl, HP, ht⟩ := hrel
    by_cases hlt : j < n
    · obtain ⟨x, hxk⟩ : ∃ x, C[j]? = some x := ⟨_, List.getElem?_eq_getElem (by rw [HN.out]; exact hlt)⟩
      obtain ⟨g, o, Ai, ci, rfl, hc, hs⟩ := (H.out.tm ht.out) j x hxk
      obtain ⟨q, hqq⟩ : ∃ q, p + x.length = q := ⟨_, rfl⟩
      have HP' : Hid (q = k0 + cntC (C.take (j + 1))) := Lib.hid (by have h1 := cntC_take hxk; have := HP.out; omega)
      have hS := Lib.hid (markStringS_i b0 b1 Ai ci x.length p q wr hs (by have := HP.out; omega) (by have h1 := cntC_take hxk; have h2 := cntC_le C (j + 1); have := HP.out; have := HL0.out; omega) hqq)
      clear hs hqq hxk
      generalize x.length = lx at *
      go_wp2_with fail
      refine hS.out.mono ?_
      rintro e w1 ⟨rfl, t1⟩
      have T0 := Lib.hid (ht.out.trans t1)
      clear hS t1 ht hc
      go_wp2_with fail
      go_roundw
      case rel => exact ⟨j + 1, q, by omega, by go_num, rfl, HP', T0⟩
      case measure => simp [intOf]; omega
    · obtain rfl : j = n := by omega
      have hp : p = q0 := by rw [HP.out, ← HQ.out, List.take_of_length_le (by rw [HN.out]; exact Nat.le_refl _)]
      go_wp2_with fail
      go_ret
      exact ⟨by rw [hp]; rfl, ht.out⟩
end Go.Proofs.YteccmlpibbchbaaGreatDoor.Sss
/-
  Owned lists of lists of texts are equal; what AmbiguousGroups answers hangs on what the entries hold.
-/
namespace Go.Proofs.YteccmlpibbchbaaGreatDoor.Tdn
open Go.ChangeShapes Go.WideShapes Go.ChangeAt Go.RowKit Go.Joins Go.Deep
open Pl Strs Help Name Stands SplitPl NmPl Word Part NGood Nms Jn Ens Lab Kpz Ce Rdf LdPl Lbs Lbr Cit
open Num (Tab Tab.below)
set_option linter.unusedSimpArgs false
set_option linter.unusedVariables false

theorem Gs.rda {w : World} {base : Nat} {v : Value} {C : List (List ByteArray)} (h : Gs w base v C) : ∃ A c, v = .slice A C.length c ∧ Sss.RdA w A C := by
  obtain ⟨vs, ho, hin, hd⟩ := h
  obtain ⟨A, c, rfl⟩ := own_form ho
  refine ⟨A, c, rfl, fun j x hx => ?_⟩
  have hj := (List.getElem?_eq_some_iff.1 hx).1
  obtain ⟨g, cg, e, hr, hne⟩ := hin j x hx
  obtain ⟨gv, cv, e9⟩ : ∃ g c2, Value.slice A C.length c = .slice (some ⟨g, 0, none⟩) C.length c2 := by
    rcases ho.2 with ⟨_, h9⟩ | ⟨g, cap, cur, e, _⟩
    · omega
    · exact ⟨g, cap, e⟩
  cases e9
  obtain ⟨_, _, e8, -, hrd, hA⟩ := own_rds hr
  cases e8
  exact ⟨gv, 0, some ⟨g, 0, none⟩, cg, rfl, by rw [Nat.zero_add]; exact (World.ownsRow.cellAt ho j (by omega)).trans e, hrd, fun _ a ha => hA a ha⟩
theorem eqSS {w : World} {b0 b1 : Nat} {v0 v1 : Value} {C : List (List ByteArray)} (h0 : Gs w b0 v0 C) (h1 : Gs w b1 v1 C) (hm : C.length ≤ 1048576) (hx : ∀ x ∈ C, x.length ≤ 1048576) :
    Calls Tryz.prog 11 #[v0, v1] w fun e w' => e = .returned (.bool true) ∧ Kp w w' := by
  obtain ⟨A, c, rfl, r0⟩ := h0.rda
  obtain ⟨B, d, rfl, r1⟩ := h1.rda
  exact Sss.eqStringSS_same A B c d C.length C w r0 r1 rfl hm hx
theorem agT_len (L : List En) (S : List Lb4) : (agT L S).length ≤ 8 ∧ ∀ x ∈ agT L S, x.length ≤ 8 := by
  unfold agT
  by_cases h : okAg L S = true
  · rw [if_pos h]
    have h1 : okLib L = true ∧ okLs L S = true := by unfold okAg at h; rwa [Bool.and_eq_true] at h
    have h2 := okLib_8 h1.1
    have h3 : (txs L S).length = L.length := txs_len rfl (okLs_okS h1.2).1.symm
    unfold agL
    refine ⟨by rw [List.length_map]; have := groups_len (txs L S); omega, fun x hx => ?_⟩
    obtain ⟨g, hg, rfl⟩ := List.mem_map.1 hx
    rw [List.length_map]
    have := (groups_in hg).1
    omega
  · rw [if_neg h]
    exact ⟨Nat.zero_le _, fun x hx => by cases hx⟩
theorem key_k {L M : List En} (h : L.map En.key4 = M.map En.key4) (k : Nat) : (L[k]?).map En.key = (M[k]?).map En.key := by
  have h1 : (L.map En.key4)[k]? = (M.map En.key4)[k]? := by rw [h]
  rw [List.getElem?_map, List.getElem?_map] at h1
  cases hL : L[k]? with
  | none =>
    rw [hL] at h1
    cases hM : M[k]? with
    | none => rfl
    | some y => rw [hM] at h1; cases h1
  | some x =>
    rw [hL] at h1
    cases hM : M[k]? with
    | none => rw [hM] at h1; cases h1
    | some y =>
      rw [hM] at h1
      have h2 := Option.some.inj h1
      have h3 : x.key = y.key := congrArg (fun q => q.1) h2
      show some x.key = some y.key
      rw [h3]
theorem okLs_k {L M : List En} (h : L.map En.key4 = M.map En.key4) (S : List Lb4) : okLs L S = okLs M S := by
  have hl : L.length = M.length := by have := congrArg List.length h; simpa using this
  have hs : ∀ k, lsT L S k = lsT M S k := by
    intro k
    induction k with
    | zero => rfl
    | succ k ih =>
      show (lsT L S k && _) = (lsT M S k && _)
      rw [ih]
      congr 1
      have h1 := key_k h k
      cases hL : L[k]? with
      | none =>
        rw [hL] at h1
        cases hM : M[k]? with
        | none => rfl
        | some y => rw [hM] at h1; cases h1
      | some x =>
        rw [hL] at h1
        cases hM : M[k]? with
        | none => rw [hM] at h1; cases h1
        | some y =>
          rw [hM] at h1
          have h2 : x.key = y.key := Option.some.inj h1
          cases S[k]? with
          | none => rfl
          | some l => exact labOf_k h2 l
  unfold okLs
  rw [hl, hs]
theorem agT_k {L M : List En} {w w' : World} {A B : Option Addr} (hL : RdE w A L) (hM : RdE w' B M) (h : L.map En.key4 = M.map En.key4) (S : List Lb4) : agT L S = agT M S ∧ okAg L S = okAg M S := by
  have h1 : okAg L S = okAg M S := by unfold okAg; rw [okLib_k h, okLs_k h]
  have h2 : kyOf L = kyOf M := by funext p; unfold kyOf; rw [key_k h p]
  refine ⟨?_, h1⟩
  unfold agT agL
  rw [h1, txs_k hL hM h S, h2]
end Go.Proofs.YteccmlpibbchbaaGreatDoor.Tdn
/-
  Labels that came in: their size, their copy.
-/
namespace Go.Proofs.YteccmlpibbchbaaGreatDoor.Tdn
open Go.ChangeShapes Go.WideShapes Go.ChangeAt Go.RowKit Go.Joins Go.Deep
open Pl Strs Help Name Stands SplitPl NmPl Word Part NGood Nms Jn Ens Lab Kpz Ce Rdf LdPl Lbs Lbr Cit
open Num (Tab Tab.below)
set_option linter.unusedSimpArgs false
set_option linter.unusedVariables false

theorem set4 {M : List Lb4} {x : Lb4} {R : List Value} {k : Nat} (hM : M.length = k) (hR : 4 ≤ R.length) : (((((lcells M ++ R).set (k * 4) (.string x.k)).set (k * 4 + 1) (.int .i64 x.n)).set (k * 4 + 2) (.int .i64 x.d)).set (k * 4 + 3) (.int .i64 x.t)) = lcells (M ++ [x]) ++ R.drop 4 := by
  obtain ⟨a, b, c, d, R', rfl⟩ : ∃ a b c d R', R = a :: b :: c :: d :: R' := by
    match R, hR with
    | a :: b :: c :: d :: R', _ => exact ⟨a, b, c, d, R', rfl⟩
  have hl : (lcells M).length = k * 4 := by rw [lcells_len, hM]
  rw [lcells_snoc, List.append_assoc]
  rw [List.set_append_right _ _ (by omega), List.set_append_right _ _ (by omega), List.set_append_right _ _ (by omega), List.set_append_right _ _ (by omega)]
  rw [hl, Nat.sub_self, show k * 4 + 1 - k * 4 = 1 by omega, show k * 4 + 2 - k * 4 = 2 by omega, show k * 4 + 3 - k * 4 = 3 by omega]
  rfl
set_option maxRecDepth 100000 in
set_option maxHeartbeats 4000000 in
theorem toLabs (A : Option Addr) (c N : Nat) (L : List Lb4) (w : World) (h : RdL w A L) (hn : L.length = N) (hm : N ≤ 1048576) :
    Calls Tryz.prog 9 #[.slice A N c] w fun e w' => e = .returned (.slice (some ⟨w.heap.size, 0, none⟩) N N) ∧ w'.ownsRow w.heap.size 53 4 (.slice (some ⟨w.heap.size, 0, none⟩) N N) N (lcells L) ∧ Kp w w' := by
  obtain ⟨i0, hi, hz0, hz1, hz2⟩ := info_parts infoLab
  have H := Lib.hid h
  have HN := Lib.hid hn
  clear h hn
  have hmk : (Instr.makeSlice 35 (.int .i64 N) (.int .i64 N)).run Tryz.prog w = .ok (.slice (some ⟨w.heap.size, 0, none⟩) N N) (w.alloc (.cells (madeCells #[.string ByteArray.empty, .int .i64 0, .int .i64 0, .int .i64 0] (N * 4)) 53)) := by
    have h := run_make (P := Tryz.prog) w 35 53 i0 (.agg #[.string ByteArray.empty, .int .i64 0, .int .i64 0, .int .i64 0]) Tryz.underlying35 hi hz0 .i64 .i64 (N : Int) (N : Int) (by omega) (Int.le_refl _) (by rw [hz2]; omega) (by omega)
    rw [Int.toNat_natCast] at h
    simpa [hz1, Value.cells] using h
  have hown0 := World.ownsRow_lit (base := w.heap.size) (e := 53) (size := 4) w (madeCells #[.string ByteArray.empty, .int .i64 0, .int .i64 0, .int .i64 0] (N * 4)) N (Nat.le_refl _) (by unfold maxLen; omega) (size_madeCells _ _)
  have hb0 : Kp w (w.alloc (.cells (madeCells #[.string ByteArray.empty, .int .i64 0, .int .i64 0, .int .i64 0] (N * 4)) 53)) := kal (kre _) _
  generalize w.alloc (.cells (madeCells #[.string ByteArray.empty, .int .i64 0, .int .i64 0, .int .i64 0] (N * 4)) 53) = w1 at *
  generalize hZ : (madeCells #[.string ByteArray.empty, .int .i64 0, .int .i64 0, .int .i64 0] (N * 4)).toList = Z at *
  have HZl : Hid (Z.length = N * 4) := Lib.hid (by rw [← hZ, Array.length_toList, size_madeCells])
  clear hZ
  have HO := Lib.hid hown0
  clear hown0
  go_enter Tryz.func9, Tryz.ntmps9
  go_wp2_with fail
  clear hmk
  go_loopw [4] (fun i wr => ∃ (k : Nat), k ≤ N ∧ i = .int .i64 k ∧ Hid (wr.ownsRow w.heap.size 53 4 (.slice (some ⟨w.heap.size, 0, none⟩) N N) N (lcells (L.take k) ++ Z.drop (k * 4))) ∧ Kp w wr) (fun i _ => N - (intOf i).toNat)
  case atStart => exact ⟨0, Nat.zero_le _, rfl, Lib.hid (by simpa [lcells] using HO.out), hb0⟩
  case round =>
    obtain ⟨k, hk, rfl, ho, hb⟩ := hrel
    by_cases hlt : k < N
    · have hkx : k < L.length := by rw [HN.out]; exact hlt
      have hx? := List.getElem?_eq_getElem hkx
      obtain ⟨g, o, rfl, hg, c0, c1, c2, c3⟩ := (H.out.below hb) k L[k] hx?
      have HX : Hid (L.take (k + 1) = L.take k ++ [L[k]]) := Lib.hid (by rw [List.take_add_one, hx?]; rfl)
      have HMl : Hid ((L.take k).length = k) := Lib.hid (by rw [List.length_take]; omega)
      clear hx?
      generalize L[k] = x at *
      obtain ⟨l, n, d, t⟩ := x
      dsimp only at c0 c1 c2 c3
      go_wp2_with fail
      refine (toLab l n d t wr).mono ?_
      rintro e w2 ⟨rfl, b2⟩
      have ho2 := own_kp ho.out b2
      have hzl := HZl.out
      have hall : (lcells (L.take k) ++ Z.drop (k * 4)).length = N * 4 := by rw [List.length_append, lcells_len, List.length_drop, HMl.out]; omega
      have f0 := World.ownsRow.frozenAt ho2 (k * 4)
      have f1 := World.ownsRow.frozenAt ho2 (k * 4 + 1)
      have f2 := World.ownsRow.frozenAt ho2 (k * 4 + 2)
      have f3 := World.ownsRow.frozenAt ho2 (k * 4 + 3)
      obtain ⟨u0, v0⟩ : ∃ u, w2.cell? ⟨w.heap.size, k * 4, none⟩ = some u := by rw [World.ownsRow.cellAt ho2 (k * 4) (by omega)]; exact ⟨_, List.getElem?_eq_getElem (by omega)⟩
      obtain ⟨u1, v1⟩ : ∃ u, w2.cell? ⟨w.heap.size, k * 4 + 1, none⟩ = some u := by rw [World.ownsRow.cellAt ho2 (k * 4 + 1) (by omega)]; exact ⟨_, List.getElem?_eq_getElem (by omega)⟩
      obtain ⟨u2, v2⟩ : ∃ u, w2.cell? ⟨w.heap.size, k * 4 + 2, none⟩ = some u := by rw [World.ownsRow.cellAt ho2 (k * 4 + 2) (by omega)]; exact ⟨_, List.getElem?_eq_getElem (by omega)⟩
      obtain ⟨u3, v3⟩ : ∃ u, w2.cell? ⟨w.heap.size, k * 4 + 3, none⟩ = some u := by rw [World.ownsRow.cellAt ho2 (k * 4 + 3) (by omega)]; exact ⟨_, List.getElem?_eq_getElem (by omega)⟩
      have s1 := ho2.stored (k * 4) (.string l)
      have s2 := s1.1.stored (k * 4 + 1) (.int .i64 n)
      have s3 := s2.1.stored (k * 4 + 2) (.int .i64 d)
      have s4 := s3.1.stored (k * 4 + 3) (.int .i64 t)
      have HS4 := Lib.hid s4.1
      have hk2 := ktr hb b2
      have HK4 : Hid (Kp w _) := Lib.hid (kgr hk2 (grown_trans (grown_trans (grown_trans s1.2 s2.2) s3.2) s4.2) (fun j hj => by have := Option.some.inj hj; omega))
      have HS := Lib.hid (set4 (M := L.take k) (x := ⟨l, n, d, t⟩) (R := Z.drop (k * 4)) HMl.out (by rw [List.length_drop]; omega))
      have HD : Hid ((Z.drop (k * 4)).drop 4 = Z.drop ((k + 1) * 4)) := Lib.hid (by rw [List.drop_drop]; congr 1; omega)
      clear ho ho2 b2 hall hzl hb hk2 s1 s2 s3 s4
      go_wp2_with fail
      go_roundw
      case rel =>
        refine ⟨k + 1, by omega, by go_num, Lib.hid ?_, HK4.out⟩
        have h9 := HS4.out
        rw [HX.out, ← HD.out, ← HS.out]
        exact h9
      case measure => simp [intOf]; omega
    · obtain rfl : k = N := by omega
      have HE : Hid (lcells (L.take k) ++ Z.drop (k * 4) = lcells L) := Lib.hid (by rw [List.take_of_length_le (by rw [HN.out]; omega), List.drop_eq_nil_of_le (by have := HZl.out; omega), List.append_nil])
      go_wp2_with fail
      go_ret
      exact ⟨rfl, by rw [← HE.out]; exact ho.out, hb⟩
end Go.Proofs.YteccmlpibbchbaaGreatDoor.Tdn
/-
  Labels that came in: their size, opened; marked behind a library.
-/
namespace Go.Proofs.YteccmlpibbchbaaGreatDoor.Tdn
open Go.ChangeShapes Go.WideShapes Go.ChangeAt Go.RowKit Go.Joins Go.Deep
open Pl Strs Help Name Stands SplitPl NmPl Word Part NGood Nms Jn Ens Lab Kpz Ce Rdf LdPl Lbs Lbr Cit
open Num (Tab Tab.below)
set_option linter.unusedSimpArgs false
set_option linter.unusedVariables false

instance : Inhabited Lb4 := ⟨⟨ByteArray.empty, 0, 0, 0⟩⟩
def lkS (S : List Lb4) : Nat := (S.map fun x => x.k.size).sum
theorem lkS_take {S : List Lb4} {k : Nat} {x : Lb4} (h : S[k]? = some x) : lkS (S.take (k + 1)) = lkS (S.take k) + x.k.size := by
  unfold lkS
  rw [List.take_add_one, h]
  simp
theorem lkS_le (S : List Lb4) (k : Nat) : lkS (S.take k) ≤ lkS S := by
  have : lkS S = lkS (S.take k) + lkS (S.drop k) := by
    unfold lkS
    rw [← List.sum_append, ← List.map_append, List.take_append_drop]
  omega
def szLs (left : Nat) (L : List Lb4) : Int := if L.length + lkS L ≤ left then (left : Int) - L.length - lkS L else -1
set_option maxHeartbeats 1000000 in
theorem szLabs (A : Option Addr) (c N : Nat) (L : List Lb4) (left : Nat) (w : World) (h : RdL w A L) (hn : L.length = N) (hm : N ≤ maxLen) (hx : ∀ x ∈ L, x.k.size ≤ maxLen) (hl : left ≤ 1048576) :
    Calls Tryz.prog 6 #[.slice A N c, .int .i64 left] w fun e w' => e = .returned (.int .i64 (szLs left L)) ∧ Below w.heap.size w w' := by
  have H := Lib.hid h
  have HN := Lib.hid hn
  have HX := Lib.hid hx
  have HZ := Lib.hid (show szLs left L = if L.length + lkS L ≤ left then (left : Int) - L.length - lkS L else -1 from rfl)
  rw [hn] at HZ
  unfold maxLen at hm
  clear h hn hx
  by_cases h0 : N ≤ left
  · go_enter Tryz.func6, Tryz.ntmps6
    go_wp2_with fail
    go_loopw [1, 5] (fun l i wr => ∃ k : Nat, k ≤ N ∧ i = .int .i64 k ∧ (∃ t : Nat, t + N + lkS (L.take k) = left ∧ l = .int .i64 t) ∧ Below w.heap.size w wr) (fun _ i _ => N - (intOf i).toNat)
    case atStart => exact ⟨0, Nat.zero_le _, rfl, ⟨left - N, by simp [lkS]; omega, by congr 1; omega⟩, Below.refl _ _⟩
    case round =>
      obtain ⟨k, hk, rfl, ⟨t, ht, rfl⟩, hb⟩ := hrel
      by_cases hlt : k < N
      · have hkx : k < L.length := by rw [HN.out]; exact hlt
        have hx? := List.getElem?_eq_getElem hkx
        obtain ⟨g, o, rfl, hg, c0, c1, c2, c3⟩ := (H.out.below hb) k L[k] hx?
        have l1 := HX.out _ (List.getElem_mem hkx)
        have HT := Lib.hid (lkS_take hx?)
        have HLe := Lib.hid (lkS_le L (k + 1))
        clear hx?
        generalize L[k] = x at *
        obtain ⟨l, f, u, v⟩ := x
        dsimp only at c0 c1 c2 c3 l1 HT
        have HS := Lib.hid (szLab l f u v t wr l1 (by omega))
        clear l1
        by_cases h1 : l.size ≤ t
        · rw [if_pos h1] at HS
          obtain ⟨t', ht'⟩ : ∃ t' : Nat, t' + l.size = t := ⟨t - l.size, by omega⟩
          have e2 : (t : Int) - l.size = (t' : Int) := by omega
          rw [e2] at HS
          clear e2 h1
          have HT' := Lib.hid ht'
          have htl : t' ≤ 1048576 := by omega
          clear ht'
          have HTt := Lib.hid ht
          clear ht
          go_wp2_with fail
          refine HS.out.mono ?_
          rintro e w1 ⟨rfl, b1⟩
          have hb1 := hb.trans (b1.mono hb.size)
          clear b1
          go_wp2_with fail
          go_roundw
          case rel =>
            have := HT.out
            have := HTt.out
            have := HT'.out
            exact ⟨k + 1, by omega, by go_num, ⟨t', by omega, rfl⟩, hb1⟩
          case measure => simp [intOf]; omega
        · rw [if_neg h1] at HS
          have HF : Hid (szLs left L = -1) := Lib.hid (by rw [HZ.out, if_neg]; have := HT.out; have := HLe.out; omega)
          clear h1 ht
          go_wp2_with fail
          refine HS.out.mono ?_
          rintro e w1 ⟨rfl, b1⟩
          have hb1 := hb.trans (b1.mono hb.size)
          clear b1
          go_wp2_with fail
          go_ret
          exact ⟨by rw [HF.out]; rfl, hb1⟩
      · have hkN : k = N := by omega
        have HF : Hid (szLs left L = (t : Int)) := Lib.hid (by
          have e : L.take k = L := List.take_of_length_le (by rw [HN.out]; omega)
          rw [e] at ht
          rw [HZ.out, if_pos (by omega)]
          omega)
        clear ht
        go_wp2_with fail
        go_ret
        exact ⟨by rw [HF.out]; rfl, hb⟩
  · have HF : Hid (szLs left L = -1) := Lib.hid (by rw [HZ.out, if_neg (by omega)])
    go_enter Tryz.func6, Tryz.ntmps6
    go_wp2_with fail
    go_ret
    exact ⟨by rw [HF.out]; rfl, Below.refl _ _⟩


theorem cn4l : Tryz.prog.cellsOf 50 = 4 := by kernel_rfl
theorem cells_lab {H : Type} {enc : TypeId × Value → H} {W : World} {base fuel : Nat} {held : Bool} {c0 c1 c2 c3 : Value} {y : DataW H × List MemPlace} (hf : DataW.trod enc Tryz.prog W base (fun _ => true) held fuel 50 [c0, c1, c2, c3] = some y) :
    ∃ x : Lb4, c0 = .string x.k ∧ c1 = .int .i64 x.n ∧ c2 = .int .i64 x.d ∧ c3 = .int .i64 x.t ∧ x.k.size ≤ maxLen := by
  obtain ⟨y0, y1, y2, y3, n, t0, t1, t2, t3⟩ := OpenN.trod_one4 Tryz.underlying50 (by kernel_rfl) hf
  obtain ⟨a, e0, _, hl⟩ := DataW.trod_string Tryz.underlying9 t0
  obtain ⟨b, e1, _, _⟩ := DataW.trod_int Tryz.underlying3 t1
  obtain ⟨c, e2, _, _⟩ := DataW.trod_int Tryz.underlying3 t2
  obtain ⟨d, e3, _, _⟩ := DataW.trod_int Tryz.underlying3 t3
  cases e0; cases e1; cases e2; cases e3
  exact ⟨⟨a, b, c, d⟩, rfl, rfl, rfl, rfl, hl⟩
/-- a slice of ranges -/
theorem open_labs {H : Type} {enc : TypeId × Value → H} {W : World} {base fuel : Nat} {held : Bool} {v : Value} {y : DataW H × List MemPlace} (hf : DataW.trod enc Tryz.prog W base (fun _ => true) held fuel 25 [v] = some y) :
    ∃ A N c L, v = .slice A N c ∧ RdL W A L ∧ L.length = N ∧ N ≤ maxLen ∧ (∀ x ∈ L, x.k.size ≤ maxLen) ∧ N ≤ c := by
  rcases open_slice Tryz.underlying25 hf with ⟨hcs, _⟩ | ⟨a, len, cap, m, n, D, Pl, hcs, _, hl, hm, hmm, _, hall⟩
  · cases hcs
    exact ⟨none, 0, 0, [], rfl, fun j x hx => (by simp at hx), rfl, Nat.zero_le _, fun x hx => (by cases hx), Nat.le_refl _⟩
  · cases hcs
    simp only [if_true] at hmm
    subst hmm
    rw [cn4l] at hall
    obtain ⟨b, o, spot⟩ := a
    obtain ⟨X, hX⟩ := choose_lt (n := len) (p := fun i (x : Lb4) => (∃ g o', (some ⟨b, o, spot⟩ : Option Addr) = some ⟨g, o', none⟩ ∧ g < W.heap.size ∧ W.cell? ⟨g, o' + i * 4, none⟩ = some (.string x.k) ∧ W.cell? ⟨g, o' + i * 4 + 1, none⟩ = some (.int .i64 x.n) ∧ W.cell? ⟨g, o' + i * 4 + 2, none⟩ = some (.int .i64 x.d) ∧ W.cell? ⟨g, o' + i * 4 + 3, none⟩ = some (.int .i64 x.t)) ∧ x.k.size ≤ maxLen) (fun i hi => by
      obtain ⟨cs', h1, h2⟩ := hall i (by omega)
      obtain ⟨_, hlen, hcell⟩ := World.cells?_some h1
      match cs', hlen with
      | [c0, c1, c2, c3], _ =>
        obtain ⟨x, rfl, rfl, rfl, rfl, hlim⟩ := cells_lab h2
        have e0 := hcell 0 (by omega)
        have e1 := hcell 1 (by omega)
        have e2 := hcell 2 (by omega)
        have e3 := hcell 3 (by omega)
        have hspot : spot = none := by
          obtain ⟨cs0, g1, _⟩ := hall 0 (by omega)
          obtain ⟨_, hlen0, hcell0⟩ := World.cells?_some g1
          have g0 := hcell0 0 (by omega)
          rw [List.getElem?_eq_getElem (by omega)] at g0
          simpa [Addr.add] using World.cell?_spot g0
        subst hspot
        simp only [Go.WideShapes.add_plain] at e0 e1 e2 e3
        exact ⟨x, ⟨b, o, rfl, lt_cell e0, e0, e1, e2, e3⟩, hlim⟩)
    refine ⟨some ⟨b, o, spot⟩, len, _, (List.range len).map X, rfl, ?_, by simp, by omega, ?_, hl⟩
    · intro j x hx
      rw [List.getElem?_map] at hx
      rcases Nat.lt_or_ge j len with hj | hj
      · rw [List.getElem?_range hj] at hx
        cases hx
        exact (hX j hj).1
      · rw [List.getElem?_eq_none (by simpa using hj)] at hx
        cases hx
    · intro x hx
      obtain ⟨j, hj, rfl⟩ := List.mem_map.1 hx
      exact (hX j (List.mem_range.1 hj)).2
set_option maxRecDepth 100000 in
theorem open_labels {H : Type} {enc : TypeId × Value → H} {W : World} {base b0 : Nat} {r : Reach} {held : Bool} {v : Value} {d : DataW H} {ps : List MemPlace} (hv : Value.okWide Tryz.prog W r b0 25 v) (h : DataW.Trod enc Tryz.prog W base (fun _ => true) held 25 v d ps) :
    ∃ A N c L, v = .slice A N c ∧ RdL W A L ∧ L.length = N ∧ N ≤ maxLen ∧ (∀ x ∈ L, x.k.size ≤ maxLen) ∧ N ≤ c := by
  obtain ⟨a0, n0, c0, rfl⟩ := okWide_slice Tryz.underlying25 hv
  obtain ⟨fuel, hf⟩ := h
  have e : (Value.slice a0 n0 c0).cells.toList = [.slice a0 n0 c0] := rfl
  rw [e] at hf
  exact open_labs (y := (d, ps)) hf


set_option maxHeartbeats 4000000 in
theorem mark_big (base : Nat) (v : Value) (L : List Lb4) (k0 n : Nat) (w : World) (h : w.ownsRow base 53 4 v n (lcells L)) (h0 : 0 < k0) (hl : k0 + 4 * n ≤ 1073741820) :
    Calls Tryz.prog 15 #[v, .int .i64 k0] w fun e w' => e = .returned (.int .i64 ((k0 + 4 * n : Nat) : Int)) ∧ w'.ownsRow base 53 4 v n (lcells (mks k0 n)) ∧ w.grownBy w' v.ownBlock := by
  have hn : L.length = n := by have := h.1; rw [lcells_len] at this; omega
  rcases h.2 with ⟨rfl, rfl⟩ | ⟨g, cap, cur, rfl, hrest⟩
  · obtain rfl : L = [] := List.eq_nil_of_length_eq_zero hn
    go_enter Tryz.func15, Tryz.ntmps15
    go_wp2_with fail
    go_loop [1, 5] (fun m i => m = .int .i64 k0 ∧ i = .int .i64 0) (fun _ _ => 0)
    case atStart => exact ⟨rfl, rfl⟩
    case round =>
      obtain ⟨rfl, rfl⟩ := hrel
      go_wp2_with fail
      go_ret
      exact ⟨by simp, World.ownsRow_nil _ _ _ _, World.grownBy.refl _ _⟩
  · clear hrest
    have HN := Lib.hid hn
    have H : Hid (w.ownsRow base 53 4 (.slice (some ⟨g, 0, none⟩) n cap) n (lcells (mks k0 0 ++ L.drop 0))) := Lib.hid (by simpa [mks] using h)
    clear hn h cur
    go_enter Tryz.func15, Tryz.ntmps15
    go_wp2_with fail
    go_loopw [1, 5] (fun m i wr => ∃ k : Nat, k ≤ n ∧ i = .int .i64 k ∧ (∃ q : Nat, q = k0 + 4 * k ∧ m = .int .i64 q) ∧ Hid (wr.ownsRow base 53 4 (.slice (some ⟨g, 0, none⟩) n cap) n (lcells (mks k0 k ++ L.drop k))) ∧ w.grownBy wr (some g)) (fun _ i _ => n - (intOf i).toNat)
    case atStart => exact ⟨0, Nat.zero_le _, rfl, ⟨k0, rfl, rfl⟩, H, World.grownBy.refl _ _⟩
    case round =>
      obtain ⟨k, hk, rfl, ⟨q, hq, rfl⟩, ho, hgr⟩ := hrel
      by_cases hlt : k < n
      · have hx : k < L.length := by rw [HN.out]; exact hlt
        have HSt := Lib.hid (mks_set (k := k0) hx)
        have hml : Hid ((mks k0 k ++ L.drop k).length = n) := Lib.hid (by rw [List.length_append, mks_len, List.length_drop, HN.out]; omega)
        have HQ := Lib.hid hq
        have HT := Lib.hid (fun w => markText_any q w (by omega) (by omega))
        have hqb : q + 4 ≤ 1073741820 := by omega
        clear hx hq
        go_wp2_with fail
        refine (HT.out _).mono ?_
        rintro e w1 ⟨rfl, b1⟩
        have ho1 := own_kp ho.out b1
        have hpl : (lcells (mks k0 k ++ L.drop k)).length = n * 4 := by rw [lcells_len, hml.out]
        have f0 := World.ownsRow.frozenAt ho1 (k * 4)
        have f1 := World.ownsRow.frozenAt ho1 (k * 4 + 1)
        have f2 := World.ownsRow.frozenAt ho1 (k * 4 + 2)
        have f3 := World.ownsRow.frozenAt ho1 (k * 4 + 3)
        obtain ⟨u0, v0⟩ : ∃ u, w1.cell? ⟨g, k * 4, none⟩ = some u := by rw [World.ownsRow.cellAt ho1 (k * 4) (by omega)]; exact ⟨_, List.getElem?_eq_getElem (by omega)⟩
        obtain ⟨u1, v1⟩ : ∃ u, w1.cell? ⟨g, k * 4 + 1, none⟩ = some u := by rw [World.ownsRow.cellAt ho1 (k * 4 + 1) (by omega)]; exact ⟨_, List.getElem?_eq_getElem (by omega)⟩
        obtain ⟨u2, v2⟩ : ∃ u, w1.cell? ⟨g, k * 4 + 2, none⟩ = some u := by rw [World.ownsRow.cellAt ho1 (k * 4 + 2) (by omega)]; exact ⟨_, List.getElem?_eq_getElem (by omega)⟩
        obtain ⟨u3, v3⟩ : ∃ u, w1.cell? ⟨g, k * 4 + 3, none⟩ = some u := by rw [World.ownsRow.cellAt ho1 (k * 4 + 3) (by omega)]; exact ⟨_, List.getElem?_eq_getElem (by omega)⟩
        have s1 := ho1.stored (k * 4) (.string (mkT q))
        have s2 := s1.1.stored (k * 4 + 1) (.int .i64 ((q : Int) + 1))
        have s3 := s2.1.stored (k * 4 + 2) (.int .i64 ((q : Int) + 2))
        have s4 := s3.1.stored (k * 4 + 3) (.int .i64 ((q : Int) + 3))
        have HS4 := Lib.hid s4.1
        have HG4 := Lib.hid (grown_trans (grown_trans (grown_trans (grown_trans (Lbr.grown_below hgr b1) s1.2) s2.2) s3.2) s4.2)
        clear s1 s2 s3 s4 ho ho1 b1 hgr hpl
        have e2 : ((q : Int) + 1 + 1) = (q : Int) + 2 := by omega
        have e3 : ((q : Int) + 2 + 1) = (q : Int) + 3 := by omega
        go_wp2_with fail
        go_roundw
        case rel =>
          refine ⟨k + 1, by omega, by go_num, ⟨q + 4, by have := HQ.out; omega, by go_num⟩, Lib.hid ?_, HG4.out⟩
          have hset := lcells_set (L := mks k0 k ++ L.drop k) (k := k) (mk1 k0 k) (by rw [hml.out]; exact hlt)
          rw [HSt.out] at hset
          rw [← hset]
          have hh := HS4.out
          have e0 : mkT q = (mk1 k0 k).k := by rw [HQ.out]; rfl
          have e1 : ((q : Int) + 1) = (mk1 k0 k).n := by rw [HQ.out]; unfold mk1; simp
          have e3 : ((q : Int) + 2) = (mk1 k0 k).d := by rw [HQ.out]; unfold mk1; simp
          have e4 : ((q : Int) + 3) = (mk1 k0 k).t := by rw [HQ.out]; unfold mk1; simp
          rw [e0, e1, e3, e4] at hh
          first | exact hh | (simpa [e0, e1, e3, e4] using hh)
        case measure => (simp [intOf] <;> omega)
      · obtain rfl : k = n := by omega
        have HE : Hid (mks k0 k ++ L.drop k = mks k0 k) := Lib.hid (by rw [List.drop_eq_nil_of_le (by rw [HN.out]; exact Nat.le_refl _), List.append_nil])
        subst hq
        go_wp2_with fail
        go_ret
        exact ⟨rfl, by rw [← HE.out]; exact ho.out, hgr⟩


/-- an owned list of owned lists of texts whose blocks lie between two bounds -/
def Gr (b0 b1 : Nat) (w : World) (v : Value) (C : List (List ByteArray)) : Prop := ∃ vs, w.ownsRow b0 61 1 v C.length vs ∧ (∀ b, v.ownBlock = some b → b < b1) ∧ (∀ (j : Nat) (x : List ByteArray), C[j]? = some x → ∃ g c, vs[j]? = some (.slice (some ⟨g, 0, none⟩) x.length c) ∧ w.ownsRow b0 9 1 (.slice (some ⟨g, 0, none⟩) x.length c) x.length (x.map Value.string) ∧ v.ownBlock ≠ some g ∧ g < b1) ∧
  ∀ (i j : Nat) (a b : Value), i ≠ j → vs[i]? = some a → vs[j]? = some b → a.ownBlock ≠ b.ownBlock
theorem Gs.gr {w : World} {base : Nat} {v : Value} {C : List (List ByteArray)} (h : Gs w base v C) : Gr base w.heap.size w v C := by
  obtain ⟨vs, h1, h2, h3⟩ := h
  refine ⟨vs, h1, fun b hb => (h1.lt b hb).2, fun j x hx => ?_, h3⟩
  obtain ⟨g, c, e, ho, hne⟩ := h2 j x hx
  exact ⟨g, c, e, ho, hne, (ho.lt g rfl).2⟩
theorem Gr.gs {b0 b1 : Nat} {w : World} {v : Value} {C : List (List ByteArray)} (h : Gr b0 b1 w v C) : Gs w b0 v C := by
  obtain ⟨vs, h1, _, h2, h3⟩ := h
  refine ⟨vs, h1, fun j x hx => ?_, h3⟩
  obtain ⟨g, c, e, ho, hne, _⟩ := h2 j x hx
  exact ⟨g, c, e, ho, hne⟩
theorem Gr.map {b0 b1 : Nat} {w w' : World} {v : Value} {C : List (List ByteArray)} (h : Gr b0 b1 w v C) (hm : ∀ (e : TypeId) (n : Nat) (u : Value) (xs : List Value), w.ownsRow b0 e 1 u n xs → (∀ k, u.ownBlock = some k → k < b1) → w'.ownsRow b0 e 1 u n xs) : Gr b0 b1 w' v C := by
  obtain ⟨vs, h1, hb, h2, h3⟩ := h
  refine ⟨vs, hm _ _ _ _ h1 hb, hb, fun j x hx => ?_, h3⟩
  obtain ⟨g, c, e, ho, hne, hg⟩ := h2 j x hx
  exact ⟨g, c, e, hm _ _ _ _ ho (fun k hk => by have h9 : g = k := Option.some.inj hk; omega), hne, hg⟩
theorem Gr.kp {b0 b1 : Nat} {w w' : World} {v : Value} {C : List (List ByteArray)} (h : Gr b0 b1 w v C) (hb : Kp w w') : Gr b0 b1 w' v C := h.map (fun _ _ _ _ ho _ => own_kp ho hb)
theorem Gr.tm {b0 b1 c0 c1 : Nat} {w w' : World} {v : Value} {C : List (List ByteArray)} (h : Gr b0 b1 w v C) (ht : Tms.Tm c0 c1 w w') (hd : b1 ≤ c0 ∨ c1 ≤ b0) : Gr b0 b1 w' v C := h.map (fun _ _ u _ ho hk => Tms.own_tm ho ht (fun k hk' => by
  have h1 := hk k hk'
  have h2 := (ho.lt k hk').1
  rcases hd with h9 | h9
  · exact .inl (by omega)
  · exact .inr (by omega)))
theorem Gr.far {b0 b1 r : Nat} {w w' : World} {v : Value} {C : List (List ByteArray)} (h : Gr b0 b1 w v C) (hg : w.grownBy w' (some r)) (hr : r < b0 ∨ b1 ≤ r) : Gr b0 b1 w' v C := h.map (fun _ _ u _ ho hk => own_far ho hg (fun e => by
  have h1 := hk r e
  have h2 := (ho.lt r e).1
  omega))
theorem Gr.below {b0 b1 B : Nat} {w w' : World} {v : Value} {C : List (List ByteArray)} (h : Gr b0 b1 w v C) (hb : Below B w w') (hB : b1 ≤ B) : Gr b0 b1 w' v C := h.map (fun _ _ u _ ho hk => by
  rcases ho.2 with h' | ⟨g, cap, cur, rfl, hb1, hg, rest⟩
  · exact ⟨ho.1, .inl h'⟩
  · exact ⟨ho.1, .inr ⟨g, cap, cur, rfl, hb1, (hb.block g (Nat.lt_of_lt_of_le (hk g rfl) hB)).trans hg, rest⟩⟩)
end Go.Proofs.YteccmlpibbchbaaGreatDoor.Tdn
