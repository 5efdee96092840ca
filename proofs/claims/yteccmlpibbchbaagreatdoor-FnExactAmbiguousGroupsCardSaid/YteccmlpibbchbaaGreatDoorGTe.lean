/-
  Several texts of one claim in one file: Td6, Td7, Td8, Td9.
-/
import Derived.Test.YteccmlpibbchbaaGreatDoorGTd
/-
  The groups of places with the same text: the model.
-/
namespace Go.Proofs.YteccmlpibbchbaaGreatDoor.Tdn
open Go.ChangeShapes Go.WideShapes Go.ChangeAt Go.RowKit Go.Joins Go.Deep
open Pl Strs Help Name Stands SplitPl NmPl Word Part NGood Nms Jn Ens Lab Kpz Ce Rdf LdPl Lbs Lbr Cit
open Num (Tab Tab.below)
set_option linter.unusedSimpArgs false
set_option linter.unusedVariables false

/-- the places with the same text -/
def grp (T : List ByteArray) (i : Nat) : List Nat := (List.range T.length).filter fun k => decide (T[k]? = T[i]?)
def grpT (T : List ByteArray) (i k : Nat) : List Nat := (List.range k).filter fun k' => decide (T[k']? = T[i]?)
/-- is no place ahead of i in its group -/
def fstT (T : List ByteArray) (i k : Nat) : Bool := (List.range k).all fun k' => decide (T[k']? ≠ T[i]?) || decide (i ≤ k')
def inG (T : List ByteArray) (i : Nat) : Bool := fstT T i T.length && decide (1 < (grp T i).length)
/-- the groups of places with the same text -/
def groups (T : List ByteArray) : List (List Nat) := ((List.range T.length).filter (inG T)).map (grp T)
def groupsT (T : List ByteArray) (i : Nat) : List (List Nat) := ((List.range i).filter (inG T)).map (grp T)
theorem grpT_yes {T : List ByteArray} {i k : Nat} (h : T[k]? = T[i]?) : grpT T i (k + 1) = grpT T i k ++ [k] := by
  unfold grpT
  rw [List.range_succ, List.filter_append]
  simp [h]
theorem grpT_no {T : List ByteArray} {i k : Nat} (h : ¬ T[k]? = T[i]?) : grpT T i (k + 1) = grpT T i k := by
  unfold grpT
  rw [List.range_succ, List.filter_append]
  simp [h]
theorem fstT_yes {T : List ByteArray} {i k : Nat} (h : T[k]? = T[i]?) : fstT T i (k + 1) = (fstT T i k && decide (i ≤ k)) := by
  unfold fstT
  rw [List.range_succ, List.all_append]
  simp [h]
theorem fstT_no {T : List ByteArray} {i k : Nat} (h : ¬ T[k]? = T[i]?) : fstT T i (k + 1) = fstT T i k := by
  unfold fstT
  rw [List.range_succ, List.all_append]
  simp [h]
theorem grpT_len (T : List ByteArray) (i k : Nat) : (grpT T i k).length ≤ k := by
  unfold grpT
  exact Nat.le_trans (List.length_filter_le _ _) (by simp)
theorem groupsT_yes {T : List ByteArray} {i : Nat} (h : inG T i = true) : groupsT T (i + 1) = groupsT T i ++ [grp T i] := by
  unfold groupsT
  rw [List.range_succ, List.filter_append, List.map_append]
  simp [h]
theorem groupsT_no {T : List ByteArray} {i : Nat} (h : inG T i = false) : groupsT T (i + 1) = groupsT T i := by
  unfold groupsT
  rw [List.range_succ, List.filter_append, List.map_append]
  simp [h]
theorem groupsT_len (T : List ByteArray) (i : Nat) : (groupsT T i).length ≤ i := by
  unfold groupsT
  rw [List.length_map]
  exact Nat.le_trans (List.length_filter_le _ _) (by simp)
abbrev iV (n : Nat) : Value := .int .i64 (n : Int)
/-- the slice holds groups of places, each in a row of its own -/
def Gw (w : World) (base : Nat) (v : Value) (G : List (List Nat)) : Prop := ∃ vs, w.ownsRow base 63 1 v G.length vs ∧ ∀ (j : Nat) (x : List Nat), G[j]? = some x → ∃ g c, vs[j]? = some (.slice (some ⟨g, 0, none⟩) x.length c) ∧ w.ownsRow base 3 1 (.slice (some ⟨g, 0, none⟩) x.length c) x.length (x.map iV) ∧ v.ownBlock ≠ some g
theorem Gw.kp {w w' : World} {base : Nat} {v : Value} {G : List (List Nat)} (h : Gw w base v G) (hb : Kp w w') : Gw w' base v G := by
  obtain ⟨vs, h1, h2⟩ := h
  refine ⟨vs, own_kp h1 hb, fun j x hx => ?_⟩
  obtain ⟨g, c, e, ho, hne⟩ := h2 j x hx
  exact ⟨g, c, e, own_kp ho hb, hne⟩
theorem infoI : (Tryz.prog.info? 3).map (fun i => (i.zero, i.size, i.bytes)) = some (some (.int .i64 0), 1, 8) := by kernel_rfl
theorem infoSl : (Tryz.prog.info? 63).map (fun i => (i.zero, i.size, i.bytes)) = some (some (.slice none 0 0), 1, 24) := by kernel_rfl
theorem Gw.add {w1 w2 : World} {base : Nat} {v v' : Value} {G : List (List Nat)} {x : List Nat} {vs : List Value} {g c : Nat}
    (h1 : ∀ (j : Nat) (y : List Nat), G[j]? = some y → ∃ g c, vs[j]? = some (.slice (some ⟨g, 0, none⟩) y.length c) ∧ w1.ownsRow base 3 1 (.slice (some ⟨g, 0, none⟩) y.length c) y.length (y.map iV) ∧ v.ownBlock ≠ some g)
    (hx : w1.ownsRow base 3 1 (.slice (some ⟨g, 0, none⟩) x.length c) x.length (x.map iV)) (hxg : v.ownBlock ≠ some g)
    (hvs : vs.length = G.length) (ho : w2.ownsRow base 63 1 v' (G.length + 1) (vs ++ [.slice (some ⟨g, 0, none⟩) x.length c])) (hg : w1.grownBy w2 v.ownBlock) (hat : v'.ownBlock = v.ownBlock ∨ v'.ownBlock = some w1.heap.size) : Gw w2 base v' (G ++ [x]) := by
  refine ⟨vs ++ [.slice (some ⟨g, 0, none⟩) x.length c], by rw [List.length_append]; exact ho, fun j y hy => ?_⟩
  have key : ∀ g' (c' : Nat) (y : List Nat), w1.ownsRow base 3 1 (.slice (some ⟨g', 0, none⟩) y.length c') y.length (y.map iV) → v.ownBlock ≠ some g' → w2.ownsRow base 3 1 (.slice (some ⟨g', 0, none⟩) y.length c') y.length (y.map iV) ∧ v'.ownBlock ≠ some g' := fun g' c' y hy hne => by
    refine ⟨own_far hy hg (fun e => hne e.symm), fun e => ?_⟩
    rcases hat with h | h
    · exact hne (h.symm.trans e)
    · rw [h] at e
      have := (hy.lt g' rfl).2
      cases e
      omega
  rcases Nat.lt_or_ge j G.length with hj | hj
  · rw [List.getElem?_append_left hj] at hy
    obtain ⟨g', c', e, ho', hne⟩ := h1 j y hy
    obtain ⟨k1, k2⟩ := key g' c' y ho' hne
    exact ⟨g', c', by rw [List.getElem?_append_left (by omega)]; exact e, k1, k2⟩
  · rw [List.getElem?_append_right hj] at hy
    have hj0 : j - G.length = 0 := by
      have := (List.getElem?_eq_some_iff.1 hy).1
      simp at this
      omega
    rw [hj0] at hy
    cases hy
    obtain ⟨k1, k2⟩ := key g c x hx hxg
    exact ⟨g, c, by rw [List.getElem?_append_right (by omega), show j - vs.length = 0 by omega]; rfl, k1, k2⟩
theorem pos_form {w : World} {base n : Nat} {e : TypeId} {v : Value} {xs : List Value} (h : w.ownsRow base e 1 v (n + 1) xs) : ∃ g c, v = .slice (some ⟨g, 0, none⟩) (n + 1) c := by
  rcases h.2 with ⟨_, h0⟩ | ⟨g, cap, cur, rfl, _⟩
  · exact absurd h0 (Nat.succ_ne_zero n)
  · exact ⟨g, cap, rfl⟩
set_option maxRecDepth 100000 in
set_option maxHeartbeats 16000000 in
theorem groups_s (A : Option Addr) (c N : Nat) (T : List ByteArray) (w : World) (h : RdS w A T) (hn : T.length = N) (hm : N ≤ 8) :
    Calls Tryz.prog 25 #[.slice A N c] w fun e w' => ∃ v, e = .returned v ∧ Gw w' w.heap.size v (groups T) ∧ Kp w w' := by
  obtain ⟨i0, hi, hz0, hz1, hz2⟩ := Lbr.info_parts infoI
  obtain ⟨i1, hi1, hy0, hy1, hy2⟩ := Lbr.info_parts infoSl
  have H := Lib.hid h
  have HN := Lib.hid hn
  have HGe : Hid (groupsT T N = groups T) := Lib.hid (by unfold groups groupsT; rw [hn])
  have HGr : Hid (∀ i, grpT T i N = grp T i) := Lib.hid (fun i => by unfold grp grpT; rw [hn])
  have HIn : Hid (∀ i, inG T i = (fstT T i N && decide (1 < (grpT T i N).length))) := Lib.hid (fun i => by unfold inG; rw [hn, HGr.out i])
  have ho0 : (w.alloc (.cells #[] 63)).ownsRow w.heap.size 63 1 (.slice (some ⟨w.heap.size, 0, none⟩) 0 0) 0 [] := by
    have h9 := World.ownsRow_lit (base := w.heap.size) (e := 63) (size := 1) w #[] 0 (Nat.le_refl _) (Nat.zero_le _) rfl
    simpa using h9
  have HG0 : Hid (Gw (w.alloc (.cells #[] 63)) w.heap.size (.slice (some ⟨w.heap.size, 0, none⟩) 0 0) (groupsT T 0)) := Lib.hid ⟨[], ho0, fun j x hx => by simp [groupsT] at hx⟩
  have hb0 : Kp w (w.alloc (.cells #[] 63)) := kal (kre _) _
  clear h hn ho0
  go_enter Tryz.func25, Tryz.ntmps25
  go_wp2_with fail
  go_loopw [3, 4] (fun v i wr => ∃ k : Nat, k ≤ N ∧ i = .int .i64 k ∧ Hid (Gw wr w.heap.size v (groupsT T k)) ∧ Kp w wr) (fun _ i _ => N - (intOf i).toNat)
  case atStart => exact ⟨0, Nat.zero_le _, rfl, HG0, hb0⟩
  case round =>
    obtain ⟨i, hil, rfl, HG, kw⟩ := hrel
    by_cases hlt : i < N
    · obtain ⟨ti, hti⟩ : ∃ x, T[i]? = some x := ⟨_, List.getElem?_eq_getElem (by rw [HN.out]; exact hlt)⟩
      have HTi := Lib.hid hti
      have hiI : (i : Int) < (N : Int) := by omega
      have hi00 : (0 : Int) ≤ (i : Int) := by omega
      have hq0 : (wr.alloc (.cells #[] 3)).ownsRow wr.heap.size 3 1 (.slice (some ⟨wr.heap.size, 0, none⟩) 0 0) 0 [] := by
        have h9 := World.ownsRow_lit (base := wr.heap.size) (e := 3) (size := 1) wr #[] 0 (Nat.le_refl _) (Nat.zero_le _) rfl
        simpa using h9
      have hqb : Kp wr (wr.alloc (.cells #[] 3)) := kal (kre _) _
      clear hti
      go_wp2_with fail
      rename World => wo
      go_loopw [5, 6, 7] (fun vg bf kk wx => ∃ k : Nat, k ≤ N ∧ kk = .int .i64 k ∧ bf = .bool (fstT T i k) ∧ Hid (wx.ownsRow wo.heap.size 3 1 vg (grpT T i k).length ((grpT T i k).map iV)) ∧ (∃ g c, vg = .slice (some ⟨g, 0, none⟩) (grpT T i k).length c) ∧ Kp wo wx) (fun _ _ kk _ => N - (intOf kk).toNat)
      case atStart => exact ⟨0, Nat.zero_le _, rfl, rfl, Lib.hid hq0, ⟨_, _, rfl⟩, hqb⟩
      case round =>
        obtain ⟨k, hk, rfl, rfl, HO, ⟨gg, cg, rfl⟩, kx⟩ := hrel
        by_cases hlk : k < N
        · obtain ⟨tk, htk⟩ : ∃ x, T[k]? = some x := ⟨_, List.getElem?_eq_getElem (by rw [HN.out]; exact hlk)⟩
          obtain ⟨ga, oa, rfl, xk⟩ := rds_kp H.out (ktr kw kx) k tk htk
          obtain ⟨_, _, eA, xi⟩ := rds_kp H.out (ktr kw kx) i ti HTi.out
          cases eA
          have hkI : (k : Int) < (N : Int) := by omega
          have hk00 : (0 : Int) ≤ (k : Int) := by omega
          have hgl := grpT_len T i k
          by_cases e1 : tk = ti
          · have hTT : T[k]? = T[i]? := by rw [htk, HTi.out, e1]
            have HGy := Lib.hid (grpT_yes hTT)
            have HFy := Lib.hid (fstT_yes hTT)
            have hq : (tk.toList == ti.toList) = true := by rw [e1]; simp
            have HKx := Lib.hid kx
            obtain ⟨bq, hbq⟩ : ∃ b, fstT T i k = b := ⟨_, rfl⟩
            obtain ⟨dq, hdq⟩ : ∃ b, decide ((i : Int) ≤ (k : Int)) = b := ⟨_, rfl⟩
            have HD : Hid (decide (i ≤ k) = dq) := Lib.hid (by rw [← hdq]; simp)
            have HF2 : Hid (fstT T i (k + 1) = (bq && dq)) := Lib.hid (by rw [HFy.out, hbq, ← hdq]; congr 1; simp)
            rw [hbq]
            clear e1 hTT htk HFy hbq kx
            go_wp2_with fail
            go_quiet (fail)
            generalize hWd : wr.drewN _ = wd
            have kd : Kp wo wd := by rw [← hWd]; exact kdn HKx.out _
            have HOd : Hid (wd.ownsRow wo.heap.size 3 1 (.slice (some ⟨gg, 0, none⟩) (grpT T i k).length cg) (grpT T i k).length ((grpT T i k).map iV)) := Lib.hid (by rw [← hWd]; exact own_of_drewN HO.out _)
            have hsd := ksz kd
            clear hWd HO xk xi
            cases bq with
            | false =>
              go_wp2_with (first
                | (at_builtin; refine wpList_append_own _ rfl _ _ 63 rfl wo.heap.size 3 i0 (.int .i64 0) 1 8 Tryz.underlying63 hi hz0 hz1 hz2 rfl (by decide) _ _ _ rfl (HOd.out.alloc _) ⟨wd.heap.size, 0, none⟩ 1 1 [iV k] rfl rfl (cell_one_new _ _ _) (by simp [Value.oneCell']) (by unfold maxLen; omega) (by omega) (by simp; omega) ?_; intro v' w3 hown' hgrow _)
                | go_in)
              go_roundw
              case rel =>
                refine ⟨k + 1, by omega, by go_num, by rw [HF2.out]; first | rfl | (rw [HD.out]; rfl), Lib.hid (by rw [HGy.out, List.length_append, List.map_append]; exact hown'), (by rw [HGy.out, List.length_append]; exact pos_form hown'), kgr (kal kd _) hgrow (fun j hj => (HOd.out.lt j hj).1)⟩
              case measure => simp [intOf]; omega
            | true =>
              cases dq with
              | false =>
                go_wp2_with (first
                  | (at_builtin; refine wpList_append_own _ rfl _ _ 63 rfl wo.heap.size 3 i0 (.int .i64 0) 1 8 Tryz.underlying63 hi hz0 hz1 hz2 rfl (by decide) _ _ _ rfl (HOd.out.alloc _) ⟨wd.heap.size, 0, none⟩ 1 1 [iV k] rfl rfl (cell_one_new _ _ _) (by simp [Value.oneCell']) (by unfold maxLen; omega) (by omega) (by simp; omega) ?_; intro v' w3 hown' hgrow _)
                  | go_in)
                go_roundw
                case rel =>
                  refine ⟨k + 1, by omega, by go_num, by rw [HF2.out]; first | rfl | (rw [HD.out]; rfl), Lib.hid (by rw [HGy.out, List.length_append, List.map_append]; exact hown'), (by rw [HGy.out, List.length_append]; exact pos_form hown'), kgr (kal kd _) hgrow (fun j hj => (HOd.out.lt j hj).1)⟩
                case measure => simp [intOf]; omega
              | true =>
                go_wp2_with (first
                  | (at_builtin; refine wpList_append_own _ rfl _ _ 63 rfl wo.heap.size 3 i0 (.int .i64 0) 1 8 Tryz.underlying63 hi hz0 hz1 hz2 rfl (by decide) _ _ _ rfl (HOd.out.alloc _) ⟨wd.heap.size, 0, none⟩ 1 1 [iV k] rfl rfl (cell_one_new _ _ _) (by simp [Value.oneCell']) (by unfold maxLen; omega) (by omega) (by simp; omega) ?_; intro v' w3 hown' hgrow _)
                  | go_in)
                go_roundw
                case rel =>
                  refine ⟨k + 1, by omega, by go_num, by rw [HF2.out]; first | rfl | (rw [HD.out]; rfl), Lib.hid (by rw [HGy.out, List.length_append, List.map_append]; exact hown'), (by rw [HGy.out, List.length_append]; exact pos_form hown'), kgr (kal kd _) hgrow (fun j hj => (HOd.out.lt j hj).1)⟩
                case measure => simp [intOf]; omega
          · have hTT : ¬ T[k]? = T[i]? := fun h9 => e1 (Option.some.inj (by rw [← htk, ← HTi.out, h9]))
            have HGn := Lib.hid (grpT_no hTT)
            have HFn := Lib.hid (fstT_no hTT)
            have hq := ne_forms' e1
            have HKx := Lib.hid kx
            clear e1 hTT htk kx
            go_wp2_with fail
            go_quiet (fail)
            go_wp2_with fail
            go_roundw
            case rel => exact ⟨k + 1, by omega, by go_num, by rw [HFn.out], Lib.hid (by rw [HGn.out]; exact own_of_drewN HO.out _), ⟨_, _, by rw [HGn.out]⟩, kdn HKx.out _⟩
            case measure => simp [intOf]; omega
        · obtain rfl : k = N := by omega
          have hIn := HIn.out i
          have hGr := HGr.out i
          rw [hGr] at hIn HO ⊢
          obtain ⟨bq, hbq⟩ : ∃ b, fstT T i k = b := ⟨_, rfl⟩
          rw [hbq] at hIn ⊢
          have HGk := Lib.hid (HG.out.kp kx)
          have hgg := (HO.out.lt gg rfl).1
          have HUl : Hid (∀ b, _ = some b → b < wo.heap.size) := Lib.hid (by obtain ⟨vs, ho, -⟩ := HG.out; exact fun b hb => (ho.lt b hb).2)
          have hgn := groupsT_len T i
          have HXe : Hid (groupsT T i ++ [grp T i] = groupsT T i ++ [grp T i]) := Lib.hid rfl
          have HYes : Hid (inG T i = true → groupsT T (i + 1) = groupsT T i ++ [grp T i]) := Lib.hid groupsT_yes
          have HNo : Hid (inG T i = false → groupsT T (i + 1) = groupsT T i) := Lib.hid groupsT_no
          have hXl : (grp T i).length ≤ 8 := by rw [← hGr]; exact Nat.le_trans (grpT_len T i k) hm
          have HKx := Lib.hid kx
          generalize grp T i = X at *
          clear hbq hGr kx HG
          cases bq with
          | false =>
            have hE := HNo.out hIn
            clear hIn
            go_wp2_with fail
            go_roundw
            case rel => exact ⟨i + 1, by omega, by go_num, Lib.hid (by rw [hE]; exact HGk.out), ktr kw HKx.out⟩
            case measure => simp [intOf]; omega
          | true =>
            by_cases hl : 1 < X.length
            · have hE := HYes.out (by rw [hIn, decide_eq_true hl]; rfl)
              have hlI : decide ((1 : Int) < (X.length : Int)) = true := decide_eq_true (by omega)
              obtain ⟨vs, ho, hin⟩ := HGk.out
              have HOo := Lib.hid ho
              have hvl : vs.length = (groupsT T i).length := by have := ho.1; omega
              have HHin := Lib.hid hin
              have hks := ksz (ktr kw HKx.out)
              clear hIn ho hin
              go_wp2_with (first
                | (at_builtin; refine wpList_append_own_at _ rfl _ _ 59 rfl w.heap.size 63 i1 (.slice none 0 0) 1 24 Tryz.underlying59 hi1 hy0 hy1 hy2 rfl (by decide) _ _ _ rfl (HOo.out.alloc _) ⟨wr.heap.size, 0, none⟩ 1 1 [.slice (some ⟨gg, 0, none⟩) X.length cg] rfl rfl (cell_one_new _ _ _) (by simp [Value.oneCell']) (by unfold maxLen; omega) (by omega) (by simp; omega) ?_; intro v' w3 hown' hgrow _ hat)
                | go_in)
              have HA3 : Hid (Gw w3 w.heap.size v' (groupsT T (i + 1))) := Lib.hid (by
                rw [hE]
                exact Gw.add (fun j y hy => by obtain ⟨g', c', e, hh, hne⟩ := HHin.out j y hy; exact ⟨g', c', e, own_kp hh (kal (kre _) _), hne⟩) (Cs.row_base (ksz kw) (own_kp HO.out (kal (kre _) _))) (fun e => by have := HUl.out gg e; omega) hvl hown' hgrow hat)
              have hk3 : Kp w w3 := kgr (kal (ktr kw HKx.out) _) hgrow (fun j hj => (HOo.out.lt j hj).1)
              clear hown' hgrow hat hE
              go_roundw
              case rel => exact ⟨i + 1, by omega, by go_num, HA3, hk3⟩
              case measure => simp [intOf]; omega
            · have hE := HNo.out (by rw [hIn, decide_eq_false hl]; rfl)
              have hlI : decide ((1 : Int) < (X.length : Int)) = false := decide_eq_false (by omega)
              clear hIn
              go_wp2_with fail
              go_roundw
              case rel => exact ⟨i + 1, by omega, by go_num, Lib.hid (by rw [hE]; exact HGk.out), ktr kw HKx.out⟩
              case measure => simp [intOf]; omega
    · obtain rfl : i = N := by omega
      have HG9 := HG.out
      rw [HGe.out] at HG9
      go_wp2_with fail
      go_ret
      exact ⟨_, rfl, HG9, kw⟩
end Go.Proofs.YteccmlpibbchbaaGreatDoor.Tdn
/-
  The model's round: plain facts; reading groups of places.
-/
namespace Go.Proofs.YteccmlpibbchbaaGreatDoor.Tdn
open Go.ChangeShapes Go.WideShapes Go.ChangeAt Go.RowKit Go.Joins Go.Deep
open Pl Strs Help Name Stands SplitPl NmPl Word Part NGood Nms Jn Ens Lab Kpz Ce Rdf LdPl Lbs Lbr Cit
open Num (Tab Tab.below)
set_option linter.unusedSimpArgs false
set_option linter.unusedVariables false

/-- the labels at these places changed -/
def nx (c : Lb4 → Lb4) (S : List Lb4) (P : List Nat) : List Lb4 := S.mapIdx fun i x => if i ∈ P then c x else x
theorem nx_len (c : Lb4 → Lb4) (S : List Lb4) (P : List Nat) : (nx c S P).length = S.length := by simp [nx]
theorem nx_at {c : Lb4 → Lb4} {S : List Lb4} {P : List Nat} {i : Nat} {x : Lb4} (h : S[i]? = some x) : (nx c S P)[i]? = some (if i ∈ P then c x else x) := by
  unfold nx
  rw [List.getElem?_mapIdx, h]
  rfl
theorem nx_out {c : Lb4 → Lb4} {S : List Lb4} {P : List Nat} {i : Nat} (h : S[i]? = none) : (nx c S P)[i]? = none := by
  unfold nx
  rw [List.getElem?_mapIdx, h]
  rfl
theorem nx_nil (c : Lb4 → Lb4) (S : List Lb4) : nx c S [] = S := by
  refine List.ext_getElem? fun i => ?_
  cases h : S[i]? with
  | none => exact nx_out h
  | some x => rw [nx_at h]; simp
theorem nx_congr {c : Lb4 → Lb4} {S : List Lb4} {P P' : List Nat} (h : ∀ i, i ∈ P ↔ i ∈ P') : nx c S P = nx c S P' := by
  refine List.ext_getElem? fun i => ?_
  cases e : S[i]? with
  | none => rw [nx_out e, nx_out e]
  | some x => rw [nx_at e, nx_at e]; simp only [h i]
theorem nx_set {c : Lb4 → Lb4} {S : List Lb4} {P : List Nat} {a : Nat} {x : Lb4} (h : S[a]? = some x) : (nx c S P).set a (c x) = nx c S (P ++ [a]) := by
  refine List.ext_getElem? fun i => ?_
  rw [List.getElem?_set]
  by_cases hi : a = i
  · subst hi
    have ha : a < (nx c S P).length := by rw [nx_len]; exact (List.getElem?_eq_some_iff.1 h).1
    rw [if_pos rfl, if_pos ha, nx_at h]
    simp
  · rw [if_neg hi]
    cases e : S[i]? with
    | none => rw [nx_out e, nx_out e]
    | some y =>
      rw [nx_at e, nx_at e]
      have : i ∈ P ++ [a] ↔ i ∈ P := by
        rw [List.mem_append, List.mem_singleton]
        exact ⟨fun h => h.elim id (fun h => absurd h.symm hi), .inl⟩
      simp only [this]
theorem okS_nx {S : List Lb4} {c : Lb4 → Lb4} (P : List Nat) (hc : ∀ x, wrt x.n x.d x.t = true → wrt (c x).n (c x).d (c x).t = true) (h : okS S) : okS (nx c S P) := by
  intro l hl
  obtain ⟨i, hi, rfl⟩ := List.getElem_of_mem hl
  have hi' : i < S.length := by rw [nx_len] at hi; exact hi
  have := nx_at (c := c) (P := P) (List.getElem?_eq_getElem hi')
  rw [List.getElem?_eq_getElem hi] at this
  rw [Option.some.inj this]
  split
  · exact hc _ (h _ (List.getElem_mem hi'))
  · exact h _ (List.getElem_mem hi')
/-- does the text at a differ from one of its group -/
def difB (TA : List ByteArray) (x : List Nat) (a : Nat) : Bool := x.any fun b => decide (TA[b]? ≠ TA[a]?)
def qs (TA : List ByteArray) (G : List (List Nat)) : List Nat := G.flatMap fun x => x.filter (difB TA x)
theorem min_at (P : Nat → Prop) : ∀ n, P n → ∃ m, m ≤ n ∧ P m ∧ ∀ k, P k → m ≤ k := by
  intro n
  induction n using Nat.strongRecOn with
  | ind n ih =>
    intro h
    by_cases hk : ∃ k, k < n ∧ P k
    · obtain ⟨k, hkn, hp⟩ := hk
      obtain ⟨m, h1, h2, h3⟩ := ih k hkn hp
      exact ⟨m, by omega, h2, h3⟩
    · exact ⟨n, Nat.le_refl _, h, fun k hp => by
        rcases Nat.lt_or_ge k n with h' | h'
        · exact absurd ⟨k, h', hp⟩ hk
        · exact h'⟩
theorem two_len {l : List Nat} {a b : Nat} (ha : a ∈ l) (hb : b ∈ l) (h : a ≠ b) : 1 < l.length := by
  match l, ha, hb with
  | [x], ha, hb =>
    rw [List.mem_singleton] at ha hb
    exact absurd (ha.trans hb.symm) h
  | _ :: _ :: _, _, _ => simp
theorem mem_grp {T : List ByteArray} {i k : Nat} : k ∈ grp T i ↔ k < T.length ∧ T[k]? = T[i]? := by
  unfold grp
  rw [List.mem_filter, List.mem_range, decide_eq_true_eq]
theorem mem_groups {T : List ByteArray} {x : List Nat} : x ∈ groups T ↔ ∃ i, i < T.length ∧ inG T i = true ∧ x = grp T i := by
  unfold groups
  rw [List.mem_map]
  constructor
  · rintro ⟨i, hi, rfl⟩
    rw [List.mem_filter, List.mem_range] at hi
    exact ⟨i, hi.1, hi.2, rfl⟩
  · rintro ⟨i, h1, h2, rfl⟩
    exact ⟨i, by rw [List.mem_filter, List.mem_range]; exact ⟨h1, h2⟩, rfl⟩
theorem groups_lt {T : List ByteArray} {x : List Nat} (h : x ∈ groups T) : ∀ a ∈ x, a < T.length := by
  obtain ⟨i, _, _, rfl⟩ := mem_groups.1 h
  exact fun a ha => (mem_grp.1 ha).1
/-- two places with the same text lie in a group -/
theorem group_of {T : List ByteArray} {i o : Nat} (hi : i < T.length) (ho : o < T.length) (h : T[o]? = T[i]?) (hne : o ≠ i) : ∃ x ∈ groups T, i ∈ x ∧ o ∈ x := by
  obtain ⟨m, hmi, ⟨hm1, hm2⟩, hmin⟩ := min_at (fun k => k < T.length ∧ T[k]? = T[i]?) i ⟨hi, rfl⟩
  have hii : i ∈ grp T m := mem_grp.2 ⟨hi, hm2.symm⟩
  have hoo : o ∈ grp T m := mem_grp.2 ⟨ho, h.trans hm2.symm⟩
  refine ⟨grp T m, mem_groups.2 ⟨m, hm1, ?_, rfl⟩, hii, hoo⟩
  unfold inG fstT
  rw [Bool.and_eq_true, decide_eq_true_eq, List.all_eq_true]
  refine ⟨fun k hk => ?_, two_len hoo hii hne⟩
  rw [Bool.or_eq_true, decide_eq_true_eq, decide_eq_true_eq]
  by_cases e : T[k]? = T[m]?
  · exact .inr (hmin k ⟨List.mem_range.1 hk, e.trans hm2⟩)
  · exact .inl e
theorem txs_nx {c : Lb4 → Lb4} {L : List En} {S : List Lb4} {P : List Nat} {N a : Nat} (hL : L.length = N) (hS : S.length = N) (ha : a < N) (hp : a ∈ P) : (txs L (nx c S P))[a]? = (txs L (S.map c))[a]? := by
  have hx := List.getElem?_eq_getElem (show a < L.length by omega)
  have hs := List.getElem?_eq_getElem (show a < S.length by omega)
  rw [txs_at hx (nx_at hs), txs_at hx (show (S.map c)[a]? = some (c S[a]) by rw [List.getElem?_map, hs]; rfl), if_pos hp]
theorem mem_qs {TA : List ByteArray} {G : List (List Nat)} {i : Nat} : i ∈ qs TA G ↔ ∃ x ∈ G, i ∈ x ∧ difB TA x i = true := by
  unfold qs
  rw [List.mem_flatMap]
  constructor
  · rintro ⟨x, hx, h⟩
    rw [List.mem_filter] at h
    exact ⟨x, hx, h.1, h.2⟩
  · rintro ⟨x, hx, h1, h2⟩
    exact ⟨x, hx, List.mem_filter.2 ⟨h1, h2⟩⟩
theorem told_iff {B A : List ByteArray} {i : Nat} : told B A i = true ↔ ∃ o, o < B.length ∧ B[o]? = B[i]? ∧ A[o]? ≠ A[i]? := by
  unfold told
  rw [List.any_eq_true]
  constructor
  · rintro ⟨o, ho, h⟩
    simp only [Bool.and_eq_true, decide_eq_true_eq] at h
    exact ⟨o, List.mem_range.1 ho, h.1, h.2⟩
  · rintro ⟨o, ho, h1, h2⟩
    exact ⟨o, List.mem_range.2 ho, by simp only [Bool.and_eq_true, decide_eq_true_eq]; exact ⟨h1, h2⟩⟩
/-- the model's round is the program's -/
theorem nx_rnd {c : Lb4 → Lb4} {L : List En} {S : List Lb4} {N : Nat} (hL : L.length = N) (hS : S.length = N) :
    nx c S (qs (txs L (nx c S (groups (txs L S)).flatten)) (groups (txs L S))) = rnd c L S := by
  refine List.ext_getElem? fun i => ?_
  cases e : S[i]? with
  | none =>
    rw [nx_out e]
    unfold rnd
    rw [List.getElem?_mapIdx, e]
    rfl
  | some x =>
    have hi : i < N := by rw [← hS]; exact (List.getElem?_eq_some_iff.1 e).1
    have hBl : (txs L S).length = N := txs_len hL hS
    rw [nx_at e, rnd_at e]
    have key : i ∈ qs (txs L (nx c S (groups (txs L S)).flatten)) (groups (txs L S)) ↔ told (txs L S) (txs L (S.map c)) i = true := by
      rw [mem_qs, told_iff]
      have hfl : ∀ y ∈ groups (txs L S), ∀ a ∈ y, (txs L (nx c S (groups (txs L S)).flatten))[a]? = (txs L (S.map c))[a]? := fun y hy a ha =>
        txs_nx hL hS (by rw [← hBl]; exact groups_lt hy a ha) (List.mem_flatten.2 ⟨y, hy, ha⟩)
      constructor
      · rintro ⟨y, hy, hiy, hd⟩
        unfold difB at hd
        rw [List.any_eq_true] at hd
        obtain ⟨b, hb, hbd⟩ := hd
        rw [decide_eq_true_eq, hfl y hy b hb, hfl y hy i hiy] at hbd
        obtain ⟨m, _, _, rfl⟩ := mem_groups.1 hy
        exact ⟨b, (mem_grp.1 hb).1, (mem_grp.1 hb).2.trans (mem_grp.1 hiy).2.symm, hbd⟩
      · rintro ⟨o, ho, h1, h2⟩
        have hne : o ≠ i := fun e => h2 (by rw [e])
        obtain ⟨y, hy, hiy, hoy⟩ := group_of (by rw [hBl]; exact hi) ho h1 hne
        refine ⟨y, hy, hiy, ?_⟩
        unfold difB
        rw [List.any_eq_true]
        exact ⟨o, hoy, by rw [decide_eq_true_eq, hfl y hy o hoy, hfl y hy i hiy]; exact h2⟩
    simp only [key]
/-- the slice at A holds groups of places -/
def RdG (w : World) (A : Option Addr) (G : List (List Nat)) : Prop := ∀ (j : Nat) (x : List Nat), G[j]? = some x → ∃ g o gi c, A = some ⟨g, o, none⟩ ∧ g < w.heap.size ∧ gi < w.heap.size ∧ w.cell? ⟨g, o + j, none⟩ = some (.slice (some ⟨gi, 0, none⟩) x.length c) ∧ ∀ (i k : Nat), x[i]? = some k → w.cell? ⟨gi, i, none⟩ = some (iV k)
theorem RdG.below {w w' : World} {A : Option Addr} {G : List (List Nat)} (h : RdG w A G) (hb : Kp w w') : RdG w' A G := by
  intro j x hx
  obtain ⟨g, o, gi, c, e, h1, h2, h3, h4⟩ := h j x hx
  exact ⟨g, o, gi, c, e, Nat.lt_of_lt_of_le h1 (ksz hb), Nat.lt_of_lt_of_le h2 (ksz hb), (hb.cell (p := ⟨g, o + j, none⟩) h1).trans h3, fun i k hk => (hb.cell (p := ⟨gi, i, none⟩) h2).trans (h4 i k hk)⟩
theorem Gw.rd {w : World} {base : Nat} {v : Value} {G : List (List Nat)} (h : Gw w base v G) : ∃ A c, v = .slice A G.length c ∧ RdG w A G := by
  obtain ⟨vs, ho, hin⟩ := h
  rcases ho.2 with ⟨rfl, hl⟩ | ⟨g, cap, cur, rfl, _, hg, _⟩
  · refine ⟨none, 0, by rw [hl], fun j x hx => ?_⟩
    have := (List.getElem?_eq_some_iff.1 hx).1
    omega
  · refine ⟨_, cap, rfl, fun j x hx => ?_⟩
    obtain ⟨gi, c, e, hx2, _⟩ := hin j x hx
    have hj := (List.getElem?_eq_some_iff.1 hx).1
    have hlt := (ho.lt g rfl).2
    have hgi := (hx2.lt gi rfl).2
    refine ⟨g, 0, gi, c, rfl, hlt, hgi, ?_, fun i k hk => ?_⟩
    · rw [Nat.zero_add]
      exact (World.ownsRow.cellAt ho j (by omega)).trans e
    · have hi := (List.getElem?_eq_some_iff.1 hk).1
      refine (World.ownsRow.cellAt hx2 i (by omega)).trans ?_
      rw [List.getElem?_map, hk]
      rfl
end Go.Proofs.YteccmlpibbchbaaGreatDoor.Tdn
/-
  The model's round: l14Round.
-/
namespace Go.Proofs.YteccmlpibbchbaaGreatDoor.Tdn
open Go.ChangeShapes Go.WideShapes Go.ChangeAt Go.RowKit Go.Joins Go.Deep
open Pl Strs Help Name Stands SplitPl NmPl Word Part NGood Nms Jn Ens Lab Kpz Ce Rdf LdPl Lbs Lbr Cit
open Num (Tab Tab.below)
set_option linter.unusedSimpArgs false
set_option linter.unusedVariables false

theorem some_form {w : World} {base n : Nat} {e : TypeId} {size : Nat} {v : Value} {xs : List Value} (h : w.ownsRow base e size v n xs) (hv : v ≠ .slice none 0 0) : ∃ g c, v = .slice (some ⟨g, 0, none⟩) n c := by
  rcases h.2 with ⟨h0, _⟩ | ⟨g, cap, cur, rfl, _⟩
  · exact absurd h0 hv
  · exact ⟨g, cap, rfl⟩

set_option maxRecDepth 100000 in
set_option maxHeartbeats 32000000 in
theorem round1_s (A : Option Addr) (c N : Nat) (L : List En) (base gB cB : Nat) (S : List Lb4) (w : World) (h : RdE w A L) (hn : L.length = N) (hm : N ≤ 8) (hv : w.ownsRow base 53 4 (.slice (some ⟨gB, 0, none⟩) N cB) N (lcells S)) (hz : ∀ x ∈ L, x.sz ≤ 1048576) (hok : ∀ x ∈ L, okE x = true) (hw : okS S) :
    Calls Tryz.prog 57 #[.agg #[.slice A N c], .slice (some ⟨gB, 0, none⟩) N cB, .int .i64 0] w fun e w' => ∃ g c', e = .returned (.slice (some ⟨g, 0, none⟩) N c') ∧ w'.ownsRow w.heap.size 53 4 (.slice (some ⟨g, 0, none⟩) N c') N (lcells (rnd c1 L S)) ∧ Kp w w' := by
  obtain ⟨i0, hi, hz0, hz1, hz2⟩ := Lbr.info_parts infoLab
  have hSl : S.length = N := by have := hv.1; rw [lcells_len] at this; omega
  have hb0 : Kp w (w.alloc (.cells #[.slice A N c] 33)) := kal (kre _) _
  have hc0 := (box1 w (.slice A N c) 33).1
  have hs0 : w.heap.size < (w.alloc (.cells #[.slice A N c] 33)).heap.size := by simp
  obtain ⟨TB, hTB⟩ : ∃ T, txs L S = T := ⟨_, rfl⟩
  obtain ⟨G, hG⟩ : ∃ G, groups TB = G := ⟨_, rfl⟩
  obtain ⟨TA, hTA⟩ : ∃ T, txs L (nx c1 S G.flatten) = T := ⟨_, rfl⟩
  have HR : Hid (nx c1 S (qs TA G) = rnd c1 L S) := Lib.hid (by rw [← hTA, ← hG, ← hTB]; exact nx_rnd hn hSl)
  have hTBl : TB.length = N := by rw [← hTB]; exact txs_len hn hSl
  have hTAl : TA.length = N := by rw [← hTA]; exact txs_len hn (by rw [nx_len]; exact hSl)
  have HT1 := Lib.hid (fun W (k : Kp w W) => texts_s A c N L (some ⟨gB, 0, none⟩) cB S W (h.below k) hn hm (own_rd (own_kp hv k)) hSl hz hok hw)
  have HT2 := Lib.hid (fun B c' W (k : Kp w W) (hM : RdL W B (nx c1 S G.flatten)) => texts_s A c N L B c' (nx c1 S G.flatten) W (h.below k) hn hm hM (by rw [nx_len]; exact hSl) hz hok (okS_nx _ wrt_c1 hw))
  have HGs := Lib.hid (fun A' c' W (hr : RdS W A' TB) => groups_s A' c' N TB W hr hTBl hm)
  have HGb : Hid (∀ j x, G[j]? = some x → ∀ a ∈ x, a < N) := Lib.hid (fun j x hx a ha => by
    have := groups_lt (T := TB) (x := x) (by rw [hG]; exact List.mem_of_getElem? hx) a ha
    omega)
  have HGn : Hid (G.length ≤ 8) := Lib.hid (by
    rw [← hG]
    unfold groups
    rw [List.length_map]
    exact Nat.le_trans (Nat.le_trans (List.length_filter_le _ _) (by rw [List.length_range]; exact Nat.le_refl _)) (by omega))
  have HXn : Hid (∀ (j : Nat) (x : List Nat), G[j]? = some x → x.length ≤ 8) := Lib.hid (fun j x hx => by
    obtain ⟨i, _, _, rfl⟩ := mem_groups.1 (show x ∈ groups TB by rw [hG]; exact List.mem_of_getElem? hx)
    unfold grp
    exact Nat.le_trans (Nat.le_trans (List.length_filter_le _ _) (by rw [List.length_range]; exact Nat.le_refl _)) (by omega))
  have HV := Lib.hid (fun W (k : Kp w W) => own_kp hv k)
  have HSl := Lib.hid hSl
  have HTBl := Lib.hid hTBl
  have HTAl := Lib.hid hTAl
  unfold TxP at HT1 HT2
  rw [hTB, hTBl] at HT1
  rw [hTA, hTAl] at HT2
  rw [hG] at HGs
  generalize rnd c1 L S = R at *
  clear h hn hv hz hok hw hSl hTBl hTAl hTB hG hTA
  go_enter Tryz.func57, Tryz.ntmps57
  go_wp2_with fail
  generalize w.alloc (.cells #[.slice A N c] 33) = w0 at hb0 hc0 hs0 ⊢
  have HC : Hid (∀ W, Kp w0 W → W.cell? ⟨w.heap.size, 0, none⟩ = some (.slice A N c)) := Lib.hid (fun W h => (h.cell (p := ⟨w.heap.size, 0, none⟩) hs0).trans hc0)
  clear hc0
  refine (HT1.out w0 hb0).mono ?_
  rintro e w1 ⟨v1, rfl, o1, b1⟩
  obtain ⟨A6, c6, hv1, -, r6, -⟩ := own_rds o1
  subst hv1
  have k1 : Kp w0 w1 := b1
  clear o1 b1 HT1
  go_wp2_with fail
  refine (HGs.out A6 c6 w1 r6).mono ?_
  rintro e w2 ⟨v8, rfl, g8, b2⟩
  obtain ⟨A8, c8, hv8, hr8⟩ := g8.rd
  subst hv8
  have k2 : Kp w0 w2 := ktr k1 b2
  have HR8 := Lib.hid (fun W (kk : Kp w2 W) => hr8.below kk)
  have hov := HV.out w2 (ktr hb0 k2)
  have ho0 := empty_row w2 w2.heap.size (Nat.le_refl _)
  have hb9 : Kp w2 (w2.alloc (.cells #[] 53)) := kal (kre _) _
  have HCs : Hid (∀ (W : World), Kp w2 W → ∀ j u, (lcells S)[j]? = some u → W.cell? ((⟨gB, 0, none⟩ : Addr).add j) = some u) := Lib.hid (fun W kk j u hu => by
    have hj := (List.getElem?_eq_some_iff.1 hu).1
    have h1 := World.ownsRow.cellAt (own_kp hov kk) j (by have := hov.1; omega)
    rw [hu] at h1
    rw [Go.WideShapes.add_plain, Nat.zero_add]
    exact h1)
  have HLl : Hid ((lcells S).length = N * 4) := Lib.hid hov.1
  have HOn := Lib.hid (lcells_one S)
  have HK2 := Lib.hid k2
  clear r6 g8 hr8 b2 k1 k2 HGs hov
  go_wp2_with (first
    | (at_builtin; refine wpList_append_own _ rfl _ _ 35 rfl w2.heap.size 53 i0 _ 4 40 Tryz.underlying35 hi hz0 hz1 hz2 rfl (by decide) _ 0 _ rfl ho0 ⟨gB, 0, none⟩ N cB (lcells S) rfl HLl.out (HCs.out _ hb9) HOn.out (by unfold maxLen; omega) (by omega) (by simp) ?_; intro v9 w3 hown' hgrow hnn; obtain ⟨gn, cn, rfl⟩ := some_form hown' (fun e => by have := (hnn.1 e).1; cases this))
    | go_in)
  have k3 : Kp w2 w3 := kgr hb9 hgrow (fun j hj => (ho0.lt j hj).1)
  have HO3 : Hid (w3.ownsRow w2.heap.size 53 4 (.slice (some ⟨gn, 0, none⟩) N cn) N (lcells (nx c1 S (G.take 0).flatten))) := Lib.hid (by
    rw [List.take_zero, List.flatten_nil, nx_nil]
    rw [show lcells [] = [] from rfl, List.nil_append, Nat.zero_add] at hown'
    exact hown')
  clear hown' hgrow hnn ho0 hb9
  go_loopw [10] (fun ji wx => ∃ j : Nat, j ≤ G.length ∧ ji = .int .i64 j ∧ Hid (wx.ownsRow w2.heap.size 53 4 (.slice (some ⟨gn, 0, none⟩) N cn) N (lcells (nx c1 S (G.take j).flatten))) ∧ Kp w2 wx) (fun ji _ => G.length - (intOf ji).toNat)
  case atStart => exact ⟨0, Nat.zero_le _, rfl, HO3, k3⟩
  case round =>
    obtain ⟨j, hj, rfl, HO, kx⟩ := hrel
    by_cases hlt : j < G.length
    · obtain ⟨x, hx⟩ : ∃ x, G[j]? = some x := ⟨_, List.getElem?_eq_getElem hlt⟩
      have hjI : (j : Int) < (G.length : Int) := by omega
      have hx8 := HXn.out j x hx
      have hG8 := HGn.out
      have hj0 : (0 : Int) ≤ (j : Int) := by omega
      go_wp2_with fail
      rename World => wo
      go_loopw [11] (fun ki wx => ∃ k : Nat, k ≤ x.length ∧ ki = .int .i64 k ∧ Hid (wx.ownsRow w2.heap.size 53 4 (.slice (some ⟨gn, 0, none⟩) N cn) N (lcells (nx c1 S ((G.take j).flatten ++ x.take k)))) ∧ Kp w2 wx) (fun ki _ => x.length - (intOf ki).toNat)
      case atStart => exact ⟨0, Nat.zero_le _, rfl, Lib.hid (by rw [List.take_zero, List.append_nil]; exact HO.out), kx⟩
      case round =>
        clear HO kx
        obtain ⟨k, hk, rfl, HO, kx⟩ := hrel
        obtain ⟨g8, o8, gi, cx, rfl, hg8, hgi, e8, e9⟩ := (HR8.out _ kx) j x hx
        by_cases hlk : k < x.length
        · have hex : ∃ a, x[k]? = some a := ⟨_, List.getElem?_eq_getElem hlk⟩
          obtain ⟨a, hxa⟩ := hex
          have ha : a < N := HGb.out j x hx a (List.mem_of_getElem? hxa)
          have ea := e9 k a hxa
          clear e9
          have hex : ∃ s, S[a]? = some s := ⟨_, List.getElem?_eq_getElem (by rw [HSl.out]; exact ha)⟩
          obtain ⟨s, hs⟩ := hex
          obtain ⟨P, hP⟩ : ∃ P, (G.take j).flatten ++ x.take k = P := ⟨_, rfl⟩
          have HPn : Hid ((G.take j).flatten ++ x.take (k + 1) = P ++ [a]) := Lib.hid (by rw [List.take_add_one, hxa, ← hP, List.append_assoc]; rfl)
          rw [hP] at HO
          have hex : ∃ y, (nx c1 S P)[a]? = some y ∧ c1 y = c1 s := ⟨_, nx_at hs, by split <;> rfl⟩
          obtain ⟨y, hy, hyc⟩ := hex
          obtain ⟨gn', on', en, hgn, y0, y1, y2, y3⟩ := (own_rd HO.out) a y hy
          have e1 : gn' = gn ∧ on' = 0 := by cases en; exact ⟨rfl, rfl⟩
          rw [e1.1, e1.2, Nat.zero_add] at y0 y1 y2 y3
          rw [e1.1] at hgn
          have hkI : (k : Int) < (x.length : Int) := by omega
          have hk0 : (0 : Int) ≤ (k : Int) := by omega
          have haI : (a : Int) < (N : Int) := by omega
          have ha0 : (0 : Int) ≤ (a : Int) := by omega
          obtain ⟨yk, yn, yd, yt⟩ := y
          dsimp only at y0 y1 y2 y3
          clear hP en e1
          have HXa := Lib.hid hxa
          have HS' := Lib.hid hs
          have HY := Lib.hid hy
          have HYc := Lib.hid hyc
          clear hxa hs hy hyc
          have hX0 : Kp wr (wr.alloc (.cells #[.string yk, .int .i64 4, .int .i64 yd, .int .i64 yt] 53)) := kal (kre _) _
          have q0 : (wr.alloc (.cells #[.string yk, .int .i64 4, .int .i64 yd, .int .i64 yt] 53)).cell? ⟨wr.heap.size, 0, none⟩ = some (.string yk) := by simp
          have q1 : (wr.alloc (.cells #[.string yk, .int .i64 4, .int .i64 yd, .int .i64 yt] 53)).cell? ⟨wr.heap.size, 1, none⟩ = some (.int .i64 4) := by simp
          have q2 : (wr.alloc (.cells #[.string yk, .int .i64 4, .int .i64 yd, .int .i64 yt] 53)).cell? ⟨wr.heap.size, 2, none⟩ = some (.int .i64 yd) := by simp
          have q3 : (wr.alloc (.cells #[.string yk, .int .i64 4, .int .i64 yd, .int .i64 yt] 53)).cell? ⟨wr.heap.size, 3, none⟩ = some (.int .i64 yt) := by simp
          go_upto_region 14 with fail
          generalize hWb : wr.alloc (.cells #[.string yk, .int .i64 4, .int .i64 yd, .int .i64 yt] 53) = wb at hX0 q0 q1 q2 q3 ⊢
          clear hWb
          have kb := ktr kx hX0
          have hob := own_kp HO.out hX0
          have d8 := (hX0.cell (p := ⟨g8, o8 + j, none⟩) hg8).trans e8
          have da := (hX0.cell (p := ⟨gi, k, none⟩) hgi).trans ea
          have d8' : wb.drew.cell? ⟨g8, o8 + j, none⟩ = _ := d8
          have da' : wb.drew.cell? ⟨gi, k, none⟩ = _ := da
          have q0' : wb.drew.cell? ⟨wr.heap.size, 0, none⟩ = _ := q0
          have q1' : wb.drew.cell? ⟨wr.heap.size, 1, none⟩ = _ := q1
          have q2' : wb.drew.cell? ⟨wr.heap.size, 2, none⟩ = _ := q2
          have q3' : wb.drew.cell? ⟨wr.heap.size, 3, none⟩ = _ := q3
          have hpl : (lcells (nx c1 S P)).length = N * 4 := by rw [lcells_len, nx_len, HSl.out]
          have f0 := World.ownsRow.frozenAt hob (a * 4)
          have f1 := World.ownsRow.frozenAt hob (a * 4 + 1)
          have f2 := World.ownsRow.frozenAt hob (a * 4 + 2)
          have f3 := World.ownsRow.frozenAt hob (a * 4 + 3)
          obtain ⟨z0, v0⟩ : ∃ u, wb.cell? ⟨gn, a * 4, none⟩ = some u := by rw [World.ownsRow.cellAt hob (a * 4) (by omega)]; exact ⟨_, List.getElem?_eq_getElem (by omega)⟩
          obtain ⟨z1, v1⟩ : ∃ u, wb.cell? ⟨gn, a * 4 + 1, none⟩ = some u := by rw [World.ownsRow.cellAt hob (a * 4 + 1) (by omega)]; exact ⟨_, List.getElem?_eq_getElem (by omega)⟩
          obtain ⟨z2, v2⟩ : ∃ u, wb.cell? ⟨gn, a * 4 + 2, none⟩ = some u := by rw [World.ownsRow.cellAt hob (a * 4 + 2) (by omega)]; exact ⟨_, List.getElem?_eq_getElem (by omega)⟩
          obtain ⟨z3, v3⟩ : ∃ u, wb.cell? ⟨gn, a * 4 + 3, none⟩ = some u := by rw [World.ownsRow.cellAt hob (a * 4 + 3) (by omega)]; exact ⟨_, List.getElem?_eq_getElem (by omega)⟩
          have s1 := hob.stored (a * 4) (.string yk)
          have s2 := s1.1.stored (a * 4 + 1) (.int .i64 4)
          have s3 := s2.1.stored (a * 4 + 2) (.int .i64 yd)
          have s4 := s3.1.stored (a * 4 + 3) (.int .i64 yt)
          have hset := lcells_set (L := nx c1 S P) (k := a) (c1 ⟨yk, yn, yd, yt⟩) (by rw [nx_len, HSl.out]; exact ha)
          rw [HYc.out, nx_set HS'.out, ← HYc.out] at hset
          have HS4 := Lib.hid s4.1
          have hset2 : ((((lcells (nx c1 S P)).set (a * 4) (.string yk)).set (a * 4 + 1) (.int .i64 4)).set (a * 4 + 2) (.int .i64 yd)).set (a * 4 + 3) (.int .i64 yt) = lcells (nx c1 S (P ++ [a])) := hset
          rw [hset2] at HS4
          have hrow : ∀ j, (Value.slice (some ⟨gn, 0, none⟩) N cn).ownBlock = some j → w2.heap.size ≤ j := fun j hj => (hob.lt j hj).1
          have HK9 := Lib.hid (kgr (kgr (kgr (kgr kb s1.2 hrow) s2.2 hrow) s3.2 hrow) s4.2 hrow)
          clear s1 s2 s3 s4 hset hset2 hob hpl hrow y0 y1 y2 y3 hX0 kx HO e8 ea HY HYc HS' kb
          have f0w : wb.drew.frozen? ⟨gn, a * 4, none⟩ = false := f0
          have f1w : wb.drew.frozen? ⟨gn, a * 4 + 1, none⟩ = false := f1
          have f2w : wb.drew.frozen? ⟨gn, a * 4 + 2, none⟩ = false := f2
          have f3w : wb.drew.frozen? ⟨gn, a * 4 + 3, none⟩ = false := f3
          have v0w : wb.drew.cell? ⟨gn, a * 4, none⟩ = some z0 := v0
          have v1w : wb.drew.cell? ⟨gn, a * 4 + 1, none⟩ = some z1 := v1
          have v2w : wb.drew.cell? ⟨gn, a * 4 + 2, none⟩ = some z2 := v2
          have v3w : wb.drew.cell? ⟨gn, a * 4 + 3, none⟩ = some z3 := v3
          have HS5 := Lib.hid (own_kp HS4.out (kdr (kre _)))
          have HK5 := Lib.hid (kdr HK9.out)
          clear HS4 HK9
          have hk1 : k + 1 ≤ x.length := hlk
          go_region_with (fail)
          all_goals go_wp2_with fail
          all_goals go_roundw
          all_goals first
            | exact ⟨k + 1, hk1, by go_num, Lib.hid (by rw [HPn.out]; exact HS5.out), HK5.out⟩
            | (simp [intOf]; omega)
        · have hkx : k = x.length := by omega
          have HE : Hid ((G.take j).flatten ++ x.take k = (G.take (j + 1)).flatten) := Lib.hid (by rw [hkx, List.take_length, List.take_add_one, hx, Option.toList_some, List.flatten_append, List.flatten_singleton])
          have HO2 := HO.out
          rw [HE.out] at HO2
          have hkI : ¬ (k : Int) < (x.length : Int) := by omega
          clear e9 HO
          go_wp2_with fail
          go_roundw
          case rel => exact ⟨j + 1, by omega, by go_num, Lib.hid HO2, kx⟩
          case measure => simp [intOf]; omega
    · have hjl : j = G.length := by omega
      subst hjl
      have HO2 := HO.out
      rw [List.take_length] at HO2
      have HNx := Lib.hid HO2
      have hcw := HC.out _ (ktr HK2.out kx)
      clear HO HO2
      go_wp2_with fail
      refine (HT2.out _ _ _ (ktr hb0 (ktr HK2.out kx)) (own_rd HNx.out)).mono ?_
      rintro e w5 ⟨v5, rfl, o5, b5⟩
      obtain ⟨A7, c7, hv5, -, -, -⟩ := own_rds o5
      subst hv5
      have k5 : Kp w2 w5 := ktr kx b5
      have HTA5 := Lib.hid (fun W (kk : Kp w5 W) => rds_kp (show RdS w5 A7 TA from by obtain ⟨_, _, e7, -, r7, -⟩ := own_rds o5; cases e7; exact r7) kk)
      have HNx5 := Lib.hid (fun W (kk : Kp w5 W) => own_rd (own_kp HNx.out (ktr b5 kk)))
      have ho0 := empty_row w5 w5.heap.size (Nat.le_refl _)
      have hb9 : Kp w5 (w5.alloc (.cells #[] 53)) := kal (kre _) _
      have HK5 := Lib.hid k5
      clear o5 b5 HT2 HNx kx k3 HO3
      go_wp2_with (first
        | (at_builtin; refine wpList_append_own _ rfl _ _ 35 rfl w5.heap.size 53 i0 _ 4 40 Tryz.underlying35 hi hz0 hz1 hz2 rfl (by decide) _ 0 _ rfl ho0 ⟨gB, 0, none⟩ N cB (lcells S) rfl HLl.out (HCs.out _ (ktr HK5.out hb9)) HOn.out (by unfold maxLen; omega) (by omega) (by simp) ?_; intro v14 w6 hown' hgrow hnn; obtain ⟨gt, ct, rfl⟩ := some_form hown' (fun e => by have := (hnn.1 e).1; cases this))
        | go_in)
      have k6 : Kp w5 w6 := kgr hb9 hgrow (fun j hj => (ho0.lt j hj).1)
      have HO6 : Hid (w6.ownsRow w5.heap.size 53 4 (.slice (some ⟨gt, 0, none⟩) N ct) N (lcells (nx c1 S (qs TA (G.take 0))))) := Lib.hid (by
        rw [List.take_zero, show qs TA [] = [] from rfl, nx_nil]
        rw [show lcells [] = [] from rfl, List.nil_append, Nat.zero_add] at hown'
        exact hown')
      have hG8 := HGn.out
      clear hown' hgrow hnn ho0 hb9
      go_loopw [15] (fun ji wx => ∃ j : Nat, j ≤ G.length ∧ ji = .int .i64 j ∧ Hid (wx.ownsRow w5.heap.size 53 4 (.slice (some ⟨gt, 0, none⟩) N ct) N (lcells (nx c1 S (qs TA (G.take j))))) ∧ Kp w5 wx) (fun ji _ => G.length - (intOf ji).toNat)
      case atStart => exact ⟨0, Nat.zero_le _, rfl, HO6, k6⟩
      case round =>
        clear k6 HO6
        obtain ⟨j, hj, rfl, HO, kx⟩ := hrel
        by_cases hlt : j < G.length
        · obtain ⟨x, hx⟩ : ∃ x, G[j]? = some x := ⟨_, List.getElem?_eq_getElem hlt⟩
          have hjI : (j : Int) < (G.length : Int) := by omega
          have hj0 : (0 : Int) ≤ (j : Int) := by omega
          have hx8 := HXn.out j x hx
          obtain ⟨Q0, hQ0⟩ : ∃ Q, qs TA (G.take j) = Q := ⟨_, rfl⟩
          have HQn : Hid (qs TA (G.take (j + 1)) = Q0 ++ x.filter (difB TA x)) := Lib.hid (by
            rw [← hQ0, List.take_add_one, hx, Option.toList_some]
            unfold qs
            rw [List.flatMap_append, List.flatMap_singleton])
          rw [hQ0] at HO
          have HOq := HO
          clear hQ0 HO
          go_wp2_with fail
          rename World => wo
          go_loopw [16] (fun ki wx => ∃ k : Nat, k ≤ x.length ∧ ki = .int .i64 k ∧ Hid (wx.ownsRow w5.heap.size 53 4 (.slice (some ⟨gt, 0, none⟩) N ct) N (lcells (nx c1 S (Q0 ++ (x.take k).filter (difB TA x))))) ∧ Kp w5 wx) (fun ki _ => x.length - (intOf ki).toNat)
          case atStart => exact ⟨0, Nat.zero_le _, rfl, Lib.hid (by rw [List.take_zero, List.filter_nil, List.append_nil]; exact HOq.out), kx⟩
          case round =>
            clear HOq kx
            obtain ⟨k, hk, rfl, HO, kx⟩ := hrel
            obtain ⟨g8, o8, gi, cx, rfl, hg8, hgi, e8, e9⟩ := (HR8.out _ (ktr HK5.out kx)) j x hx
            by_cases hlk : k < x.length
            · have hex : ∃ a, x[k]? = some a := ⟨_, List.getElem?_eq_getElem hlk⟩
              obtain ⟨a, hxa⟩ := hex
              have ha : a < N := HGb.out j x hx a (List.mem_of_getElem? hxa)
              have ea := e9 k a hxa
              clear e9
              have hex : ∃ s, S[a]? = some s := ⟨_, List.getElem?_eq_getElem (by rw [HSl.out]; exact ha)⟩
              obtain ⟨s, hs⟩ := hex
              have hex : ∃ t, TA[a]? = some t := ⟨_, List.getElem?_eq_getElem (by rw [HTAl.out]; exact ha)⟩
              obtain ⟨ta, hta⟩ := hex
              obtain ⟨Q1, hQ1⟩ : ∃ Q, Q0 ++ (x.take k).filter (difB TA x) = Q := ⟨_, rfl⟩
              have HQ2 : Hid (Q0 ++ (x.take (k + 1)).filter (difB TA x) = Q1 ++ (if difB TA x a then [a] else [])) := Lib.hid (by
                rw [List.take_add_one, hxa, Option.toList_some, List.filter_append, ← List.append_assoc, hQ1]
                congr 1
                cases h9 : difB TA x a <;> simp [h9])
              have HNa : Hid ((nx c1 S G.flatten)[a]? = some (c1 s)) := Lib.hid (by
                rw [nx_at hs, if_pos (List.mem_flatten.2 ⟨x, List.mem_of_getElem? hx, List.mem_of_getElem? hxa⟩)])
              rw [hQ1] at HO
              have HOk := HO
              have HSs := Lib.hid hs
              have HTa := Lib.hid hta
              have hkI : (k : Int) < (x.length : Int) := by omega
              have hk0 : (0 : Int) ≤ (k : Int) := by omega
              have haI : (a : Int) < (N : Int) := by omega
              have ha0 : (0 : Int) ≤ (a : Int) := by omega
              have hk1 : k + 1 ≤ x.length := hlk
              clear hs hta hQ1 hxa HO
              go_wp2_with fail
              rename World => wp
              go_loopw [18] (fun mi wx => ∃ m : Nat, m ≤ x.length ∧ mi = .int .i64 m ∧ Hid (wx.ownsRow w5.heap.size 53 4 (.slice (some ⟨gt, 0, none⟩) N ct) N (lcells (nx c1 S (Q1 ++ (if (x.take m).any (fun b => decide (TA[b]? ≠ TA[a]?)) then [a] else []))))) ∧ Kp w5 wx) (fun mi _ => x.length - (intOf mi).toNat)
              case atStart => exact ⟨0, Nat.zero_le _, rfl, Lib.hid (by rw [List.take_zero, List.any_nil]; simpa using HOk.out), kx⟩
              case round =>
                clear HOk kx e8 ea hg8 hgi
                obtain ⟨m, hmx, rfl, HO, kx⟩ := hrel
                obtain ⟨_, _, gi', cx', e0, hg8, hgi, e8, e9⟩ := (HR8.out _ (ktr HK5.out kx)) j x hx
                cases e0
                by_cases hlm : m < x.length
                · have hex : ∃ b, x[m]? = some b := ⟨_, List.getElem?_eq_getElem hlm⟩
                  obtain ⟨b, hxb⟩ := hex
                  have hb : b < N := HGb.out j x hx b (List.mem_of_getElem? hxb)
                  have eb := e9 m b hxb
                  clear e9
                  have hex : ∃ t, TA[b]? = some t := ⟨_, List.getElem?_eq_getElem (by rw [HTAl.out]; exact hb)⟩
                  obtain ⟨tb, htb⟩ := hex
                  obtain ⟨g7, o7, rfl, xb⟩ := HTA5.out _ kx b tb htb
                  obtain ⟨_, _, e0, xa⟩ := HTA5.out _ kx a ta HTa.out
                  cases e0
                  have hmI : (m : Int) < (x.length : Int) := by omega
                  have hm0 : (0 : Int) ≤ (m : Int) := by omega
                  have hbI : (b : Int) < (N : Int) := by omega
                  have hb0' : (0 : Int) ≤ (b : Int) := by omega
                  have hm1 : m + 1 ≤ x.length := hlm
                  have HAn : Hid ((x.take (m + 1)).any (fun b => decide (TA[b]? ≠ TA[a]?)) = ((x.take m).any (fun b => decide (TA[b]? ≠ TA[a]?)) || decide (TA[b]? ≠ TA[a]?))) := Lib.hid (by
                    rw [List.take_add_one, hxb, Option.toList_some, List.any_append]
                    simp)
                  obtain ⟨y0, y1, y2, y3⟩ : ∃ y0 y1 y2 y3, y0 = () ∧ y1 = () ∧ y2 = () ∧ y3 = () := ⟨(), (), (), (), rfl, rfl, rfl, rfl⟩
                  clear y0 y1 y2 y3 hxb
                  by_cases e1 : tb = ta
                  · have hq := (show (tb.toList == ta.toList) = true by rw [e1]; simp)
                    have HE : Hid ((x.take (m + 1)).any (fun b => decide (TA[b]? ≠ TA[a]?)) = (x.take m).any (fun b => decide (TA[b]? ≠ TA[a]?))) := Lib.hid (by rw [HAn.out, htb, HTa.out, e1]; simp)
                    have HOn' : Hid (wr.ownsRow w5.heap.size 53 4 (.slice (some ⟨gt, 0, none⟩) N ct) N (lcells (nx c1 S (Q1 ++ (if (x.take (m + 1)).any (fun b => decide (TA[b]? ≠ TA[a]?)) then [a] else []))))) := Lib.hid (by rw [HE.out]; exact HO.out)
                    clear e1 htb HO
                    go_wp2_with fail
                    go_quiet (fail)
                    go_wp2_with fail
                    go_roundw
                    case rel => exact ⟨m + 1, hm1, by go_num, Lib.hid (own_of_drewN HOn'.out _), kdn kx _⟩
                    case measure => simp [intOf]; omega
                  · have hq := ne_forms' e1
                    have HE : Hid ((x.take (m + 1)).any (fun b => decide (TA[b]? ≠ TA[a]?)) = true) := Lib.hid (by rw [HAn.out, htb, HTa.out, Bool.or_eq_true, decide_eq_true_eq]; exact .inr (fun h9 => e1 (Option.some.inj h9)))
                    clear e1 htb
                    go_wp2_with fail
                    go_quiet (fail)
                    generalize hWd : wr.drewN _ = wd
                    have kd : Kp wr wd := by rw [← hWd]; exact kdn (kre _) _
                    clear hWd
                    have ho := own_kp HO.out kd
                    obtain ⟨P', hP'⟩ : ∃ P, Q1 ++ (if (x.take m).any (fun b => decide (TA[b]? ≠ TA[a]?)) then [a] else []) = P := ⟨_, rfl⟩
                    rw [hP'] at ho
                    obtain ⟨y, hy⟩ : ∃ y, y = c1 s := ⟨_, rfl⟩
                    have hNa := HNa.out
                    rw [← hy] at hNa
                    obtain ⟨gn', on', en, hgn, y0, y1, y2, y3⟩ := (HNx5.out wd (ktr kx kd)) a y hNa
                    have e1 : gn' = gn ∧ on' = 0 := by cases en; exact ⟨rfl, rfl⟩
                    rw [e1.1, e1.2, Nat.zero_add] at y0 y1 y2 y3
                    have hpl : (lcells (nx c1 S P')).length = N * 4 := by rw [lcells_len, nx_len, HSl.out]
                    have f0 := World.ownsRow.frozenAt ho (a * 4)
                    have f1 := World.ownsRow.frozenAt ho (a * 4 + 1)
                    have f2 := World.ownsRow.frozenAt ho (a * 4 + 2)
                    have f3 := World.ownsRow.frozenAt ho (a * 4 + 3)
                    obtain ⟨z0, v0⟩ : ∃ u, wd.cell? ⟨gt, a * 4, none⟩ = some u := by rw [World.ownsRow.cellAt ho (a * 4) (by omega)]; exact ⟨_, List.getElem?_eq_getElem (by omega)⟩
                    obtain ⟨z1, v1⟩ : ∃ u, wd.cell? ⟨gt, a * 4 + 1, none⟩ = some u := by rw [World.ownsRow.cellAt ho (a * 4 + 1) (by omega)]; exact ⟨_, List.getElem?_eq_getElem (by omega)⟩
                    obtain ⟨z2, v2⟩ : ∃ u, wd.cell? ⟨gt, a * 4 + 2, none⟩ = some u := by rw [World.ownsRow.cellAt ho (a * 4 + 2) (by omega)]; exact ⟨_, List.getElem?_eq_getElem (by omega)⟩
                    obtain ⟨z3, v3⟩ : ∃ u, wd.cell? ⟨gt, a * 4 + 3, none⟩ = some u := by rw [World.ownsRow.cellAt ho (a * 4 + 3) (by omega)]; exact ⟨_, List.getElem?_eq_getElem (by omega)⟩
                    have s1 := ho.stored (a * 4) (.string y.k)
                    have s2 := s1.1.stored (a * 4 + 1) (.int .i64 y.n)
                    have s3 := s2.1.stored (a * 4 + 2) (.int .i64 y.d)
                    have s4 := s3.1.stored (a * 4 + 3) (.int .i64 y.t)
                    have hset := lcells_set (L := nx c1 S P') (k := a) y (by rw [nx_len, HSl.out]; exact ha)
                    have hcg : nx c1 S (P' ++ [a]) = nx c1 S (Q1 ++ [a]) := nx_congr (fun i => by
                      rw [← hP']
                      simp only [List.mem_append, List.mem_singleton]
                      constructor
                      · rintro ((h9 | h9) | h9)
                        · exact .inl h9
                        · split at h9
                          · exact .inr (List.mem_singleton.1 h9)
                          · cases h9
                        · exact .inr h9
                      · rintro (h9 | h9)
                        · exact .inl (.inl h9)
                        · exact .inr h9)
                    rw [hy, nx_set HSs.out, hcg, ← hy] at hset
                    have HS4 := Lib.hid s4.1
                    rw [hset] at HS4
                    have hrow : ∀ j, (Value.slice (some ⟨gt, 0, none⟩) N ct).ownBlock = some j → w5.heap.size ≤ j := fun j hj => (ho.lt j hj).1
                    have HK9 := Lib.hid (kgr (kgr (kgr (kgr (ktr kx kd) s1.2 hrow) s2.2 hrow) s3.2 hrow) s4.2 hrow)
                    have HEq : Hid ((if (x.take (m + 1)).any (fun b => decide (TA[b]? ≠ TA[a]?)) = true then [a] else []) = [a]) := Lib.hid (if_pos HE.out)
                    obtain ⟨yk, yn, yd, yt⟩ := y
                    dsimp only at y0 y1 y2 y3 HS4 HK9
                    clear s1 s2 s3 s4 hset hcg ho hpl hrow hy hNa en e1 hP' kd kx HO HE xa xb eb e8
                    go_wp2_with fail
                    go_roundw
                    case rel => exact ⟨m + 1, hm1, by go_num, Lib.hid (by rw [HEq.out]; exact HS4.out), HK9.out⟩
                    case measure => simp [intOf]; omega
                · have hmx2 : m = x.length := by omega
                  have HO2 : Hid (wr.ownsRow w5.heap.size 53 4 (.slice (some ⟨gt, 0, none⟩) N ct) N (lcells (nx c1 S (Q0 ++ (x.take (k + 1)).filter (difB TA x))))) := Lib.hid (by
                    rw [HQ2.out]
                    have h9 := HO.out
                    rw [hmx2, List.take_length] at h9
                    exact h9)
                  have hmI : ¬ (m : Int) < (x.length : Int) := by omega
                  clear e9 HO
                  go_wp2_with fail
                  go_roundw
                  case rel => exact ⟨k + 1, hk1, by go_num, HO2, kx⟩
                  case measure => simp [intOf]; omega
            · have hkx : k = x.length := by omega
              have HO2 : Hid (wr.ownsRow w5.heap.size 53 4 (.slice (some ⟨gt, 0, none⟩) N ct) N (lcells (nx c1 S (qs TA (G.take (j + 1)))))) := Lib.hid (by
                rw [HQn.out]
                have h9 := HO.out
                rw [hkx, List.take_length] at h9
                exact h9)
              have hkI : ¬ (k : Int) < (x.length : Int) := by omega
              clear e9 HO
              go_wp2_with fail
              go_roundw
              case rel => exact ⟨j + 1, by omega, by go_num, HO2, kx⟩
              case measure => simp [intOf]; omega
        · have hjl : j = G.length := by omega
          have HOf : Hid (wr.ownsRow w.heap.size 53 4 (.slice (some ⟨gt, 0, none⟩) N ct) N (lcells R)) := Lib.hid (by
            rw [← HR.out]
            have h9 := HO.out
            rw [hjl, List.take_length] at h9
            exact Cs.row_base (ksz (ktr hb0 (ktr HK2.out HK5.out))) h9)
          have hkf := ktr hb0 (ktr HK2.out (ktr HK5.out kx))
          have hjI : ¬ (j : Int) < (G.length : Int) := by omega
          clear HO
          go_wp2_with fail
          go_ret
          exact ⟨_, _, rfl, HOf.out, hkf⟩

set_option maxRecDepth 100000 in
set_option maxHeartbeats 32000000 in
theorem round2_s (A : Option Addr) (c N : Nat) (L : List En) (base gB cB : Nat) (S : List Lb4) (w : World) (h : RdE w A L) (hn : L.length = N) (hm : N ≤ 8) (hv : w.ownsRow base 53 4 (.slice (some ⟨gB, 0, none⟩) N cB) N (lcells S)) (hz : ∀ x ∈ L, x.sz ≤ 1048576) (hok : ∀ x ∈ L, okE x = true) (hw : okS S) :
    Calls Tryz.prog 57 #[.agg #[.slice A N c], .slice (some ⟨gB, 0, none⟩) N cB, .int .i64 2] w fun e w' => ∃ g c', e = .returned (.slice (some ⟨g, 0, none⟩) N c') ∧ w'.ownsRow w.heap.size 53 4 (.slice (some ⟨g, 0, none⟩) N c') N (lcells (rnd c2 L S)) ∧ Kp w w' := by
  obtain ⟨i0, hi, hz0, hz1, hz2⟩ := Lbr.info_parts infoLab
  have hSl : S.length = N := by have := hv.1; rw [lcells_len] at this; omega
  have hb0 : Kp w (w.alloc (.cells #[.slice A N c] 33)) := kal (kre _) _
  have hc0 := (box1 w (.slice A N c) 33).1
  have hs0 : w.heap.size < (w.alloc (.cells #[.slice A N c] 33)).heap.size := by simp
  obtain ⟨TB, hTB⟩ : ∃ T, txs L S = T := ⟨_, rfl⟩
  obtain ⟨G, hG⟩ : ∃ G, groups TB = G := ⟨_, rfl⟩
  obtain ⟨TA, hTA⟩ : ∃ T, txs L (nx c2 S G.flatten) = T := ⟨_, rfl⟩
  have HR : Hid (nx c2 S (qs TA G) = rnd c2 L S) := Lib.hid (by rw [← hTA, ← hG, ← hTB]; exact nx_rnd hn hSl)
  have hTBl : TB.length = N := by rw [← hTB]; exact txs_len hn hSl
  have hTAl : TA.length = N := by rw [← hTA]; exact txs_len hn (by rw [nx_len]; exact hSl)
  have HT1 := Lib.hid (fun W (k : Kp w W) => texts_s A c N L (some ⟨gB, 0, none⟩) cB S W (h.below k) hn hm (own_rd (own_kp hv k)) hSl hz hok hw)
  have HT2 := Lib.hid (fun B c' W (k : Kp w W) (hM : RdL W B (nx c2 S G.flatten)) => texts_s A c N L B c' (nx c2 S G.flatten) W (h.below k) hn hm hM (by rw [nx_len]; exact hSl) hz hok (okS_nx _ wrt_c2 hw))
  have HGs := Lib.hid (fun A' c' W (hr : RdS W A' TB) => groups_s A' c' N TB W hr hTBl hm)
  have HGb : Hid (∀ j x, G[j]? = some x → ∀ a ∈ x, a < N) := Lib.hid (fun j x hx a ha => by
    have := groups_lt (T := TB) (x := x) (by rw [hG]; exact List.mem_of_getElem? hx) a ha
    omega)
  have HGn : Hid (G.length ≤ 8) := Lib.hid (by
    rw [← hG]
    unfold groups
    rw [List.length_map]
    exact Nat.le_trans (Nat.le_trans (List.length_filter_le _ _) (by rw [List.length_range]; exact Nat.le_refl _)) (by omega))
  have HXn : Hid (∀ (j : Nat) (x : List Nat), G[j]? = some x → x.length ≤ 8) := Lib.hid (fun j x hx => by
    obtain ⟨i, _, _, rfl⟩ := mem_groups.1 (show x ∈ groups TB by rw [hG]; exact List.mem_of_getElem? hx)
    unfold grp
    exact Nat.le_trans (Nat.le_trans (List.length_filter_le _ _) (by rw [List.length_range]; exact Nat.le_refl _)) (by omega))
  have HV := Lib.hid (fun W (k : Kp w W) => own_kp hv k)
  have HSl := Lib.hid hSl
  have HTBl := Lib.hid hTBl
  have HTAl := Lib.hid hTAl
  unfold TxP at HT1 HT2
  rw [hTB, hTBl] at HT1
  rw [hTA, hTAl] at HT2
  rw [hG] at HGs
  generalize rnd c2 L S = R at *
  clear h hn hv hz hok hw hSl hTBl hTAl hTB hG hTA
  go_enter Tryz.func57, Tryz.ntmps57
  go_wp2_with fail
  generalize w.alloc (.cells #[.slice A N c] 33) = w0 at hb0 hc0 hs0 ⊢
  have HC : Hid (∀ W, Kp w0 W → W.cell? ⟨w.heap.size, 0, none⟩ = some (.slice A N c)) := Lib.hid (fun W h => (h.cell (p := ⟨w.heap.size, 0, none⟩) hs0).trans hc0)
  clear hc0
  refine (HT1.out w0 hb0).mono ?_
  rintro e w1 ⟨v1, rfl, o1, b1⟩
  obtain ⟨A6, c6, hv1, -, r6, -⟩ := own_rds o1
  subst hv1
  have k1 : Kp w0 w1 := b1
  clear o1 b1 HT1
  go_wp2_with fail
  refine (HGs.out A6 c6 w1 r6).mono ?_
  rintro e w2 ⟨v8, rfl, g8, b2⟩
  obtain ⟨A8, c8, hv8, hr8⟩ := g8.rd
  subst hv8
  have k2 : Kp w0 w2 := ktr k1 b2
  have HR8 := Lib.hid (fun W (kk : Kp w2 W) => hr8.below kk)
  have hov := HV.out w2 (ktr hb0 k2)
  have ho0 := empty_row w2 w2.heap.size (Nat.le_refl _)
  have hb9 : Kp w2 (w2.alloc (.cells #[] 53)) := kal (kre _) _
  have HCs : Hid (∀ (W : World), Kp w2 W → ∀ j u, (lcells S)[j]? = some u → W.cell? ((⟨gB, 0, none⟩ : Addr).add j) = some u) := Lib.hid (fun W kk j u hu => by
    have hj := (List.getElem?_eq_some_iff.1 hu).1
    have h1 := World.ownsRow.cellAt (own_kp hov kk) j (by have := hov.1; omega)
    rw [hu] at h1
    rw [Go.WideShapes.add_plain, Nat.zero_add]
    exact h1)
  have HLl : Hid ((lcells S).length = N * 4) := Lib.hid hov.1
  have HOn := Lib.hid (lcells_one S)
  have HK2 := Lib.hid k2
  clear r6 g8 hr8 b2 k1 k2 HGs hov
  go_wp2_with (first
    | (at_builtin; refine wpList_append_own _ rfl _ _ 35 rfl w2.heap.size 53 i0 _ 4 40 Tryz.underlying35 hi hz0 hz1 hz2 rfl (by decide) _ 0 _ rfl ho0 ⟨gB, 0, none⟩ N cB (lcells S) rfl HLl.out (HCs.out _ hb9) HOn.out (by unfold maxLen; omega) (by omega) (by simp) ?_; intro v9 w3 hown' hgrow hnn; obtain ⟨gn, cn, rfl⟩ := some_form hown' (fun e => by have := (hnn.1 e).1; cases this))
    | go_in)
  have k3 : Kp w2 w3 := kgr hb9 hgrow (fun j hj => (ho0.lt j hj).1)
  have HO3 : Hid (w3.ownsRow w2.heap.size 53 4 (.slice (some ⟨gn, 0, none⟩) N cn) N (lcells (nx c2 S (G.take 0).flatten))) := Lib.hid (by
    rw [List.take_zero, List.flatten_nil, nx_nil]
    rw [show lcells [] = [] from rfl, List.nil_append, Nat.zero_add] at hown'
    exact hown')
  clear hown' hgrow hnn ho0 hb9
  go_loopw [10] (fun ji wx => ∃ j : Nat, j ≤ G.length ∧ ji = .int .i64 j ∧ Hid (wx.ownsRow w2.heap.size 53 4 (.slice (some ⟨gn, 0, none⟩) N cn) N (lcells (nx c2 S (G.take j).flatten))) ∧ Kp w2 wx) (fun ji _ => G.length - (intOf ji).toNat)
  case atStart => exact ⟨0, Nat.zero_le _, rfl, HO3, k3⟩
  case round =>
    obtain ⟨j, hj, rfl, HO, kx⟩ := hrel
    by_cases hlt : j < G.length
    · obtain ⟨x, hx⟩ : ∃ x, G[j]? = some x := ⟨_, List.getElem?_eq_getElem hlt⟩
      have hjI : (j : Int) < (G.length : Int) := by omega
      have hx8 := HXn.out j x hx
      have hG8 := HGn.out
      have hj0 : (0 : Int) ≤ (j : Int) := by omega
      go_wp2_with fail
      rename World => wo
      go_loopw [11] (fun ki wx => ∃ k : Nat, k ≤ x.length ∧ ki = .int .i64 k ∧ Hid (wx.ownsRow w2.heap.size 53 4 (.slice (some ⟨gn, 0, none⟩) N cn) N (lcells (nx c2 S ((G.take j).flatten ++ x.take k)))) ∧ Kp w2 wx) (fun ki _ => x.length - (intOf ki).toNat)
      case atStart => exact ⟨0, Nat.zero_le _, rfl, Lib.hid (by rw [List.take_zero, List.append_nil]; exact HO.out), kx⟩
      case round =>
        clear HO kx
        obtain ⟨k, hk, rfl, HO, kx⟩ := hrel
        obtain ⟨g8, o8, gi, cx, rfl, hg8, hgi, e8, e9⟩ := (HR8.out _ kx) j x hx
        by_cases hlk : k < x.length
        · have hex : ∃ a, x[k]? = some a := ⟨_, List.getElem?_eq_getElem hlk⟩
          obtain ⟨a, hxa⟩ := hex
          have ha : a < N := HGb.out j x hx a (List.mem_of_getElem? hxa)
          have ea := e9 k a hxa
          clear e9
          have hex : ∃ s, S[a]? = some s := ⟨_, List.getElem?_eq_getElem (by rw [HSl.out]; exact ha)⟩
          obtain ⟨s, hs⟩ := hex
          obtain ⟨P, hP⟩ : ∃ P, (G.take j).flatten ++ x.take k = P := ⟨_, rfl⟩
          have HPn : Hid ((G.take j).flatten ++ x.take (k + 1) = P ++ [a]) := Lib.hid (by rw [List.take_add_one, hxa, ← hP, List.append_assoc]; rfl)
          rw [hP] at HO
          have hex : ∃ y, (nx c2 S P)[a]? = some y ∧ c2 y = c2 s := ⟨_, nx_at hs, by split <;> rfl⟩
          obtain ⟨y, hy, hyc⟩ := hex
          obtain ⟨gn', on', en, hgn, y0, y1, y2, y3⟩ := (own_rd HO.out) a y hy
          have e1 : gn' = gn ∧ on' = 0 := by cases en; exact ⟨rfl, rfl⟩
          rw [e1.1, e1.2, Nat.zero_add] at y0 y1 y2 y3
          rw [e1.1] at hgn
          have hkI : (k : Int) < (x.length : Int) := by omega
          have hk0 : (0 : Int) ≤ (k : Int) := by omega
          have haI : (a : Int) < (N : Int) := by omega
          have ha0 : (0 : Int) ≤ (a : Int) := by omega
          obtain ⟨yk, yn, yd, yt⟩ := y
          dsimp only at y0 y1 y2 y3
          clear hP en e1
          have HXa := Lib.hid hxa
          have HS' := Lib.hid hs
          have HY := Lib.hid hy
          have HYc := Lib.hid hyc
          clear hxa hs hy hyc
          have hX0 : Kp wr (wr.alloc (.cells #[.string yk, .int .i64 yn, .int .i64 2, .int .i64 yt] 53)) := kal (kre _) _
          have q0 : (wr.alloc (.cells #[.string yk, .int .i64 yn, .int .i64 2, .int .i64 yt] 53)).cell? ⟨wr.heap.size, 0, none⟩ = some (.string yk) := by simp
          have q1 : (wr.alloc (.cells #[.string yk, .int .i64 yn, .int .i64 2, .int .i64 yt] 53)).cell? ⟨wr.heap.size, 1, none⟩ = some (.int .i64 yn) := by simp
          have q2 : (wr.alloc (.cells #[.string yk, .int .i64 yn, .int .i64 2, .int .i64 yt] 53)).cell? ⟨wr.heap.size, 2, none⟩ = some (.int .i64 2) := by simp
          have q3 : (wr.alloc (.cells #[.string yk, .int .i64 yn, .int .i64 2, .int .i64 yt] 53)).cell? ⟨wr.heap.size, 3, none⟩ = some (.int .i64 yt) := by simp
          go_upto_region 14 with fail
          generalize hWb : wr.alloc (.cells #[.string yk, .int .i64 yn, .int .i64 2, .int .i64 yt] 53) = wb at hX0 q0 q1 q2 q3 ⊢
          clear hWb
          have kb := ktr kx hX0
          have hob := own_kp HO.out hX0
          have d8 := (hX0.cell (p := ⟨g8, o8 + j, none⟩) hg8).trans e8
          have da := (hX0.cell (p := ⟨gi, k, none⟩) hgi).trans ea
          have d8' : wb.drew.cell? ⟨g8, o8 + j, none⟩ = _ := d8
          have da' : wb.drew.cell? ⟨gi, k, none⟩ = _ := da
          have q0' : wb.drew.cell? ⟨wr.heap.size, 0, none⟩ = _ := q0
          have q1' : wb.drew.cell? ⟨wr.heap.size, 1, none⟩ = _ := q1
          have q2' : wb.drew.cell? ⟨wr.heap.size, 2, none⟩ = _ := q2
          have q3' : wb.drew.cell? ⟨wr.heap.size, 3, none⟩ = _ := q3
          have hpl : (lcells (nx c2 S P)).length = N * 4 := by rw [lcells_len, nx_len, HSl.out]
          have f0 := World.ownsRow.frozenAt hob (a * 4)
          have f1 := World.ownsRow.frozenAt hob (a * 4 + 1)
          have f2 := World.ownsRow.frozenAt hob (a * 4 + 2)
          have f3 := World.ownsRow.frozenAt hob (a * 4 + 3)
          obtain ⟨z0, v0⟩ : ∃ u, wb.cell? ⟨gn, a * 4, none⟩ = some u := by rw [World.ownsRow.cellAt hob (a * 4) (by omega)]; exact ⟨_, List.getElem?_eq_getElem (by omega)⟩
          obtain ⟨z1, v1⟩ : ∃ u, wb.cell? ⟨gn, a * 4 + 1, none⟩ = some u := by rw [World.ownsRow.cellAt hob (a * 4 + 1) (by omega)]; exact ⟨_, List.getElem?_eq_getElem (by omega)⟩
          obtain ⟨z2, v2⟩ : ∃ u, wb.cell? ⟨gn, a * 4 + 2, none⟩ = some u := by rw [World.ownsRow.cellAt hob (a * 4 + 2) (by omega)]; exact ⟨_, List.getElem?_eq_getElem (by omega)⟩
          obtain ⟨z3, v3⟩ : ∃ u, wb.cell? ⟨gn, a * 4 + 3, none⟩ = some u := by rw [World.ownsRow.cellAt hob (a * 4 + 3) (by omega)]; exact ⟨_, List.getElem?_eq_getElem (by omega)⟩
          have s1 := hob.stored (a * 4) (.string yk)
          have s2 := s1.1.stored (a * 4 + 1) (.int .i64 yn)
          have s3 := s2.1.stored (a * 4 + 2) (.int .i64 2)
          have s4 := s3.1.stored (a * 4 + 3) (.int .i64 yt)
          have hset := lcells_set (L := nx c2 S P) (k := a) (c2 ⟨yk, yn, yd, yt⟩) (by rw [nx_len, HSl.out]; exact ha)
          rw [HYc.out, nx_set HS'.out, ← HYc.out] at hset
          have HS4 := Lib.hid s4.1
          have hset2 : ((((lcells (nx c2 S P)).set (a * 4) (.string yk)).set (a * 4 + 1) (.int .i64 yn)).set (a * 4 + 2) (.int .i64 2)).set (a * 4 + 3) (.int .i64 yt) = lcells (nx c2 S (P ++ [a])) := hset
          rw [hset2] at HS4
          have hrow : ∀ j, (Value.slice (some ⟨gn, 0, none⟩) N cn).ownBlock = some j → w2.heap.size ≤ j := fun j hj => (hob.lt j hj).1
          have HK9 := Lib.hid (kgr (kgr (kgr (kgr kb s1.2 hrow) s2.2 hrow) s3.2 hrow) s4.2 hrow)
          clear s1 s2 s3 s4 hset hset2 hob hpl hrow y0 y1 y2 y3 hX0 kx HO e8 ea HY HYc HS' kb
          have f0w : wb.drew.frozen? ⟨gn, a * 4, none⟩ = false := f0
          have f1w : wb.drew.frozen? ⟨gn, a * 4 + 1, none⟩ = false := f1
          have f2w : wb.drew.frozen? ⟨gn, a * 4 + 2, none⟩ = false := f2
          have f3w : wb.drew.frozen? ⟨gn, a * 4 + 3, none⟩ = false := f3
          have v0w : wb.drew.cell? ⟨gn, a * 4, none⟩ = some z0 := v0
          have v1w : wb.drew.cell? ⟨gn, a * 4 + 1, none⟩ = some z1 := v1
          have v2w : wb.drew.cell? ⟨gn, a * 4 + 2, none⟩ = some z2 := v2
          have v3w : wb.drew.cell? ⟨gn, a * 4 + 3, none⟩ = some z3 := v3
          have HS5 := Lib.hid (own_kp HS4.out (kdr (kre _)))
          have HK5 := Lib.hid (kdr HK9.out)
          clear HS4 HK9
          have hk1 : k + 1 ≤ x.length := hlk
          go_region_with (fail)
          all_goals go_wp2_with fail
          all_goals go_roundw
          all_goals first
            | exact ⟨k + 1, hk1, by go_num, Lib.hid (by rw [HPn.out]; exact HS5.out), HK5.out⟩
            | (simp [intOf]; omega)
        · have hkx : k = x.length := by omega
          have HE : Hid ((G.take j).flatten ++ x.take k = (G.take (j + 1)).flatten) := Lib.hid (by rw [hkx, List.take_length, List.take_add_one, hx, Option.toList_some, List.flatten_append, List.flatten_singleton])
          have HO2 := HO.out
          rw [HE.out] at HO2
          have hkI : ¬ (k : Int) < (x.length : Int) := by omega
          clear e9 HO
          go_wp2_with fail
          go_roundw
          case rel => exact ⟨j + 1, by omega, by go_num, Lib.hid HO2, kx⟩
          case measure => simp [intOf]; omega
    · have hjl : j = G.length := by omega
      subst hjl
      have HO2 := HO.out
      rw [List.take_length] at HO2
      have HNx := Lib.hid HO2
      have hcw := HC.out _ (ktr HK2.out kx)
      clear HO HO2
      go_wp2_with fail
      refine (HT2.out _ _ _ (ktr hb0 (ktr HK2.out kx)) (own_rd HNx.out)).mono ?_
      rintro e w5 ⟨v5, rfl, o5, b5⟩
      obtain ⟨A7, c7, hv5, -, -, -⟩ := own_rds o5
      subst hv5
      have k5 : Kp w2 w5 := ktr kx b5
      have HTA5 := Lib.hid (fun W (kk : Kp w5 W) => rds_kp (show RdS w5 A7 TA from by obtain ⟨_, _, e7, -, r7, -⟩ := own_rds o5; cases e7; exact r7) kk)
      have HNx5 := Lib.hid (fun W (kk : Kp w5 W) => own_rd (own_kp HNx.out (ktr b5 kk)))
      have ho0 := empty_row w5 w5.heap.size (Nat.le_refl _)
      have hb9 : Kp w5 (w5.alloc (.cells #[] 53)) := kal (kre _) _
      have HK5 := Lib.hid k5
      clear o5 b5 HT2 HNx kx k3 HO3
      go_wp2_with (first
        | (at_builtin; refine wpList_append_own _ rfl _ _ 35 rfl w5.heap.size 53 i0 _ 4 40 Tryz.underlying35 hi hz0 hz1 hz2 rfl (by decide) _ 0 _ rfl ho0 ⟨gB, 0, none⟩ N cB (lcells S) rfl HLl.out (HCs.out _ (ktr HK5.out hb9)) HOn.out (by unfold maxLen; omega) (by omega) (by simp) ?_; intro v14 w6 hown' hgrow hnn; obtain ⟨gt, ct, rfl⟩ := some_form hown' (fun e => by have := (hnn.1 e).1; cases this))
        | go_in)
      have k6 : Kp w5 w6 := kgr hb9 hgrow (fun j hj => (ho0.lt j hj).1)
      have HO6 : Hid (w6.ownsRow w5.heap.size 53 4 (.slice (some ⟨gt, 0, none⟩) N ct) N (lcells (nx c2 S (qs TA (G.take 0))))) := Lib.hid (by
        rw [List.take_zero, show qs TA [] = [] from rfl, nx_nil]
        rw [show lcells [] = [] from rfl, List.nil_append, Nat.zero_add] at hown'
        exact hown')
      have hG8 := HGn.out
      clear hown' hgrow hnn ho0 hb9
      go_loopw [15] (fun ji wx => ∃ j : Nat, j ≤ G.length ∧ ji = .int .i64 j ∧ Hid (wx.ownsRow w5.heap.size 53 4 (.slice (some ⟨gt, 0, none⟩) N ct) N (lcells (nx c2 S (qs TA (G.take j))))) ∧ Kp w5 wx) (fun ji _ => G.length - (intOf ji).toNat)
      case atStart => exact ⟨0, Nat.zero_le _, rfl, HO6, k6⟩
      case round =>
        clear k6 HO6
        obtain ⟨j, hj, rfl, HO, kx⟩ := hrel
        by_cases hlt : j < G.length
        · obtain ⟨x, hx⟩ : ∃ x, G[j]? = some x := ⟨_, List.getElem?_eq_getElem hlt⟩
          have hjI : (j : Int) < (G.length : Int) := by omega
          have hj0 : (0 : Int) ≤ (j : Int) := by omega
          have hx8 := HXn.out j x hx
          obtain ⟨Q0, hQ0⟩ : ∃ Q, qs TA (G.take j) = Q := ⟨_, rfl⟩
          have HQn : Hid (qs TA (G.take (j + 1)) = Q0 ++ x.filter (difB TA x)) := Lib.hid (by
            rw [← hQ0, List.take_add_one, hx, Option.toList_some]
            unfold qs
            rw [List.flatMap_append, List.flatMap_singleton])
          rw [hQ0] at HO
          have HOq := HO
          clear hQ0 HO
          go_wp2_with fail
          rename World => wo
          go_loopw [16] (fun ki wx => ∃ k : Nat, k ≤ x.length ∧ ki = .int .i64 k ∧ Hid (wx.ownsRow w5.heap.size 53 4 (.slice (some ⟨gt, 0, none⟩) N ct) N (lcells (nx c2 S (Q0 ++ (x.take k).filter (difB TA x))))) ∧ Kp w5 wx) (fun ki _ => x.length - (intOf ki).toNat)
          case atStart => exact ⟨0, Nat.zero_le _, rfl, Lib.hid (by rw [List.take_zero, List.filter_nil, List.append_nil]; exact HOq.out), kx⟩
          case round =>
            clear HOq kx
            obtain ⟨k, hk, rfl, HO, kx⟩ := hrel
            obtain ⟨g8, o8, gi, cx, rfl, hg8, hgi, e8, e9⟩ := (HR8.out _ (ktr HK5.out kx)) j x hx
            by_cases hlk : k < x.length
            · have hex : ∃ a, x[k]? = some a := ⟨_, List.getElem?_eq_getElem hlk⟩
              obtain ⟨a, hxa⟩ := hex
              have ha : a < N := HGb.out j x hx a (List.mem_of_getElem? hxa)
              have ea := e9 k a hxa
              clear e9
              have hex : ∃ s, S[a]? = some s := ⟨_, List.getElem?_eq_getElem (by rw [HSl.out]; exact ha)⟩
              obtain ⟨s, hs⟩ := hex
              have hex : ∃ t, TA[a]? = some t := ⟨_, List.getElem?_eq_getElem (by rw [HTAl.out]; exact ha)⟩
              obtain ⟨ta, hta⟩ := hex
              obtain ⟨Q1, hQ1⟩ : ∃ Q, Q0 ++ (x.take k).filter (difB TA x) = Q := ⟨_, rfl⟩
              have HQ2 : Hid (Q0 ++ (x.take (k + 1)).filter (difB TA x) = Q1 ++ (if difB TA x a then [a] else [])) := Lib.hid (by
                rw [List.take_add_one, hxa, Option.toList_some, List.filter_append, ← List.append_assoc, hQ1]
                congr 1
                cases h9 : difB TA x a <;> simp [h9])
              have HNa : Hid ((nx c2 S G.flatten)[a]? = some (c2 s)) := Lib.hid (by
                rw [nx_at hs, if_pos (List.mem_flatten.2 ⟨x, List.mem_of_getElem? hx, List.mem_of_getElem? hxa⟩)])
              rw [hQ1] at HO
              have HOk := HO
              have HSs := Lib.hid hs
              have HTa := Lib.hid hta
              have hkI : (k : Int) < (x.length : Int) := by omega
              have hk0 : (0 : Int) ≤ (k : Int) := by omega
              have haI : (a : Int) < (N : Int) := by omega
              have ha0 : (0 : Int) ≤ (a : Int) := by omega
              have hk1 : k + 1 ≤ x.length := hlk
              clear hs hta hQ1 hxa HO
              go_wp2_with fail
              rename World => wp
              go_loopw [18] (fun mi wx => ∃ m : Nat, m ≤ x.length ∧ mi = .int .i64 m ∧ Hid (wx.ownsRow w5.heap.size 53 4 (.slice (some ⟨gt, 0, none⟩) N ct) N (lcells (nx c2 S (Q1 ++ (if (x.take m).any (fun b => decide (TA[b]? ≠ TA[a]?)) then [a] else []))))) ∧ Kp w5 wx) (fun mi _ => x.length - (intOf mi).toNat)
              case atStart => exact ⟨0, Nat.zero_le _, rfl, Lib.hid (by rw [List.take_zero, List.any_nil]; simpa using HOk.out), kx⟩
              case round =>
                clear HOk kx e8 ea hg8 hgi
                obtain ⟨m, hmx, rfl, HO, kx⟩ := hrel
                obtain ⟨_, _, gi', cx', e0, hg8, hgi, e8, e9⟩ := (HR8.out _ (ktr HK5.out kx)) j x hx
                cases e0
                by_cases hlm : m < x.length
                · have hex : ∃ b, x[m]? = some b := ⟨_, List.getElem?_eq_getElem hlm⟩
                  obtain ⟨b, hxb⟩ := hex
                  have hb : b < N := HGb.out j x hx b (List.mem_of_getElem? hxb)
                  have eb := e9 m b hxb
                  clear e9
                  have hex : ∃ t, TA[b]? = some t := ⟨_, List.getElem?_eq_getElem (by rw [HTAl.out]; exact hb)⟩
                  obtain ⟨tb, htb⟩ := hex
                  obtain ⟨g7, o7, rfl, xb⟩ := HTA5.out _ kx b tb htb
                  obtain ⟨_, _, e0, xa⟩ := HTA5.out _ kx a ta HTa.out
                  cases e0
                  have hmI : (m : Int) < (x.length : Int) := by omega
                  have hm0 : (0 : Int) ≤ (m : Int) := by omega
                  have hbI : (b : Int) < (N : Int) := by omega
                  have hb0' : (0 : Int) ≤ (b : Int) := by omega
                  have hm1 : m + 1 ≤ x.length := hlm
                  have HAn : Hid ((x.take (m + 1)).any (fun b => decide (TA[b]? ≠ TA[a]?)) = ((x.take m).any (fun b => decide (TA[b]? ≠ TA[a]?)) || decide (TA[b]? ≠ TA[a]?))) := Lib.hid (by
                    rw [List.take_add_one, hxb, Option.toList_some, List.any_append]
                    simp)
                  obtain ⟨y0, y1, y2, y3⟩ : ∃ y0 y1 y2 y3, y0 = () ∧ y1 = () ∧ y2 = () ∧ y3 = () := ⟨(), (), (), (), rfl, rfl, rfl, rfl⟩
                  clear y0 y1 y2 y3 hxb
                  by_cases e1 : tb = ta
                  · have hq := (show (tb.toList == ta.toList) = true by rw [e1]; simp)
                    have HE : Hid ((x.take (m + 1)).any (fun b => decide (TA[b]? ≠ TA[a]?)) = (x.take m).any (fun b => decide (TA[b]? ≠ TA[a]?))) := Lib.hid (by rw [HAn.out, htb, HTa.out, e1]; simp)
                    have HOn' : Hid (wr.ownsRow w5.heap.size 53 4 (.slice (some ⟨gt, 0, none⟩) N ct) N (lcells (nx c2 S (Q1 ++ (if (x.take (m + 1)).any (fun b => decide (TA[b]? ≠ TA[a]?)) then [a] else []))))) := Lib.hid (by rw [HE.out]; exact HO.out)
                    clear e1 htb HO
                    go_wp2_with fail
                    go_quiet (fail)
                    go_wp2_with fail
                    go_roundw
                    case rel => exact ⟨m + 1, hm1, by go_num, Lib.hid (own_of_drewN HOn'.out _), kdn kx _⟩
                    case measure => simp [intOf]; omega
                  · have hq := ne_forms' e1
                    have HE : Hid ((x.take (m + 1)).any (fun b => decide (TA[b]? ≠ TA[a]?)) = true) := Lib.hid (by rw [HAn.out, htb, HTa.out, Bool.or_eq_true, decide_eq_true_eq]; exact .inr (fun h9 => e1 (Option.some.inj h9)))
                    clear e1 htb
                    go_wp2_with fail
                    go_quiet (fail)
                    generalize hWd : wr.drewN _ = wd
                    have kd : Kp wr wd := by rw [← hWd]; exact kdn (kre _) _
                    clear hWd
                    have ho := own_kp HO.out kd
                    obtain ⟨P', hP'⟩ : ∃ P, Q1 ++ (if (x.take m).any (fun b => decide (TA[b]? ≠ TA[a]?)) then [a] else []) = P := ⟨_, rfl⟩
                    rw [hP'] at ho
                    obtain ⟨y, hy⟩ : ∃ y, y = c2 s := ⟨_, rfl⟩
                    have hNa := HNa.out
                    rw [← hy] at hNa
                    obtain ⟨gn', on', en, hgn, y0, y1, y2, y3⟩ := (HNx5.out wd (ktr kx kd)) a y hNa
                    have e1 : gn' = gn ∧ on' = 0 := by cases en; exact ⟨rfl, rfl⟩
                    rw [e1.1, e1.2, Nat.zero_add] at y0 y1 y2 y3
                    have hpl : (lcells (nx c2 S P')).length = N * 4 := by rw [lcells_len, nx_len, HSl.out]
                    have f0 := World.ownsRow.frozenAt ho (a * 4)
                    have f1 := World.ownsRow.frozenAt ho (a * 4 + 1)
                    have f2 := World.ownsRow.frozenAt ho (a * 4 + 2)
                    have f3 := World.ownsRow.frozenAt ho (a * 4 + 3)
                    obtain ⟨z0, v0⟩ : ∃ u, wd.cell? ⟨gt, a * 4, none⟩ = some u := by rw [World.ownsRow.cellAt ho (a * 4) (by omega)]; exact ⟨_, List.getElem?_eq_getElem (by omega)⟩
                    obtain ⟨z1, v1⟩ : ∃ u, wd.cell? ⟨gt, a * 4 + 1, none⟩ = some u := by rw [World.ownsRow.cellAt ho (a * 4 + 1) (by omega)]; exact ⟨_, List.getElem?_eq_getElem (by omega)⟩
                    obtain ⟨z2, v2⟩ : ∃ u, wd.cell? ⟨gt, a * 4 + 2, none⟩ = some u := by rw [World.ownsRow.cellAt ho (a * 4 + 2) (by omega)]; exact ⟨_, List.getElem?_eq_getElem (by omega)⟩
                    obtain ⟨z3, v3⟩ : ∃ u, wd.cell? ⟨gt, a * 4 + 3, none⟩ = some u := by rw [World.ownsRow.cellAt ho (a * 4 + 3) (by omega)]; exact ⟨_, List.getElem?_eq_getElem (by omega)⟩
                    have s1 := ho.stored (a * 4) (.string y.k)
                    have s2 := s1.1.stored (a * 4 + 1) (.int .i64 y.n)
                    have s3 := s2.1.stored (a * 4 + 2) (.int .i64 y.d)
                    have s4 := s3.1.stored (a * 4 + 3) (.int .i64 y.t)
                    have hset := lcells_set (L := nx c2 S P') (k := a) y (by rw [nx_len, HSl.out]; exact ha)
                    have hcg : nx c2 S (P' ++ [a]) = nx c2 S (Q1 ++ [a]) := nx_congr (fun i => by
                      rw [← hP']
                      simp only [List.mem_append, List.mem_singleton]
                      constructor
                      · rintro ((h9 | h9) | h9)
                        · exact .inl h9
                        · split at h9
                          · exact .inr (List.mem_singleton.1 h9)
                          · cases h9
                        · exact .inr h9
                      · rintro (h9 | h9)
                        · exact .inl (.inl h9)
                        · exact .inr h9)
                    rw [hy, nx_set HSs.out, hcg, ← hy] at hset
                    have HS4 := Lib.hid s4.1
                    rw [hset] at HS4
                    have hrow : ∀ j, (Value.slice (some ⟨gt, 0, none⟩) N ct).ownBlock = some j → w5.heap.size ≤ j := fun j hj => (ho.lt j hj).1
                    have HK9 := Lib.hid (kgr (kgr (kgr (kgr (ktr kx kd) s1.2 hrow) s2.2 hrow) s3.2 hrow) s4.2 hrow)
                    have HEq : Hid ((if (x.take (m + 1)).any (fun b => decide (TA[b]? ≠ TA[a]?)) = true then [a] else []) = [a]) := Lib.hid (if_pos HE.out)
                    obtain ⟨yk, yn, yd, yt⟩ := y
                    dsimp only at y0 y1 y2 y3 HS4 HK9
                    clear s1 s2 s3 s4 hset hcg ho hpl hrow hy hNa en e1 hP' kd kx HO HE xa xb eb e8
                    go_wp2_with fail
                    go_roundw
                    case rel => exact ⟨m + 1, hm1, by go_num, Lib.hid (by rw [HEq.out]; exact HS4.out), HK9.out⟩
                    case measure => simp [intOf]; omega
                · have hmx2 : m = x.length := by omega
                  have HO2 : Hid (wr.ownsRow w5.heap.size 53 4 (.slice (some ⟨gt, 0, none⟩) N ct) N (lcells (nx c2 S (Q0 ++ (x.take (k + 1)).filter (difB TA x))))) := Lib.hid (by
                    rw [HQ2.out]
                    have h9 := HO.out
                    rw [hmx2, List.take_length] at h9
                    exact h9)
                  have hmI : ¬ (m : Int) < (x.length : Int) := by omega
                  clear e9 HO
                  go_wp2_with fail
                  go_roundw
                  case rel => exact ⟨k + 1, hk1, by go_num, HO2, kx⟩
                  case measure => simp [intOf]; omega
            · have hkx : k = x.length := by omega
              have HO2 : Hid (wr.ownsRow w5.heap.size 53 4 (.slice (some ⟨gt, 0, none⟩) N ct) N (lcells (nx c2 S (qs TA (G.take (j + 1)))))) := Lib.hid (by
                rw [HQn.out]
                have h9 := HO.out
                rw [hkx, List.take_length] at h9
                exact h9)
              have hkI : ¬ (k : Int) < (x.length : Int) := by omega
              clear e9 HO
              go_wp2_with fail
              go_roundw
              case rel => exact ⟨j + 1, by omega, by go_num, HO2, kx⟩
              case measure => simp [intOf]; omega
        · have hjl : j = G.length := by omega
          have HOf : Hid (wr.ownsRow w.heap.size 53 4 (.slice (some ⟨gt, 0, none⟩) N ct) N (lcells R)) := Lib.hid (by
            rw [← HR.out]
            have h9 := HO.out
            rw [hjl, List.take_length] at h9
            exact Cs.row_base (ksz (ktr hb0 (ktr HK2.out HK5.out))) h9)
          have hkf := ktr hb0 (ktr HK2.out (ktr HK5.out kx))
          have hjI : ¬ (j : Int) < (G.length : Int) := by omega
          clear HO
          go_wp2_with fail
          go_ret
          exact ⟨_, _, rfl, HOf.out, hkf⟩

set_option maxRecDepth 100000 in
set_option maxHeartbeats 32000000 in
theorem round3_s (A : Option Addr) (c N : Nat) (L : List En) (base gB cB : Nat) (S : List Lb4) (w : World) (h : RdE w A L) (hn : L.length = N) (hm : N ≤ 8) (hv : w.ownsRow base 53 4 (.slice (some ⟨gB, 0, none⟩) N cB) N (lcells S)) (hz : ∀ x ∈ L, x.sz ≤ 1048576) (hok : ∀ x ∈ L, okE x = true) (hw : okS S) :
    Calls Tryz.prog 57 #[.agg #[.slice A N c], .slice (some ⟨gB, 0, none⟩) N cB, .int .i64 3] w fun e w' => ∃ g c', e = .returned (.slice (some ⟨g, 0, none⟩) N c') ∧ w'.ownsRow w.heap.size 53 4 (.slice (some ⟨g, 0, none⟩) N c') N (lcells (rnd c3 L S)) ∧ Kp w w' := by
  obtain ⟨i0, hi, hz0, hz1, hz2⟩ := Lbr.info_parts infoLab
  have hSl : S.length = N := by have := hv.1; rw [lcells_len] at this; omega
  have hb0 : Kp w (w.alloc (.cells #[.slice A N c] 33)) := kal (kre _) _
  have hc0 := (box1 w (.slice A N c) 33).1
  have hs0 : w.heap.size < (w.alloc (.cells #[.slice A N c] 33)).heap.size := by simp
  obtain ⟨TB, hTB⟩ : ∃ T, txs L S = T := ⟨_, rfl⟩
  obtain ⟨G, hG⟩ : ∃ G, groups TB = G := ⟨_, rfl⟩
  obtain ⟨TA, hTA⟩ : ∃ T, txs L (nx c3 S G.flatten) = T := ⟨_, rfl⟩
  have HR : Hid (nx c3 S (qs TA G) = rnd c3 L S) := Lib.hid (by rw [← hTA, ← hG, ← hTB]; exact nx_rnd hn hSl)
  have hTBl : TB.length = N := by rw [← hTB]; exact txs_len hn hSl
  have hTAl : TA.length = N := by rw [← hTA]; exact txs_len hn (by rw [nx_len]; exact hSl)
  have HT1 := Lib.hid (fun W (k : Kp w W) => texts_s A c N L (some ⟨gB, 0, none⟩) cB S W (h.below k) hn hm (own_rd (own_kp hv k)) hSl hz hok hw)
  have HT2 := Lib.hid (fun B c' W (k : Kp w W) (hM : RdL W B (nx c3 S G.flatten)) => texts_s A c N L B c' (nx c3 S G.flatten) W (h.below k) hn hm hM (by rw [nx_len]; exact hSl) hz hok (okS_nx _ wrt_c3 hw))
  have HGs := Lib.hid (fun A' c' W (hr : RdS W A' TB) => groups_s A' c' N TB W hr hTBl hm)
  have HGb : Hid (∀ j x, G[j]? = some x → ∀ a ∈ x, a < N) := Lib.hid (fun j x hx a ha => by
    have := groups_lt (T := TB) (x := x) (by rw [hG]; exact List.mem_of_getElem? hx) a ha
    omega)
  have HGn : Hid (G.length ≤ 8) := Lib.hid (by
    rw [← hG]
    unfold groups
    rw [List.length_map]
    exact Nat.le_trans (Nat.le_trans (List.length_filter_le _ _) (by rw [List.length_range]; exact Nat.le_refl _)) (by omega))
  have HXn : Hid (∀ (j : Nat) (x : List Nat), G[j]? = some x → x.length ≤ 8) := Lib.hid (fun j x hx => by
    obtain ⟨i, _, _, rfl⟩ := mem_groups.1 (show x ∈ groups TB by rw [hG]; exact List.mem_of_getElem? hx)
    unfold grp
    exact Nat.le_trans (Nat.le_trans (List.length_filter_le _ _) (by rw [List.length_range]; exact Nat.le_refl _)) (by omega))
  have HV := Lib.hid (fun W (k : Kp w W) => own_kp hv k)
  have HSl := Lib.hid hSl
  have HTBl := Lib.hid hTBl
  have HTAl := Lib.hid hTAl
  unfold TxP at HT1 HT2
  rw [hTB, hTBl] at HT1
  rw [hTA, hTAl] at HT2
  rw [hG] at HGs
  generalize rnd c3 L S = R at *
  clear h hn hv hz hok hw hSl hTBl hTAl hTB hG hTA
  go_enter Tryz.func57, Tryz.ntmps57
  go_wp2_with fail
  generalize w.alloc (.cells #[.slice A N c] 33) = w0 at hb0 hc0 hs0 ⊢
  have HC : Hid (∀ W, Kp w0 W → W.cell? ⟨w.heap.size, 0, none⟩ = some (.slice A N c)) := Lib.hid (fun W h => (h.cell (p := ⟨w.heap.size, 0, none⟩) hs0).trans hc0)
  clear hc0
  refine (HT1.out w0 hb0).mono ?_
  rintro e w1 ⟨v1, rfl, o1, b1⟩
  obtain ⟨A6, c6, hv1, -, r6, -⟩ := own_rds o1
  subst hv1
  have k1 : Kp w0 w1 := b1
  clear o1 b1 HT1
  go_wp2_with fail
  refine (HGs.out A6 c6 w1 r6).mono ?_
  rintro e w2 ⟨v8, rfl, g8, b2⟩
  obtain ⟨A8, c8, hv8, hr8⟩ := g8.rd
  subst hv8
  have k2 : Kp w0 w2 := ktr k1 b2
  have HR8 := Lib.hid (fun W (kk : Kp w2 W) => hr8.below kk)
  have hov := HV.out w2 (ktr hb0 k2)
  have ho0 := empty_row w2 w2.heap.size (Nat.le_refl _)
  have hb9 : Kp w2 (w2.alloc (.cells #[] 53)) := kal (kre _) _
  have HCs : Hid (∀ (W : World), Kp w2 W → ∀ j u, (lcells S)[j]? = some u → W.cell? ((⟨gB, 0, none⟩ : Addr).add j) = some u) := Lib.hid (fun W kk j u hu => by
    have hj := (List.getElem?_eq_some_iff.1 hu).1
    have h1 := World.ownsRow.cellAt (own_kp hov kk) j (by have := hov.1; omega)
    rw [hu] at h1
    rw [Go.WideShapes.add_plain, Nat.zero_add]
    exact h1)
  have HLl : Hid ((lcells S).length = N * 4) := Lib.hid hov.1
  have HOn := Lib.hid (lcells_one S)
  have HK2 := Lib.hid k2
  clear r6 g8 hr8 b2 k1 k2 HGs hov
  go_wp2_with (first
    | (at_builtin; refine wpList_append_own _ rfl _ _ 35 rfl w2.heap.size 53 i0 _ 4 40 Tryz.underlying35 hi hz0 hz1 hz2 rfl (by decide) _ 0 _ rfl ho0 ⟨gB, 0, none⟩ N cB (lcells S) rfl HLl.out (HCs.out _ hb9) HOn.out (by unfold maxLen; omega) (by omega) (by simp) ?_; intro v9 w3 hown' hgrow hnn; obtain ⟨gn, cn, rfl⟩ := some_form hown' (fun e => by have := (hnn.1 e).1; cases this))
    | go_in)
  have k3 : Kp w2 w3 := kgr hb9 hgrow (fun j hj => (ho0.lt j hj).1)
  have HO3 : Hid (w3.ownsRow w2.heap.size 53 4 (.slice (some ⟨gn, 0, none⟩) N cn) N (lcells (nx c3 S (G.take 0).flatten))) := Lib.hid (by
    rw [List.take_zero, List.flatten_nil, nx_nil]
    rw [show lcells [] = [] from rfl, List.nil_append, Nat.zero_add] at hown'
    exact hown')
  clear hown' hgrow hnn ho0 hb9
  go_loopw [10] (fun ji wx => ∃ j : Nat, j ≤ G.length ∧ ji = .int .i64 j ∧ Hid (wx.ownsRow w2.heap.size 53 4 (.slice (some ⟨gn, 0, none⟩) N cn) N (lcells (nx c3 S (G.take j).flatten))) ∧ Kp w2 wx) (fun ji _ => G.length - (intOf ji).toNat)
  case atStart => exact ⟨0, Nat.zero_le _, rfl, HO3, k3⟩
  case round =>
    obtain ⟨j, hj, rfl, HO, kx⟩ := hrel
    by_cases hlt : j < G.length
    · obtain ⟨x, hx⟩ : ∃ x, G[j]? = some x := ⟨_, List.getElem?_eq_getElem hlt⟩
      have hjI : (j : Int) < (G.length : Int) := by omega
      have hx8 := HXn.out j x hx
      have hG8 := HGn.out
      have hj0 : (0 : Int) ≤ (j : Int) := by omega
      go_wp2_with fail
      rename World => wo
      go_loopw [11] (fun ki wx => ∃ k : Nat, k ≤ x.length ∧ ki = .int .i64 k ∧ Hid (wx.ownsRow w2.heap.size 53 4 (.slice (some ⟨gn, 0, none⟩) N cn) N (lcells (nx c3 S ((G.take j).flatten ++ x.take k)))) ∧ Kp w2 wx) (fun ki _ => x.length - (intOf ki).toNat)
      case atStart => exact ⟨0, Nat.zero_le _, rfl, Lib.hid (by rw [List.take_zero, List.append_nil]; exact HO.out), kx⟩
      case round =>
        clear HO kx
        obtain ⟨k, hk, rfl, HO, kx⟩ := hrel
        obtain ⟨g8, o8, gi, cx, rfl, hg8, hgi, e8, e9⟩ := (HR8.out _ kx) j x hx
        by_cases hlk : k < x.length
        · have hex : ∃ a, x[k]? = some a := ⟨_, List.getElem?_eq_getElem hlk⟩
          obtain ⟨a, hxa⟩ := hex
          have ha : a < N := HGb.out j x hx a (List.mem_of_getElem? hxa)
          have ea := e9 k a hxa
          clear e9
          have hex : ∃ s, S[a]? = some s := ⟨_, List.getElem?_eq_getElem (by rw [HSl.out]; exact ha)⟩
          obtain ⟨s, hs⟩ := hex
          obtain ⟨P, hP⟩ : ∃ P, (G.take j).flatten ++ x.take k = P := ⟨_, rfl⟩
          have HPn : Hid ((G.take j).flatten ++ x.take (k + 1) = P ++ [a]) := Lib.hid (by rw [List.take_add_one, hxa, ← hP, List.append_assoc]; rfl)
          rw [hP] at HO
          have hex : ∃ y, (nx c3 S P)[a]? = some y ∧ c3 y = c3 s := ⟨_, nx_at hs, by split <;> rfl⟩
          obtain ⟨y, hy, hyc⟩ := hex
          obtain ⟨gn', on', en, hgn, y0, y1, y2, y3⟩ := (own_rd HO.out) a y hy
          have e1 : gn' = gn ∧ on' = 0 := by cases en; exact ⟨rfl, rfl⟩
          rw [e1.1, e1.2, Nat.zero_add] at y0 y1 y2 y3
          rw [e1.1] at hgn
          have hkI : (k : Int) < (x.length : Int) := by omega
          have hk0 : (0 : Int) ≤ (k : Int) := by omega
          have haI : (a : Int) < (N : Int) := by omega
          have ha0 : (0 : Int) ≤ (a : Int) := by omega
          obtain ⟨yk, yn, yd, yt⟩ := y
          dsimp only at y0 y1 y2 y3
          clear hP en e1
          have HXa := Lib.hid hxa
          have HS' := Lib.hid hs
          have HY := Lib.hid hy
          have HYc := Lib.hid hyc
          clear hxa hs hy hyc
          have hX0 : Kp wr (wr.alloc (.cells #[.string yk, .int .i64 yn, .int .i64 3, .int .i64 yt] 53)) := kal (kre _) _
          have q0 : (wr.alloc (.cells #[.string yk, .int .i64 yn, .int .i64 3, .int .i64 yt] 53)).cell? ⟨wr.heap.size, 0, none⟩ = some (.string yk) := by simp
          have q1 : (wr.alloc (.cells #[.string yk, .int .i64 yn, .int .i64 3, .int .i64 yt] 53)).cell? ⟨wr.heap.size, 1, none⟩ = some (.int .i64 yn) := by simp
          have q2 : (wr.alloc (.cells #[.string yk, .int .i64 yn, .int .i64 3, .int .i64 yt] 53)).cell? ⟨wr.heap.size, 2, none⟩ = some (.int .i64 3) := by simp
          have q3 : (wr.alloc (.cells #[.string yk, .int .i64 yn, .int .i64 3, .int .i64 yt] 53)).cell? ⟨wr.heap.size, 3, none⟩ = some (.int .i64 yt) := by simp
          go_upto_region 14 with fail
          generalize hWb : wr.alloc (.cells #[.string yk, .int .i64 yn, .int .i64 3, .int .i64 yt] 53) = wb at hX0 q0 q1 q2 q3 ⊢
          clear hWb
          have kb := ktr kx hX0
          have hob := own_kp HO.out hX0
          have d8 := (hX0.cell (p := ⟨g8, o8 + j, none⟩) hg8).trans e8
          have da := (hX0.cell (p := ⟨gi, k, none⟩) hgi).trans ea
          have d8' : wb.drew.cell? ⟨g8, o8 + j, none⟩ = _ := d8
          have da' : wb.drew.cell? ⟨gi, k, none⟩ = _ := da
          have q0' : wb.drew.cell? ⟨wr.heap.size, 0, none⟩ = _ := q0
          have q1' : wb.drew.cell? ⟨wr.heap.size, 1, none⟩ = _ := q1
          have q2' : wb.drew.cell? ⟨wr.heap.size, 2, none⟩ = _ := q2
          have q3' : wb.drew.cell? ⟨wr.heap.size, 3, none⟩ = _ := q3
          have hpl : (lcells (nx c3 S P)).length = N * 4 := by rw [lcells_len, nx_len, HSl.out]
          have f0 := World.ownsRow.frozenAt hob (a * 4)
          have f1 := World.ownsRow.frozenAt hob (a * 4 + 1)
          have f2 := World.ownsRow.frozenAt hob (a * 4 + 2)
          have f3 := World.ownsRow.frozenAt hob (a * 4 + 3)
          obtain ⟨z0, v0⟩ : ∃ u, wb.cell? ⟨gn, a * 4, none⟩ = some u := by rw [World.ownsRow.cellAt hob (a * 4) (by omega)]; exact ⟨_, List.getElem?_eq_getElem (by omega)⟩
          obtain ⟨z1, v1⟩ : ∃ u, wb.cell? ⟨gn, a * 4 + 1, none⟩ = some u := by rw [World.ownsRow.cellAt hob (a * 4 + 1) (by omega)]; exact ⟨_, List.getElem?_eq_getElem (by omega)⟩
          obtain ⟨z2, v2⟩ : ∃ u, wb.cell? ⟨gn, a * 4 + 2, none⟩ = some u := by rw [World.ownsRow.cellAt hob (a * 4 + 2) (by omega)]; exact ⟨_, List.getElem?_eq_getElem (by omega)⟩
          obtain ⟨z3, v3⟩ : ∃ u, wb.cell? ⟨gn, a * 4 + 3, none⟩ = some u := by rw [World.ownsRow.cellAt hob (a * 4 + 3) (by omega)]; exact ⟨_, List.getElem?_eq_getElem (by omega)⟩
          have s1 := hob.stored (a * 4) (.string yk)
          have s2 := s1.1.stored (a * 4 + 1) (.int .i64 yn)
          have s3 := s2.1.stored (a * 4 + 2) (.int .i64 3)
          have s4 := s3.1.stored (a * 4 + 3) (.int .i64 yt)
          have hset := lcells_set (L := nx c3 S P) (k := a) (c3 ⟨yk, yn, yd, yt⟩) (by rw [nx_len, HSl.out]; exact ha)
          rw [HYc.out, nx_set HS'.out, ← HYc.out] at hset
          have HS4 := Lib.hid s4.1
          have hset2 : ((((lcells (nx c3 S P)).set (a * 4) (.string yk)).set (a * 4 + 1) (.int .i64 yn)).set (a * 4 + 2) (.int .i64 3)).set (a * 4 + 3) (.int .i64 yt) = lcells (nx c3 S (P ++ [a])) := hset
          rw [hset2] at HS4
          have hrow : ∀ j, (Value.slice (some ⟨gn, 0, none⟩) N cn).ownBlock = some j → w2.heap.size ≤ j := fun j hj => (hob.lt j hj).1
          have HK9 := Lib.hid (kgr (kgr (kgr (kgr kb s1.2 hrow) s2.2 hrow) s3.2 hrow) s4.2 hrow)
          clear s1 s2 s3 s4 hset hset2 hob hpl hrow y0 y1 y2 y3 hX0 kx HO e8 ea HY HYc HS' kb
          have f0w : wb.drew.frozen? ⟨gn, a * 4, none⟩ = false := f0
          have f1w : wb.drew.frozen? ⟨gn, a * 4 + 1, none⟩ = false := f1
          have f2w : wb.drew.frozen? ⟨gn, a * 4 + 2, none⟩ = false := f2
          have f3w : wb.drew.frozen? ⟨gn, a * 4 + 3, none⟩ = false := f3
          have v0w : wb.drew.cell? ⟨gn, a * 4, none⟩ = some z0 := v0
          have v1w : wb.drew.cell? ⟨gn, a * 4 + 1, none⟩ = some z1 := v1
          have v2w : wb.drew.cell? ⟨gn, a * 4 + 2, none⟩ = some z2 := v2
          have v3w : wb.drew.cell? ⟨gn, a * 4 + 3, none⟩ = some z3 := v3
          have HS5 := Lib.hid (own_kp HS4.out (kdr (kre _)))
          have HK5 := Lib.hid (kdr HK9.out)
          clear HS4 HK9
          have hk1 : k + 1 ≤ x.length := hlk
          go_region_with (fail)
          all_goals go_wp2_with fail
          all_goals go_roundw
          all_goals first
            | exact ⟨k + 1, hk1, by go_num, Lib.hid (by rw [HPn.out]; exact HS5.out), HK5.out⟩
            | (simp [intOf]; omega)
        · have hkx : k = x.length := by omega
          have HE : Hid ((G.take j).flatten ++ x.take k = (G.take (j + 1)).flatten) := Lib.hid (by rw [hkx, List.take_length, List.take_add_one, hx, Option.toList_some, List.flatten_append, List.flatten_singleton])
          have HO2 := HO.out
          rw [HE.out] at HO2
          have hkI : ¬ (k : Int) < (x.length : Int) := by omega
          clear e9 HO
          go_wp2_with fail
          go_roundw
          case rel => exact ⟨j + 1, by omega, by go_num, Lib.hid HO2, kx⟩
          case measure => simp [intOf]; omega
    · have hjl : j = G.length := by omega
      subst hjl
      have HO2 := HO.out
      rw [List.take_length] at HO2
      have HNx := Lib.hid HO2
      have hcw := HC.out _ (ktr HK2.out kx)
      clear HO HO2
      go_wp2_with fail
      refine (HT2.out _ _ _ (ktr hb0 (ktr HK2.out kx)) (own_rd HNx.out)).mono ?_
      rintro e w5 ⟨v5, rfl, o5, b5⟩
      obtain ⟨A7, c7, hv5, -, -, -⟩ := own_rds o5
      subst hv5
      have k5 : Kp w2 w5 := ktr kx b5
      have HTA5 := Lib.hid (fun W (kk : Kp w5 W) => rds_kp (show RdS w5 A7 TA from by obtain ⟨_, _, e7, -, r7, -⟩ := own_rds o5; cases e7; exact r7) kk)
      have HNx5 := Lib.hid (fun W (kk : Kp w5 W) => own_rd (own_kp HNx.out (ktr b5 kk)))
      have ho0 := empty_row w5 w5.heap.size (Nat.le_refl _)
      have hb9 : Kp w5 (w5.alloc (.cells #[] 53)) := kal (kre _) _
      have HK5 := Lib.hid k5
      clear o5 b5 HT2 HNx kx k3 HO3
      go_wp2_with (first
        | (at_builtin; refine wpList_append_own _ rfl _ _ 35 rfl w5.heap.size 53 i0 _ 4 40 Tryz.underlying35 hi hz0 hz1 hz2 rfl (by decide) _ 0 _ rfl ho0 ⟨gB, 0, none⟩ N cB (lcells S) rfl HLl.out (HCs.out _ (ktr HK5.out hb9)) HOn.out (by unfold maxLen; omega) (by omega) (by simp) ?_; intro v14 w6 hown' hgrow hnn; obtain ⟨gt, ct, rfl⟩ := some_form hown' (fun e => by have := (hnn.1 e).1; cases this))
        | go_in)
      have k6 : Kp w5 w6 := kgr hb9 hgrow (fun j hj => (ho0.lt j hj).1)
      have HO6 : Hid (w6.ownsRow w5.heap.size 53 4 (.slice (some ⟨gt, 0, none⟩) N ct) N (lcells (nx c3 S (qs TA (G.take 0))))) := Lib.hid (by
        rw [List.take_zero, show qs TA [] = [] from rfl, nx_nil]
        rw [show lcells [] = [] from rfl, List.nil_append, Nat.zero_add] at hown'
        exact hown')
      have hG8 := HGn.out
      clear hown' hgrow hnn ho0 hb9
      go_loopw [15] (fun ji wx => ∃ j : Nat, j ≤ G.length ∧ ji = .int .i64 j ∧ Hid (wx.ownsRow w5.heap.size 53 4 (.slice (some ⟨gt, 0, none⟩) N ct) N (lcells (nx c3 S (qs TA (G.take j))))) ∧ Kp w5 wx) (fun ji _ => G.length - (intOf ji).toNat)
      case atStart => exact ⟨0, Nat.zero_le _, rfl, HO6, k6⟩
      case round =>
        clear k6 HO6
        obtain ⟨j, hj, rfl, HO, kx⟩ := hrel
        by_cases hlt : j < G.length
        · obtain ⟨x, hx⟩ : ∃ x, G[j]? = some x := ⟨_, List.getElem?_eq_getElem hlt⟩
          have hjI : (j : Int) < (G.length : Int) := by omega
          have hj0 : (0 : Int) ≤ (j : Int) := by omega
          have hx8 := HXn.out j x hx
          obtain ⟨Q0, hQ0⟩ : ∃ Q, qs TA (G.take j) = Q := ⟨_, rfl⟩
          have HQn : Hid (qs TA (G.take (j + 1)) = Q0 ++ x.filter (difB TA x)) := Lib.hid (by
            rw [← hQ0, List.take_add_one, hx, Option.toList_some]
            unfold qs
            rw [List.flatMap_append, List.flatMap_singleton])
          rw [hQ0] at HO
          have HOq := HO
          clear hQ0 HO
          go_wp2_with fail
          rename World => wo
          go_loopw [16] (fun ki wx => ∃ k : Nat, k ≤ x.length ∧ ki = .int .i64 k ∧ Hid (wx.ownsRow w5.heap.size 53 4 (.slice (some ⟨gt, 0, none⟩) N ct) N (lcells (nx c3 S (Q0 ++ (x.take k).filter (difB TA x))))) ∧ Kp w5 wx) (fun ki _ => x.length - (intOf ki).toNat)
          case atStart => exact ⟨0, Nat.zero_le _, rfl, Lib.hid (by rw [List.take_zero, List.filter_nil, List.append_nil]; exact HOq.out), kx⟩
          case round =>
            clear HOq kx
            obtain ⟨k, hk, rfl, HO, kx⟩ := hrel
            obtain ⟨g8, o8, gi, cx, rfl, hg8, hgi, e8, e9⟩ := (HR8.out _ (ktr HK5.out kx)) j x hx
            by_cases hlk : k < x.length
            · have hex : ∃ a, x[k]? = some a := ⟨_, List.getElem?_eq_getElem hlk⟩
              obtain ⟨a, hxa⟩ := hex
              have ha : a < N := HGb.out j x hx a (List.mem_of_getElem? hxa)
              have ea := e9 k a hxa
              clear e9
              have hex : ∃ s, S[a]? = some s := ⟨_, List.getElem?_eq_getElem (by rw [HSl.out]; exact ha)⟩
              obtain ⟨s, hs⟩ := hex
              have hex : ∃ t, TA[a]? = some t := ⟨_, List.getElem?_eq_getElem (by rw [HTAl.out]; exact ha)⟩
              obtain ⟨ta, hta⟩ := hex
              obtain ⟨Q1, hQ1⟩ : ∃ Q, Q0 ++ (x.take k).filter (difB TA x) = Q := ⟨_, rfl⟩
              have HQ2 : Hid (Q0 ++ (x.take (k + 1)).filter (difB TA x) = Q1 ++ (if difB TA x a then [a] else [])) := Lib.hid (by
                rw [List.take_add_one, hxa, Option.toList_some, List.filter_append, ← List.append_assoc, hQ1]
                congr 1
                cases h9 : difB TA x a <;> simp [h9])
              have HNa : Hid ((nx c3 S G.flatten)[a]? = some (c3 s)) := Lib.hid (by
                rw [nx_at hs, if_pos (List.mem_flatten.2 ⟨x, List.mem_of_getElem? hx, List.mem_of_getElem? hxa⟩)])
              rw [hQ1] at HO
              have HOk := HO
              have HSs := Lib.hid hs
              have HTa := Lib.hid hta
              have hkI : (k : Int) < (x.length : Int) := by omega
              have hk0 : (0 : Int) ≤ (k : Int) := by omega
              have haI : (a : Int) < (N : Int) := by omega
              have ha0 : (0 : Int) ≤ (a : Int) := by omega
              have hk1 : k + 1 ≤ x.length := hlk
              clear hs hta hQ1 hxa HO
              go_wp2_with fail
              rename World => wp
              go_loopw [18] (fun mi wx => ∃ m : Nat, m ≤ x.length ∧ mi = .int .i64 m ∧ Hid (wx.ownsRow w5.heap.size 53 4 (.slice (some ⟨gt, 0, none⟩) N ct) N (lcells (nx c3 S (Q1 ++ (if (x.take m).any (fun b => decide (TA[b]? ≠ TA[a]?)) then [a] else []))))) ∧ Kp w5 wx) (fun mi _ => x.length - (intOf mi).toNat)
              case atStart => exact ⟨0, Nat.zero_le _, rfl, Lib.hid (by rw [List.take_zero, List.any_nil]; simpa using HOk.out), kx⟩
              case round =>
                clear HOk kx e8 ea hg8 hgi
                obtain ⟨m, hmx, rfl, HO, kx⟩ := hrel
                obtain ⟨_, _, gi', cx', e0, hg8, hgi, e8, e9⟩ := (HR8.out _ (ktr HK5.out kx)) j x hx
                cases e0
                by_cases hlm : m < x.length
                · have hex : ∃ b, x[m]? = some b := ⟨_, List.getElem?_eq_getElem hlm⟩
                  obtain ⟨b, hxb⟩ := hex
                  have hb : b < N := HGb.out j x hx b (List.mem_of_getElem? hxb)
                  have eb := e9 m b hxb
                  clear e9
                  have hex : ∃ t, TA[b]? = some t := ⟨_, List.getElem?_eq_getElem (by rw [HTAl.out]; exact hb)⟩
                  obtain ⟨tb, htb⟩ := hex
                  obtain ⟨g7, o7, rfl, xb⟩ := HTA5.out _ kx b tb htb
                  obtain ⟨_, _, e0, xa⟩ := HTA5.out _ kx a ta HTa.out
                  cases e0
                  have hmI : (m : Int) < (x.length : Int) := by omega
                  have hm0 : (0 : Int) ≤ (m : Int) := by omega
                  have hbI : (b : Int) < (N : Int) := by omega
                  have hb0' : (0 : Int) ≤ (b : Int) := by omega
                  have hm1 : m + 1 ≤ x.length := hlm
                  have HAn : Hid ((x.take (m + 1)).any (fun b => decide (TA[b]? ≠ TA[a]?)) = ((x.take m).any (fun b => decide (TA[b]? ≠ TA[a]?)) || decide (TA[b]? ≠ TA[a]?))) := Lib.hid (by
                    rw [List.take_add_one, hxb, Option.toList_some, List.any_append]
                    simp)
                  obtain ⟨y0, y1, y2, y3⟩ : ∃ y0 y1 y2 y3, y0 = () ∧ y1 = () ∧ y2 = () ∧ y3 = () := ⟨(), (), (), (), rfl, rfl, rfl, rfl⟩
                  clear y0 y1 y2 y3 hxb
                  by_cases e1 : tb = ta
                  · have hq := (show (tb.toList == ta.toList) = true by rw [e1]; simp)
                    have HE : Hid ((x.take (m + 1)).any (fun b => decide (TA[b]? ≠ TA[a]?)) = (x.take m).any (fun b => decide (TA[b]? ≠ TA[a]?))) := Lib.hid (by rw [HAn.out, htb, HTa.out, e1]; simp)
                    have HOn' : Hid (wr.ownsRow w5.heap.size 53 4 (.slice (some ⟨gt, 0, none⟩) N ct) N (lcells (nx c3 S (Q1 ++ (if (x.take (m + 1)).any (fun b => decide (TA[b]? ≠ TA[a]?)) then [a] else []))))) := Lib.hid (by rw [HE.out]; exact HO.out)
                    clear e1 htb HO
                    go_wp2_with fail
                    go_quiet (fail)
                    go_wp2_with fail
                    go_roundw
                    case rel => exact ⟨m + 1, hm1, by go_num, Lib.hid (own_of_drewN HOn'.out _), kdn kx _⟩
                    case measure => simp [intOf]; omega
                  · have hq := ne_forms' e1
                    have HE : Hid ((x.take (m + 1)).any (fun b => decide (TA[b]? ≠ TA[a]?)) = true) := Lib.hid (by rw [HAn.out, htb, HTa.out, Bool.or_eq_true, decide_eq_true_eq]; exact .inr (fun h9 => e1 (Option.some.inj h9)))
                    clear e1 htb
                    go_wp2_with fail
                    go_quiet (fail)
                    generalize hWd : wr.drewN _ = wd
                    have kd : Kp wr wd := by rw [← hWd]; exact kdn (kre _) _
                    clear hWd
                    have ho := own_kp HO.out kd
                    obtain ⟨P', hP'⟩ : ∃ P, Q1 ++ (if (x.take m).any (fun b => decide (TA[b]? ≠ TA[a]?)) then [a] else []) = P := ⟨_, rfl⟩
                    rw [hP'] at ho
                    obtain ⟨y, hy⟩ : ∃ y, y = c3 s := ⟨_, rfl⟩
                    have hNa := HNa.out
                    rw [← hy] at hNa
                    obtain ⟨gn', on', en, hgn, y0, y1, y2, y3⟩ := (HNx5.out wd (ktr kx kd)) a y hNa
                    have e1 : gn' = gn ∧ on' = 0 := by cases en; exact ⟨rfl, rfl⟩
                    rw [e1.1, e1.2, Nat.zero_add] at y0 y1 y2 y3
                    have hpl : (lcells (nx c3 S P')).length = N * 4 := by rw [lcells_len, nx_len, HSl.out]
                    have f0 := World.ownsRow.frozenAt ho (a * 4)
                    have f1 := World.ownsRow.frozenAt ho (a * 4 + 1)
                    have f2 := World.ownsRow.frozenAt ho (a * 4 + 2)
                    have f3 := World.ownsRow.frozenAt ho (a * 4 + 3)
                    obtain ⟨z0, v0⟩ : ∃ u, wd.cell? ⟨gt, a * 4, none⟩ = some u := by rw [World.ownsRow.cellAt ho (a * 4) (by omega)]; exact ⟨_, List.getElem?_eq_getElem (by omega)⟩
                    obtain ⟨z1, v1⟩ : ∃ u, wd.cell? ⟨gt, a * 4 + 1, none⟩ = some u := by rw [World.ownsRow.cellAt ho (a * 4 + 1) (by omega)]; exact ⟨_, List.getElem?_eq_getElem (by omega)⟩
                    obtain ⟨z2, v2⟩ : ∃ u, wd.cell? ⟨gt, a * 4 + 2, none⟩ = some u := by rw [World.ownsRow.cellAt ho (a * 4 + 2) (by omega)]; exact ⟨_, List.getElem?_eq_getElem (by omega)⟩
                    obtain ⟨z3, v3⟩ : ∃ u, wd.cell? ⟨gt, a * 4 + 3, none⟩ = some u := by rw [World.ownsRow.cellAt ho (a * 4 + 3) (by omega)]; exact ⟨_, List.getElem?_eq_getElem (by omega)⟩
                    have s1 := ho.stored (a * 4) (.string y.k)
                    have s2 := s1.1.stored (a * 4 + 1) (.int .i64 y.n)
                    have s3 := s2.1.stored (a * 4 + 2) (.int .i64 y.d)
                    have s4 := s3.1.stored (a * 4 + 3) (.int .i64 y.t)
                    have hset := lcells_set (L := nx c3 S P') (k := a) y (by rw [nx_len, HSl.out]; exact ha)
                    have hcg : nx c3 S (P' ++ [a]) = nx c3 S (Q1 ++ [a]) := nx_congr (fun i => by
                      rw [← hP']
                      simp only [List.mem_append, List.mem_singleton]
                      constructor
                      · rintro ((h9 | h9) | h9)
                        · exact .inl h9
                        · split at h9
                          · exact .inr (List.mem_singleton.1 h9)
                          · cases h9
                        · exact .inr h9
                      · rintro (h9 | h9)
                        · exact .inl (.inl h9)
                        · exact .inr h9)
                    rw [hy, nx_set HSs.out, hcg, ← hy] at hset
                    have HS4 := Lib.hid s4.1
                    rw [hset] at HS4
                    have hrow : ∀ j, (Value.slice (some ⟨gt, 0, none⟩) N ct).ownBlock = some j → w5.heap.size ≤ j := fun j hj => (ho.lt j hj).1
                    have HK9 := Lib.hid (kgr (kgr (kgr (kgr (ktr kx kd) s1.2 hrow) s2.2 hrow) s3.2 hrow) s4.2 hrow)
                    have HEq : Hid ((if (x.take (m + 1)).any (fun b => decide (TA[b]? ≠ TA[a]?)) = true then [a] else []) = [a]) := Lib.hid (if_pos HE.out)
                    obtain ⟨yk, yn, yd, yt⟩ := y
                    dsimp only at y0 y1 y2 y3 HS4 HK9
                    clear s1 s2 s3 s4 hset hcg ho hpl hrow hy hNa en e1 hP' kd kx HO HE xa xb eb e8
                    go_wp2_with fail
                    go_roundw
                    case rel => exact ⟨m + 1, hm1, by go_num, Lib.hid (by rw [HEq.out]; exact HS4.out), HK9.out⟩
                    case measure => simp [intOf]; omega
                · have hmx2 : m = x.length := by omega
                  have HO2 : Hid (wr.ownsRow w5.heap.size 53 4 (.slice (some ⟨gt, 0, none⟩) N ct) N (lcells (nx c3 S (Q0 ++ (x.take (k + 1)).filter (difB TA x))))) := Lib.hid (by
                    rw [HQ2.out]
                    have h9 := HO.out
                    rw [hmx2, List.take_length] at h9
                    exact h9)
                  have hmI : ¬ (m : Int) < (x.length : Int) := by omega
                  clear e9 HO
                  go_wp2_with fail
                  go_roundw
                  case rel => exact ⟨k + 1, hk1, by go_num, HO2, kx⟩
                  case measure => simp [intOf]; omega
            · have hkx : k = x.length := by omega
              have HO2 : Hid (wr.ownsRow w5.heap.size 53 4 (.slice (some ⟨gt, 0, none⟩) N ct) N (lcells (nx c3 S (qs TA (G.take (j + 1)))))) := Lib.hid (by
                rw [HQn.out]
                have h9 := HO.out
                rw [hkx, List.take_length] at h9
                exact h9)
              have hkI : ¬ (k : Int) < (x.length : Int) := by omega
              clear e9 HO
              go_wp2_with fail
              go_roundw
              case rel => exact ⟨j + 1, by omega, by go_num, HO2, kx⟩
              case measure => simp [intOf]; omega
        · have hjl : j = G.length := by omega
          have HOf : Hid (wr.ownsRow w.heap.size 53 4 (.slice (some ⟨gt, 0, none⟩) N ct) N (lcells R)) := Lib.hid (by
            rw [← HR.out]
            have h9 := HO.out
            rw [hjl, List.take_length] at h9
            exact Cs.row_base (ksz (ktr hb0 (ktr HK2.out HK5.out))) h9)
          have hkf := ktr hb0 (ktr HK2.out (ktr HK5.out kx))
          have hjI : ¬ (j : Int) < (G.length : Int) := by omega
          clear HO
          go_wp2_with fail
          go_ret
          exact ⟨_, _, rfl, HOf.out, hkf⟩
end Go.Proofs.YteccmlpibbchbaaGreatDoor.Tdn
/-
  DisambiguateNames of the model.
-/
namespace Go.Proofs.YteccmlpibbchbaaGreatDoor.Tdn
open Go.ChangeShapes Go.WideShapes Go.ChangeAt Go.RowKit Go.Joins Go.Deep
open Pl Strs Help Name Stands SplitPl NmPl Word Part NGood Nms Jn Ens Lab Kpz Ce Rdf LdPl Lbs Lbr Cit
open Num (Tab Tab.below)
set_option linter.unusedSimpArgs false
set_option linter.unusedVariables false

set_option maxRecDepth 100000 in
set_option maxHeartbeats 8000000 in
theorem plain_s2 (A : Option Addr) (c N : Nat) (L : List En) (z : Int) (w : World) (h : RdE w A L) (hn : L.length = N) (hm : N ≤ 1048576) :
    Calls Tryz.prog 58 #[.agg #[.slice A N c], .int .i64 z] w fun e w' => ∃ g c', e = .returned (.slice (some ⟨g, 0, none⟩) N c') ∧ w'.ownsRow w.heap.size 53 4 (.slice (some ⟨g, 0, none⟩) N c') N (lcells (plL L z)) ∧ Kp w w' := by
  obtain ⟨i0, hi, hz0, hz1, hz2⟩ := info_parts infoLab
  have hb0 : Kp w (w.alloc (.cells #[.slice A N c] 33)) := kal (kre _) _
  have hc0 := (box1 w (.slice A N c) 33).1
  have hs0 : w.heap.size < (w.alloc (.cells #[.slice A N c] 33)).heap.size := by simp
  have H := Lib.hid h
  have HN := Lib.hid hn
  have HL : Hid ((plL L z).length = N) := Lib.hid (by rw [plL_len, hn])
  clear h hn
  go_enter Tryz.func58, Tryz.ntmps58
  go_upto_region 1 with fail
  generalize w.alloc (.cells #[.slice A N c] 33) = w0 at hb0 hc0 hs0 ⊢
  have ho0 := empty_row w0 w0.heap.size (Nat.le_refl _)
  have hb1 : Kp w0 (w0.alloc (.cells #[] 53)) := kal (kre _) _
  have HC : Hid (∀ W, Kp w0 W → W.cell? ⟨w.heap.size, 0, none⟩ = some (.slice A N c)) := Lib.hid (fun W h => (h.cell (p := ⟨w.heap.size, 0, none⟩) hs0).trans hc0)
  have hc1 := HC.out _ hb1
  go_upto_region 2 with fail
  generalize hW : w0.alloc (.cells #[] 53) = w1 at ho0 hb1 hc1 ⊢
  clear hW hc0
  go_wp2_with fail
  go_loopw [5, 6] (fun v i wr => ∃ k : Nat, k ≤ N ∧ i = .int .i64 k ∧ wr.ownsRow w0.heap.size 53 4 v k (lcells ((plL L z).take k)) ∧ (∃ g c, v = .slice (some ⟨g, 0, none⟩) k c) ∧ Kp w0 wr) (fun _ i _ => N - (intOf i).toNat)
  case atStart => exact ⟨0, Nat.zero_le _, rfl, by simpa using ho0, ⟨_, _, rfl⟩, hb1⟩
  case round =>
    obtain ⟨k, hk, rfl, hown, ⟨gf, cf, rfl⟩, kw⟩ := hrel
    have hcw := HC.out _ kw
    by_cases hlt : k < N
    · have hkx : k < L.length := by rw [HN.out]; exact hlt
      have hx? := List.getElem?_eq_getElem hkx
      obtain ⟨_, g, o, rfl, hg, c0, c1, c2, c3, c4, c5, c6, c7, c8, c9, c10, c11, c12, c13⟩ := (H.out.below (ktr hb0 kw)) k L[k] hx?
      have HX := Lib.hid (plL_take (z := z) hx?)
      clear hx?
      generalize L[k] = x at *
      obtain ⟨key, kind, auA, auN, auc, auL, edA, edN, edc, edL, ti, co, pu, y, m, d, ci, vol, pa, cr⟩ := x
      dsimp only at c0 c1 c2 c3 c4 c5 c6 c7 c8 c9 c10 c11 c12 c13
      have HX2 : Hid ((plL L z).take (k + 1) = (plL L z).take k ++ [⟨key, z, 1, 0⟩]) := HX
      clear HX
      have kw2 := kw
      have hown2 := hown
      have hcw2 := hcw
      generalize hW2 : wr = w2 at *
      clear hW2
      have hsz := ksz kw2
      clear hown
      go_wp2_with (first
        | (at_builtin; refine wpList_append_own _ rfl _ _ 35 rfl w0.heap.size 53 i0 _ 4 40 Tryz.underlying35 hi hz0 hz1 hz2 rfl (by decide) _ _ _ rfl (hown2.alloc _) ⟨w2.heap.size, 0, none⟩ 1 1 [.string key, .int .i64 z, .int .i64 1, .int .i64 0] rfl rfl (four_new _ _ _ _ _ _) (by simp [Value.oneCell']) (by unfold maxLen; omega) (by omega) (by simp; omega) ?_; intro v' w3 hown' hgrow hnn; obtain ⟨g9, c9, rfl⟩ := some_form hown' (fun e => by have := (hnn.1 e).1; cases this))
        | go_in)
      go_roundw
      case rel =>
        refine ⟨k + 1, by omega, by go_num, ?_, ⟨_, _, rfl⟩, ?_⟩
        · rw [HX2.out, lcells_snoc]
          exact hown'
        · exact kgr (kal kw2 _) hgrow (fun j hj => by have := (hown2.lt j hj).1; omega)
      case measure => simp [intOf]; omega
    · obtain rfl : k = N := by omega
      have HT : Hid ((plL L z).take k = plL L z) := Lib.hid (List.take_of_length_le (by rw [HL.out]; exact Nat.le_refl _))
      rw [HT.out] at hown
      go_wp2_with fail
      go_ret
      exact ⟨_, _, rfl, Cs.row_base (Nat.le_of_lt hs0) hown, ktr hb0 kw⟩


set_option maxRecDepth 100000 in
set_option maxHeartbeats 8000000 in
theorem unl_s (A : Option Addr) (c N : Nat) (L : List En) (z : Int) (w : World) (h : RdE w A L) (hn : L.length = N) (hm : N ≤ 8) (hz : ∀ x ∈ L, x.sz ≤ 1048576) (hok : ∀ x ∈ L, okE x = true) (hzz : 1 ≤ z ∧ z ≤ 4) :
    Calls Tryz.prog 42 #[.agg #[.slice A N c], .int .i64 z] w fun e w' => ∃ v, e = .returned v ∧ w'.ownsRow w.heap.size 53 4 v N (lcells (unl L z)) ∧ Kp w w' := by
  have hb0 : Kp w (w.alloc (.cells #[.slice A N c] 33)) := kal (kre _) _
  have hc0 := (box1 w (.slice A N c) 33).1
  have hs0 : w.heap.size < (w.alloc (.cells #[.slice A N c] 33)).heap.size := by simp
  have HP := Lib.hid (fun W (k : Kp w W) => plain_s2 A c N L z W (h.below k) hn (by omega))
  have HC1 := Lib.hid (fun base g c' W (k : Kp w W) hv => round1_s A c N L base g c' (stg L z 0) W (h.below k) hn hm hv hz hok (stg_ok L hzz 0))
  have HC2 := Lib.hid (fun base g c' W (k : Kp w W) hv => round2_s A c N L base g c' (stg L z 1) W (h.below k) hn hm hv hz hok (stg_ok L hzz 1))
  have HC3 := Lib.hid (fun base g c' W (k : Kp w W) hv => round3_s A c N L base g c' (stg L z 2) W (h.below k) hn hm hv hz hok (stg_ok L hzz 2))
  have HPe : Hid (plL L z = stg L z 0) := Lib.hid rfl
  have HC1e : Hid (Tdn.rnd c1 L (stg L z 0) = stg L z 1) := Lib.hid rfl
  have HC2e : Hid (Tdn.rnd c2 L (stg L z 1) = stg L z 2) := Lib.hid rfl
  have HC3e : Hid (Tdn.rnd c3 L (stg L z 2) = stg L z 3) := Lib.hid rfl
  have HUe : Hid (unl L z = stg L z 3) := Lib.hid rfl
  rw [HPe.out] at HP
  rw [HC1e.out] at HC1
  rw [HC2e.out] at HC2
  rw [HC3e.out] at HC3
  rw [HUe.out]
  generalize stg L z = F at *
  clear h hn hz hok hzz
  go_enter Tryz.func42, Tryz.ntmps42
  go_upto_region 1 with fail
  generalize w.alloc (.cells #[.slice A N c] 33) = w0 at hb0 hc0 hs0 ⊢
  have HC : Hid (∀ W, Kp w0 W → W.cell? ⟨w.heap.size, 0, none⟩ = some (.slice A N c)) := Lib.hid (fun W h => (h.cell (p := ⟨w.heap.size, 0, none⟩) hs0).trans hc0)
  have HSt : Hid (∀ W, Kept w0 W → (W.cell? ⟨w.heap.size, 0, none⟩ = some (.slice A N c) ∧ Kept w0 W)) := Lib.hid (fun W h => ⟨HC.out W h, h⟩)
  have HK0 := Lib.hid (Kept.drew w0)
  have HKw : Hid (Kp w w0.drew) := Lib.hid (ktr hb0 HK0.out)
  clear hc0
  go_region_held3 (fun W => W.cell? ⟨w.heap.size, 0, none⟩ = some (.slice A N c) ∧ Kept w0 W)
    (first | exact HSt.out _ HK0.out | exact HSt.out _ (by assumption))
    (first
      | (go_at_call 57; refine (HC1.out _ _ _ _ hk1w o1).mono ?_; rintro e w2 ⟨g2, d2, rfl, o2, b2⟩; have hk2 : Kept w0 w2 := ktr hk1 b2)
      | (go_at_call 58; refine (HP.out _ HKw.out).mono ?_; rintro e w1 ⟨g1, d1, rfl, o1, b1⟩; have hk1 : Kept w0 w1 := ktr HK0.out b1; have hk1w : Kp w w1 := ktr HKw.out b1)
      | fail)
  (try clear hHeld)
  have hc2 := HC.out _ hk2
  have HO2 := Lib.hid o2
  clear HSt HK0 HKw hk1 hk1w o1 o2 b1 b2
  go_wp2_with fail
  refine (HC2.out _ _ _ w2 (ktr hb0 hk2) HO2.out).mono ?_
  rintro e w3 ⟨g3, d3, rfl, o3, b3⟩
  have k3 : Kp w0 w3 := ktr hk2 b3
  have hc3 := HC.out _ k3
  have HO3 := Lib.hid o3
  clear hc2 HO2 hk2 b3 o3
  go_wp2_with fail
  refine (HC3.out _ _ _ w3 (ktr hb0 k3) HO3.out).mono ?_
  rintro e w4 ⟨g4, d4, rfl, o4, b4⟩
  have k4 : Kp w0 w4 := ktr k3 b4
  have HO4 := Lib.hid (Cs.row_base (ksz (ktr hb0 k3)) o4)
  clear hc3 HO3 b4 o4
  go_wp2_with fail
  go_ret
  exact ⟨_, rfl, HO4.out, ktr hb0 k4⟩
set_option maxRecDepth 100000 in
set_option maxHeartbeats 4000000 in
theorem dn_sp (A : Option Addr) (c N : Nat) (L : List En) (z : Int) (w : World) (h : RdE w A L) (hn : L.length = N) (hm : N ≤ 1048576) (hz : ∀ x ∈ L, x.sz ≤ 1048576) :
    Calls Tryz.prog 18 #[.agg #[.slice A N c], .int .i64 z] w (DnP L z w) := by
  have hb0 : Kp w (w.alloc (.cells #[.slice A N c] 33)) := kal (kre _) _
  have hc0 := (box1 w (.slice A N c) 33).1
  have hs0 : w.heap.size < (w.alloc (.cells #[.slice A N c] 33)).heap.size := by simp
  have HV := Lib.hid (asked_s A c N L z _ (h.below hb0) hn hm hz)
  have HPl := Lib.hid (fun (ha : asked L z = true) w' (k : Kp w w') => unl_s A c N L z w' (h.below k) hn (by have := okLib_8 (asked_parts ha).1; omega) hz (okL_of (asked_parts ha).1) (asked_parts ha).2)
  have HN := Lib.hid hn
  have HUl := Lib.hid ((unl_len L z).trans hn)
  unfold DnP
  have E1 : Hid (asked L z = true → dnT L z = unl L z) := Lib.hid (fun h => if_pos h)
  have E0 : Hid (asked L z = false → dnT L z = []) := Lib.hid (fun h => if_neg (by rw [h]; exact Bool.false_ne_true))
  generalize asked L z = r1 at *
  clear h hn hz
  go_enter Tryz.func18, Tryz.ntmps18
  go_wp2_with fail
  generalize w.alloc (.cells #[.slice A N c] 33) = w0 at hb0 hc0 hs0 HV ⊢
  refine HV.out.mono ?_
  rintro e w1 ⟨rfl, b1⟩
  have hc1 := (b1.cell (p := ⟨w.heap.size, 0, none⟩) hs0).trans hc0
  have k1 : Kp w w1 := ktr hb0 b1
  clear b1 HV hc0 hs0 hb0
  cases r1 with
  | false =>
    go_wp2_with fail
    go_ret2
    exact ⟨_, rfl, by rw [E0.out (by first | rfl | trivial)]; exact Cs.row_base (ksz k1) (empty_row w1 w1.heap.size (Nat.le_refl _)), kal k1 _⟩
  | true =>
    go_wp2_with fail
    refine (HPl.out (by first | rfl | trivial) _ k1).mono ?_
    rintro e w2 ⟨v, rfl, ho, b2⟩
    go_wp2_with fail
    go_ret2
    exact ⟨_, rfl, by rw [E1.out (by first | rfl | trivial), HUl.out]; exact Cs.row_base (ksz k1) ho, ktr k1 b2⟩
end Go.Proofs.YteccmlpibbchbaaGreatDoor.Tdn
