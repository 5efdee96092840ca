/-
  FirstCited of both: the different keys of a list of citations, in the order of their first occurrences.
-/
import Derived.Test.YtioajkkkncjndaaSs
import Derived.Test.YtioajkkkncjndaaCk
import Derived.Lib.AppendZeros
import Derived.Laws.NewBlocks
import Derived.Shelf.Spec.SlicesInsert
namespace Go.Proofs.Ytioajkkkncjndaa.Fc
open Go.RowKit Pl Stands SplitPl NmPl Strs Help Nms Kpz Sss Ck Kt
set_option linter.unusedSimpArgs false
set_option linter.unusedVariables false

theorem infoStr : (Try.prog.info? 9).map (fun i => (i.zero, i.size, i.bytes)) = some (some (.string ByteArray.empty), 1, 16) := by kernel_rfl
def fcS (out : List ByteArray) (x : ByteArray) : List ByteArray := if 0 < plc x out 0 then out else out ++ [x]
def fcL (xs : List ByteArray) : List ByteArray := xs.foldl fcS []
theorem fcL_snoc (xs : List ByteArray) (x : ByteArray) : fcL (xs ++ [x]) = fcS (fcL xs) x := by simp [fcL, List.foldl_append]
theorem fcL_len (xs : List ByteArray) : (fcL xs).length ≤ xs.length := by
  have key : ∀ (l acc : List ByteArray), (l.foldl fcS acc).length ≤ acc.length + l.length := by
    intro l
    induction l with
    | nil => intro acc; simp
    | cons x r ih =>
      intro acc
      have h1 := ih (fcS acc x)
      have h2 : (fcS acc x).length ≤ acc.length + 1 := by unfold fcS; split <;> simp
      rw [List.foldl_cons, List.length_cons]; omega
  have := key xs []
  simpa [fcL] using this
theorem fcL_at {xs : List ByteArray} {k : Nat} {x : ByteArray} (h : xs[k]? = some x) (p : List ByteArray) : fcL (p ++ xs.take (k + 1)) = fcS (fcL (p ++ xs.take k)) x := by
  rw [take_at h, ← List.append_assoc, fcL_snoc]
def cOk (C : List (List ByteArray)) : Bool := decide (C.length ≤ 20) && C.all (aks 6)
theorem flat_at {C : List (List ByteArray)} {k : Nat} {x : List ByteArray} (h : C[k]? = some x) : (C.take (k + 1)).flatten = (C.take k).flatten ++ x := by
  rw [List.take_add_one, h]; simp
theorem flat_le (C : List (List ByteArray)) (k : Nat) : (C.take k).flatten.length ≤ C.flatten.length := by
  conv => rhs; rw [← List.take_append_drop k C]
  rw [List.flatten_append, List.length_append]; omega
theorem cOk_flat {C : List (List ByteArray)} (h : C.all (aks 6) = true) : C.flatten.length ≤ 6 * C.length := by
  induction C with
  | nil => simp
  | cons x r ih =>
    simp only [List.all_cons, Bool.and_eq_true] at h
    have := ih h.2
    have h6 : x.length ≤ 6 := by have := h.1; unfold aks at this; simp only [Bool.and_eq_true, decide_eq_true_eq] at this; exact this.1
    rw [List.flatten_cons, List.length_append, List.length_cons]; omega
theorem allC_at {C : List (List ByteArray)} {k : Nat} {x : List ByteArray} (h : C[k]? = some x) : (C.take (k + 1)).all (aks 6) = ((C.take k).all (aks 6) && aks 6 x) := by
  rw [List.take_add_one, h, List.all_append]; simp
theorem allC_no {C : List (List ByteArray)} {k : Nat} {x : List ByteArray} (h : C[k]? = some x) (h2 : aks 6 x = false) : C.all (aks 6) = false := by
  rw [List.all_eq_false]
  exact ⟨x, List.mem_of_getElem? h, by simp [h2]⟩

set_option maxHeartbeats 2000000 in
theorem has_s (A : Option Addr) (c n : Nat) (xs : List ByteArray) (t : ByteArray) (r : Bool) (w : World) (hr : RdS w A xs) (hn : xs.length = n) (hm : n ≤ 1048576) (h : decide (0 < plc t xs 0) = r) :
    Calls Try.prog 28 #[.slice A n c, .string t] w fun e w' => e = .returned (.bool r) ∧ w = w' := by
  have HR := Lib.hid hr
  have HN := Lib.hid hn
  have HV := Lib.hid h
  clear hr hn h
  go_enter Try.func28, Try.ntmps28
  go_wp2_with fail
  go_loop [5] (fun i => ∃ k : Nat, k ≤ n ∧ i = .int .i64 k ∧ Hid (plc t (xs.drop k) k = plc t xs 0)) (fun i => n - (intOf i).toNat)
  case atStart => exact ⟨0, Nat.zero_le _, rfl, Lib.hid rfl⟩
  case round =>
    obtain ⟨k, hk, rfl, HO⟩ := hrel
    by_cases hlt : k < n
    · obtain ⟨x, hx⟩ : ∃ x, xs[k]? = some x := ⟨_, List.getElem?_eq_getElem (by rw [HN.out]; exact hlt)⟩
      obtain ⟨g, o, rfl, hc0⟩ := HR.out k x hx
      have HP := Lib.hid (plc_at t hx)
      clear hx
      by_cases he : x = t
      · subst he
        have HE : Hid (r = true) := Lib.hid (by rw [← HV.out, ← HO.out, HP.out, if_pos rfl]; exact decide_eq_true (by omega))
        clear HP
        go_wp2_with fail
        go_ret
        exact ⟨by rw [HE.out]; rfl, rfl⟩
      · have hne := ne_s he
        have HE : Hid (plc t (xs.drop (k + 1)) (k + 1) = plc t xs 0) := Lib.hid (by rw [← HO.out, HP.out, if_neg he])
        clear HP he
        go_wp2_with fail
        go_round
        case rel => exact ⟨k + 1, by omega, by go_num, HE⟩
        case measure => simp [intOf]; omega
    · have HE : Hid (r = false) := Lib.hid (by rw [← HV.out, ← HO.out, List.drop_eq_nil_of_le (by rw [HN.out]; omega)]; rfl)
      go_wp2_with fail
      go_ret
      exact ⟨by rw [HE.out]; rfl, rfl⟩
set_option maxHeartbeats 2000000 in
theorem contains_i (A : Option Addr) (c n : Nat) (xs : List ByteArray) (t : ByteArray) (r : Bool) (w : World) (hr : RdS w A xs) (hn : xs.length = n) (hm : n ≤ 1048576) (h : decide (0 < plc t xs 0) = r) :
    Calls Try.prog 22 #[.slice A n c, .string t] w fun e w' => e = .returned (.bool r) ∧ w = w' := by
  have HI := Lib.hid (fun z hz => index_i A c n xs t z w hr hn hm hz)
  have HV := Lib.hid h
  clear hr h
  cases r with
  | true =>
    have h1 : 0 < plc t xs 0 := of_decide_eq_true HV.out
    obtain ⟨p, hp⟩ : ∃ p : Nat, plc t xs 0 = p + 1 := ⟨plc t xs 0 - 1, by omega⟩
    have HI1 := Lib.hid (HI.out (p : Int) (by rw [hp]; omega))
    clear HI HV h1 hp hn
    go_enter Try.func22, Try.ntmps22
    go_wp2_with fail
    refine HI1.out.mono ?_
    rintro e w' ⟨rfl, rfl⟩
    go_wp2_with fail
    go_ret
    exact ⟨by simp, rfl⟩
  | false =>
    have h1 : plc t xs 0 = 0 := by
      have := of_decide_eq_false HV.out
      omega
    have HI1 := Lib.hid (HI.out (-1) (by rw [h1]; rfl))
    clear HI HV h1 hn
    go_enter Try.func22, Try.ntmps22
    go_wp2_with fail
    refine HI1.out.mono ?_
    rintro e w' ⟨rfl, rfl⟩
    go_wp2_with fail
    go_ret
    exact ⟨rfl, rfl⟩

/-- an owned row of texts as its answer -/
def RowP (xs : List ByteArray) (w : World) (e : Ending) (w' : World) : Prop := ∃ v, e = .returned v ∧ w'.ownsRow w.heap.size 9 1 v xs.length (xs.map Value.string) ∧ Kp w w'
theorem row_add {w : World} {b : Nat} {e : TypeId} {v : Value} {xs : List ByteArray} {x : ByteArray} (h : w.ownsRow b e 1 v (xs.length + 1) (xs.map Value.string ++ [.string x])) : w.ownsRow b e 1 v (xs ++ [x]).length ((xs ++ [x]).map Value.string) := by
  rw [List.map_append, List.length_append]; exact h
set_option maxHeartbeats 4000000 in
theorem first_s (A : Option Addr) (c n : Nat) (C : List (List ByteArray)) (w : World) (h : RdA w A C) (hn : C.length = n) (hm : n ≤ 1048576) (hC : C.flatten.length ≤ 1048576) :
    Calls Try.prog 19 #[.slice A n c] w (RowP (fcL C.flatten) w) := by
  obtain ⟨i0, hi, hz0, hz1, hz2⟩ := info_parts infoStr
  have H := Lib.hid h
  have HN := Lib.hid hn
  have HC := Lib.hid hC
  clear h hn hC
  go_enter Try.func19, Try.ntmps19
  go_wp2_with fail
  go_loopw [3, 4] (fun v i wr => ∃ j : Nat, j ≤ n ∧ i = .int .i64 j ∧ Hid (wr.ownsRow w.heap.size 9 1 v (fcL (C.take j).flatten).length ((fcL (C.take j).flatten).map Value.string)) ∧ Kp w wr) (fun _ i _ => n - (intOf i).toNat)
  case atStart => exact ⟨0, Nat.zero_le _, rfl, Lib.hid (World.ownsRow_lit w #[] 0 (Nat.le_refl _) (Nat.zero_le _) rfl), kal (kre _) _⟩
  case round =>
    obtain ⟨j, hj, rfl, HO, hb⟩ := hrel
    rename World => wo
    by_cases hlt : j < n
    · obtain ⟨x, hxk⟩ : ∃ x, C[j]? = some x := ⟨_, List.getElem?_eq_getElem (by rw [HN.out]; exact hlt)⟩
      obtain ⟨g, o, Ai, ci, rfl, c0', r0, a0⟩ := H.out j x hxk
      have hgc := lt_cell c0'
      have c0 := (hb.cell (p := ⟨g, o + j, none⟩) hgc).trans c0'
      have HF := Lib.hid (flat_at hxk)
      have HFl : Hid (((C.take j).flatten ++ x).length ≤ 1048576) := Lib.hid (by rw [← HF.out]; exact Nat.le_trans (flat_le C (j + 1)) HC.out)
      have hxl : x.length ≤ 1048576 := by have := HFl.out; rw [List.length_append] at this; omega
      obtain ⟨lx, hlx⟩ : ∃ lx, x.length = lx := ⟨_, rfl⟩
      have HLx := Lib.hid hlx
      rw [hlx] at c0 c0' hxl
      have HR0 := Lib.hid r0
      have HA0 := Lib.hid a0
      clear hxk r0 a0 hlx
      generalize (C.take j).flatten = p0 at *
      go_wp2_with fail
      go_loopw [3, 5] (fun v i wr => ∃ k : Nat, k ≤ lx ∧ i = .int .i64 k ∧ Hid (wr.ownsRow w.heap.size 9 1 v (fcL (p0 ++ x.take k)).length ((fcL (p0 ++ x.take k)).map Value.string)) ∧ Kp w wr) (fun _ i _ => lx - (intOf i).toNat)
      case atStart => exact ⟨0, Nat.zero_le _, rfl, Lib.hid (by rw [List.take_zero, List.append_nil]; exact HO.out), hb⟩
      case round =>
        obtain ⟨k, hk, rfl, HO2, hb2⟩ := hrel
        have c1 := (hb2.cell (p := ⟨g, o + j, none⟩) hgc).trans c0'
        by_cases hlk : k < lx
        · obtain ⟨t, ht⟩ : ∃ t, x[k]? = some t := ⟨_, List.getElem?_eq_getElem (by rw [HLx.out]; exact hlk)⟩
          obtain ⟨g', o', rfl, d0⟩ := HR0.out k t ht
          have hg' : g' < w.heap.size := HA0.out (by rw [HLx.out]; omega) _ rfl
          have d1 := (hb2.cell (p := ⟨g', o' + k, none⟩) hg').trans d0
          have HS := Lib.hid (fcL_at ht p0)
          have hol := fcL_len (p0 ++ x.take k)
          have hol2 : (p0 ++ x.take k).length ≤ 1048576 := by have := HFl.out; rw [List.length_append] at this ⊢; rw [List.length_take]; omega
          have hol3 : (fcL (p0 ++ x.take k)).length ≤ 1048576 := Nat.le_trans hol hol2
          obtain ⟨Av, cv, rfl, -, rv, -⟩ := own_rds HO2.out
          have hcap := own_cap HO2.out
          have HO2' := HO2
          clear hol hol2 d0 ht
          generalize fcL (p0 ++ x.take k) = U at *
          have hlw : w.heap.size ≤ wr.heap.size := ksz hb2
          by_cases hmem : 0 < plc t U 0
          · have HH := Lib.hid (has_s Av cv U.length U t true wr rv rfl hol3 (decide_eq_true hmem))
            have HE : Hid (fcL (p0 ++ x.take (k + 1)) = U) := Lib.hid (by rw [HS.out]; unfold fcS; rw [if_pos hmem])
            clear hmem HS rv
            generalize hU : U.length = lu at *
            go_wp2_with fail
            refine HH.out.mono ?_
            rintro e w' ⟨rfl, rfl⟩
            go_wp2_with fail
            go_roundw
            case rel => exact ⟨k + 1, by omega, by go_num, Lib.hid (by rw [HE.out, hU]; exact HO2.out), hb2⟩
            case measure => (simp [intOf] <;> omega)
          · have HH := Lib.hid (has_s Av cv U.length U t false wr rv rfl hol3 (decide_eq_false hmem))
            have HE : Hid (fcL (p0 ++ x.take (k + 1)) = U ++ [t]) := Lib.hid (by rw [HS.out]; unfold fcS; rw [if_neg hmem])
            clear hmem HS rv
            go_wp2_with fail
            refine HH.out.mono ?_
            rintro e w' ⟨rfl, rfl⟩
            go_wp2_with (first | (at_builtin; refine wpList_append_own _ rfl _ _ 24 rfl w.heap.size 9 i0 (.string ByteArray.empty) 1 16 Try.underlying24 hi hz0 hz1 hz2 rfl (by decide) _ _ _ rfl (HO2.out.alloc _) ⟨wr.heap.size, 0, none⟩ 1 1 [.string t] rfl rfl (cell_one_new _ _ _) (by simp [Value.oneCell']) (by unfold maxLen; omega) (by omega) (by simp; omega) ?_; intro v' w1 hown' hgrow _))
            have HO3 : Hid (w1.ownsRow w.heap.size 9 1 v' (fcL (p0 ++ x.take (k + 1))).length ((fcL (p0 ++ x.take (k + 1))).map Value.string)) := Lib.hid (by rw [HE.out]; exact row_add hown')
            have hb3 : Kp w w1 := (hb2.alloc hlw _).grown hgrow (by simp; omega) (fun g hg => (HO2.out.lt g hg).1)
            go_roundw
            case rel => exact ⟨k + 1, by omega, by go_num, HO3, hb3⟩
            case measure => (simp [intOf] <;> omega)
        · have HE : Hid (p0 ++ x.take k = p0 ++ x) := Lib.hid (by rw [List.take_of_length_le (by rw [HLx.out]; omega)])
          have HO3 := HO2
          rw [HE.out, ← HF.out] at HO3
          go_wp2_with fail
          go_roundw
          case rel => exact ⟨j + 1, by omega, by go_num, HO3, hb2⟩
          case measure => (simp [intOf] <;> omega)
    · have HE : Hid (C.take j = C) := Lib.hid (List.take_of_length_le (by rw [HN.out]; omega))
      rw [HE.out] at HO
      go_wp2_with fail
      go_ret
      exact ⟨_, rfl, HO.out, hb⟩
end Go.Proofs.Ytioajkkkncjndaa.Fc
