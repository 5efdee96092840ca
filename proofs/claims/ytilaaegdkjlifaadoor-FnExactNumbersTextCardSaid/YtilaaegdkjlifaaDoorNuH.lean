/-
  Slices of numbers: readings; the laws' helpers toIntS, eqIntS, markIntS, heldIntS; an argument opened.
-/
import Derived.Test.YtilaaegdkjlifaaDoorNuA
import Derived.ProofKit
import Derived.OpenShut
import Derived.ShutString
import Derived.SliceStrings
import Derived.ChangeOld
import Derived.Below
import Derived.Lib.SmallJoins
import Derived.Deep.Slices
import Derived.Deep.Fields
namespace Go.Proofs.YtilaaegdkjlifaaDoor.Nu
open Go.RowKit Pl NuPl Kpz
set_option linter.unusedSimpArgs false
set_option linter.unusedVariables false

/-- the slice at A holds the numbers L -/
def RdI (w : World) (A : Option Addr) (L : List Int) : Prop := ∀ j x, L[j]? = some x → ∃ g o, A = some ⟨g, o, none⟩ ∧ w.cell? ⟨g, o + j, none⟩ = some (.int .i64 x)
theorem RdI.kp {w w' : World} {A : Option Addr} {L : List Int} (h : RdI w A L) (hb : Kp w w') : RdI w' A L := by
  intro j x hx
  obtain ⟨g, o, e, hc⟩ := h j x hx
  exact ⟨g, o, e, (hb.cell (p := ⟨g, o + j, none⟩) (lt_cell hc)).trans hc⟩
theorem RdI.of {w w' : World} {A : Option Addr} {L : List Int} (h : RdI w A L) (hA : 0 < L.length → ∀ a, A = some a → w'.heap[a.block]? = w.heap[a.block]?) : RdI w' A L := by
  intro j x hx
  replace hA := hA (by have := (List.getElem?_eq_some_iff.1 hx).1; omega)
  obtain ⟨g, o, rfl, hc⟩ := h j x hx
  exact ⟨g, o, rfl, (World.cell?_of_block (a := ⟨g, o + j, none⟩) (hA ⟨g, o, none⟩ rfl)).trans hc⟩
theorem RdI.lt {w : World} {A : Option Addr} {L : List Int} (h : RdI w A L) (hp : 0 < L.length) : ∀ a, A = some a → a.block < w.heap.size := by
  intro a ha
  obtain ⟨g, o, e, hc⟩ := h 0 L[0] (List.getElem?_eq_getElem hp)
  rw [e] at ha; cases ha
  exact lt_cell hc
theorem own_rdi {w : World} {base : Nat} {e : TypeId} {v : Value} {n : Nat} {L : List Int} (h : w.ownsRow base e 1 v n (L.map encI)) :
    ∃ A c, v = .slice A n c ∧ L.length = n ∧ RdI w A L ∧ n ≤ c := by
  have hl : L.length = n := by have := h.1; simpa using this
  rcases h.2 with ⟨rfl, rfl⟩ | ⟨g, cap, cur, rfl, _, hg, hc, _⟩
  · refine ⟨none, 0, rfl, hl, fun j x hx => ?_, Nat.le_refl _⟩
    rw [List.eq_nil_of_length_eq_zero hl] at hx
    simp at hx
  · refine ⟨some ⟨g, 0, none⟩, cap, rfl, hl, fun j x hx => ⟨g, 0, rfl, ?_⟩, hc⟩
    have hj : j < L.length := (List.getElem?_eq_some_iff.1 hx).1
    rw [Nat.zero_add, World.ownsRow.cellAt h j (by omega), List.getElem?_map, hx]
    rfl
theorem rd1_rdi {w : World} {g : Nat} {L : List Int} (h : Rd1 w g L) : RdI w (some ⟨g, 0, none⟩) L := fun j x hx => ⟨g, 0, rfl, by rw [Nat.zero_add]; exact h.2 j x hx⟩
theorem map_set (L : List Int) (k : Nat) (x : Int) : (L.set k x).map encI = (L.map encI).set k (.int .i64 x) := by rw [List.map_set]
set_option maxHeartbeats 1000000 in
theorem eqIntS_same (A B : Option Addr) (c d n : Nat) (M : List Int) (w : World) (h : RdI w A M) (h' : RdI w B M) (hn : M.length = n) (hm : n ≤ 2097152) :
    Calls Tryd.prog 8 #[.slice A n c, .slice B n d] w fun e w' => e = .returned (.bool true) ∧ Kp w w' := by
  have H := Lib.hid h
  have H' := Lib.hid h'
  have HN := Lib.hid hn
  clear h h' hn
  go_enter Tryd.func8, Tryd.ntmps8
  go_wp2_with fail
  go_loopw [5] (fun i wr => ∃ k : Nat, k ≤ n ∧ i = .int .i64 k ∧ Kp w wr) (fun i _ => n - (intOf i).toNat)
  case atStart => exact ⟨0, Nat.zero_le _, rfl, kre _⟩
  case round =>
    obtain ⟨k, hk, rfl, hb⟩ := hrel
    by_cases hlt : k < n
    · have hkx : k < M.length := by rw [HN.out]; exact hlt
      have hx? := List.getElem?_eq_getElem hkx
      obtain ⟨g, o, rfl, c0⟩ := (H.out.kp hb) k M[k] hx?
      obtain ⟨g', o', rfl, d0⟩ := (H'.out.kp hb) k M[k] hx?
      clear hx?
      generalize M[k] = x at *
      go_wp2_with fail
      go_quiet (fail)
      go_wp2_with fail
      go_roundw
      case rel => exact ⟨k + 1, by omega, by go_num, kdn hb _⟩
      case measure => (simp [intOf] <;> omega)
    · go_wp2_with fail
      go_ret
      exact ⟨rfl, hb⟩
set_option maxHeartbeats 1000000 in
theorem toIntS_any (A : Option Addr) (c n : Nat) (L : List Int) (w : World) (h : RdI w A L) (hn : L.length = n) (hm : n ≤ 1048576) :
    Calls Tryd.prog 6 #[.slice A n c] w fun e w' => ∃ v, e = .returned v ∧ w'.ownsRow w.heap.size 3 1 v n (L.map encI) ∧ Below w.heap.size w w' := by
  obtain ⟨i0, hi, hz0, hz1, hz2⟩ := info_parts infoI
  have H := Lib.hid h
  have HN := Lib.hid hn
  clear h hn
  have hmk : (Instr.makeSlice 22 (.int .i64 n) (.int .i64 n)).run Tryd.prog w = .ok (.slice (some ⟨w.heap.size, 0, none⟩) n n) (w.alloc (.cells (madeCells #[.int .i64 0] n) 3)) := by
    have h := run_make (P := Tryd.prog) w 22 3 i0 (.int .i64 0) Tryd.underlying22 hi hz0 .i64 .i64 (n : Int) (n : Int) (by omega) (Int.le_refl _) (by rw [hz2]; omega) (by omega)
    rw [Int.toNat_natCast] at h
    simpa [hz1, Value.cells] using h
  have hown0 := World.ownsRow_lit (base := w.heap.size) (e := 3) (size := 1) w (madeCells #[.int .i64 0] n) n (Nat.le_refl _) (by unfold maxLen; omega) (by rw [← Array.length_toList, toList_madeCells_one]; simp)
  rw [toList_madeCells_one] at hown0
  have hb0 : Kp w (w.alloc (.cells (madeCells #[.int .i64 0] n) 3)) := kal (kre _) _
  generalize w.alloc (.cells (madeCells #[.int .i64 0] n) 3) = w1 at *
  have HO := Lib.hid hown0
  clear hown0
  go_enter Tryd.func6, Tryd.ntmps6
  go_wp2_with fail
  clear hmk
  go_loopw [4] (fun i wr => ∃ k : Nat, k ≤ n ∧ i = .int .i64 k ∧ Hid (wr.ownsRow w.heap.size 3 1 (.slice (some ⟨w.heap.size, 0, none⟩) n n) n ((L.take k ++ List.replicate (n - k) 0).map encI)) ∧ Below w.heap.size w wr) (fun i _ => n - (intOf i).toNat)
  case atStart => exact ⟨0, Nat.zero_le _, rfl, Lib.hid (by have := HO.out; simpa using this), hb0⟩
  case round =>
    obtain ⟨k, hk, rfl, ho, hb⟩ := hrel
    by_cases hlt : k < n
    · have hkx : k < L.length := by rw [HN.out]; exact hlt
      have hx? := List.getElem?_eq_getElem hkx
      obtain ⟨g, o, rfl, hc⟩ := (H.out.kp hb) k L[k] hx?
      have hf := World.ownsRow.frozenAt ho.out k
      obtain ⟨u, hcl⟩ : ∃ u, wr.cell? ⟨w.heap.size, k, none⟩ = some u := by
        rw [World.ownsRow.cellAt ho.out k (by omega)]
        exact ⟨_, List.getElem?_eq_getElem (by have := ho.out.1; omega)⟩
      have HX := Lib.hid hx?
      clear hx?
      generalize L[k] = x at *
      have HS : Hid ((L.take k ++ List.replicate (n - k) 0).set k x = L.take (k + 1) ++ List.replicate (n - (k + 1)) 0) := Lib.hid (by
        have hl : (L.take k).length = k := by rw [List.length_take, HN.out]; omega
        rw [List.set_append_right _ _ (by omega), hl, Nat.sub_self]
        obtain ⟨m, hm⟩ : ∃ m, n - k = m + 1 := ⟨n - k - 1, by omega⟩
        rw [hm, List.replicate_succ, List.set_cons_zero, show n - (k + 1) = m from by omega, List.take_add_one, HX.out]
        simp)
      go_wp2_with fail
      go_roundw
      case rel =>
        obtain ⟨s1, s2⟩ := World.ownsRow.stored ho.out k (.int .i64 x)
        exact ⟨k + 1, by omega, by go_num, Lib.hid (by rw [← HS.out, map_set]; exact s1), hb.setCell (p := ⟨w.heap.size, k, none⟩) (Nat.le_refl _) _⟩
      case measure => simp [intOf]; omega
    · obtain rfl : k = n := by omega
      have HE : Hid (L.take k ++ List.replicate (k - k) 0 = L) := Lib.hid (by rw [List.take_of_length_le (by rw [HN.out]; exact Nat.le_refl _)]; simp)
      rw [HE.out] at ho
      go_wp2_with fail
      go_ret
      exact ⟨_, rfl, ho.out, hb⟩
/-- marks -/
def mkI (k0 n : Nat) : List Int := (List.range n).map fun j => ((k0 + j : Nat) : Int)
theorem mkI_len (k0 n : Nat) : (mkI k0 n).length = n := by simp [mkI]
theorem mkI_at {k0 n j : Nat} (h : j < n) : (mkI k0 n)[j]? = some ((k0 + j : Nat) : Int) := by
  unfold mkI
  rw [List.getElem?_map, List.getElem?_range h]
  rfl
theorem mkI_set {k0 n k : Nat} {L : List Int} (hl : L.length = n) (h : k < n) : (mkI k0 k ++ L.drop k).set k ((k0 + k : Nat) : Int) = mkI k0 (k + 1) ++ L.drop (k + 1) := by
  have hk : k < L.length := by omega
  rw [List.set_append_right _ _ (by rw [mkI_len]; exact Nat.le_refl _), mkI_len, Nat.sub_self, List.drop_eq_getElem_cons hk]
  unfold mkI
  rw [List.range_succ, List.map_append]
  simp
  rw [List.drop_eq_getElem_cons hk]
  rfl
set_option maxHeartbeats 1000000 in
theorem markI (base : Nat) (v : Value) (L : List Int) (k0 n : Nat) (w : World) (h : w.ownsRow base 3 1 v n (L.map encI)) (hn : L.length = n) (hl : k0 + n ≤ 4194304) :
    Calls Tryd.prog 11 #[v, .int .i64 k0] w fun e w' => e = .returned (.int .i64 ((k0 + n : Nat) : Int)) ∧ w'.ownsRow base 3 1 v n ((mkI k0 n).map encI) ∧ w.grownBy w' v.ownBlock := by
  rcases h.2 with ⟨rfl, rfl⟩ | ⟨g, cap, cur, rfl, hrest⟩
  · obtain rfl : L = [] := List.eq_nil_of_length_eq_zero hn
    go_enter Tryd.func11, Tryd.ntmps11
    go_wp2_with fail
    go_loop [1, 5] (fun m i => m = .int .i64 k0 ∧ i = .int .i64 0) (fun _ _ => 0)
    case atStart => exact ⟨rfl, rfl⟩
    case round =>
      obtain ⟨rfl, rfl⟩ := hrel
      go_wp2_with fail
      go_ret
      exact ⟨by simp, h, World.grownBy.refl _ _⟩
  · have HN := Lib.hid hn
    have H0 := Lib.hid h
    clear hrest
    clear h hn
    go_enter Tryd.func11, Tryd.ntmps11
    go_wp2_with fail
    go_loopw [1, 5] (fun m i wr => ∃ k : Nat, k ≤ n ∧ i = .int .i64 k ∧ m = .int .i64 ((k0 + k : Nat) : Int) ∧ Hid (wr.ownsRow base 3 1 (.slice (some ⟨g, 0, none⟩) n cap) n ((mkI k0 k ++ L.drop k).map encI)) ∧ Hid (w.grownBy wr (some g))) (fun _ i _ => n - (intOf i).toNat)
    case atStart => exact ⟨0, Nat.zero_le _, rfl, rfl, Lib.hid (by simpa [mkI] using H0.out), Lib.hid (World.grownBy.refl _ _)⟩
    case round =>
      obtain ⟨k, hk, rfl, rfl, HO, HG⟩ := hrel
      by_cases hlt : k < n
      · have hlen : (mkI k0 k ++ L.drop k).length = n := by rw [List.length_append, mkI_len, List.length_drop, HN.out]; omega
        have hc := World.ownsRow.cellAt HO.out k (by omega)
        have hz := World.ownsRow.frozenAt HO.out k
        obtain ⟨u, hu⟩ : ∃ u, ((mkI k0 k ++ L.drop k).map encI)[k]? = some u := ⟨_, List.getElem?_eq_getElem (by rw [List.length_map]; omega)⟩
        rw [hu] at hc
        have HO2 := Lib.hid (HO.out.stored k (.int .i64 ((k0 + k : Nat) : Int))).1
        rw [← map_set, mkI_set HN.out hlt] at HO2
        have HG2 : Hid (w.grownBy (wr.setCell ⟨g, k, none⟩ (.int .i64 ((k0 + k : Nat) : Int))) (some g)) := Lib.hid ⟨HG.out.os, HG.out.tape, HG.out.output, by rw [Go.Deep.nblk_setCell]; exact HG.out.size, fun j hj hne => by
          rw [Go.Deep.blk_setCell_other _ _ _ _ (fun e => hne (by rw [e]))]
          exact HG.out.block j hj hne⟩
        have hcast : ((k0 + k : Nat) : Int) = (k0 : Int) + (k : Int) := by omega
        obtain ⟨t, ht⟩ : ∃ t, k0 + k = t := ⟨_, rfl⟩
        rw [ht] at HO2 HG2
        have ht2 : t ≤ 4194304 := by omega
        simp only [ht]
        clear hu hlen hcast
        go_wp2_with fail
        go_roundw
        case rel => exact ⟨k + 1, by omega, by go_num, by rw [show k0 + (k + 1) = t + 1 by omega]; go_num, HO2, HG2⟩
        case measure => (simp [intOf] <;> omega)
      · obtain rfl : k = n := by omega
        have HE : Hid (mkI k0 k ++ L.drop k = mkI k0 k) := Lib.hid (by rw [List.drop_eq_nil_of_le (by rw [HN.out]; exact Nat.le_refl _), List.append_nil])
        go_wp2_with fail
        go_ret
        exact ⟨rfl, by rw [← HE.out]; exact HO.out, HG.out⟩
set_option maxHeartbeats 1000000 in
theorem heldI (A : Option Addr) (c k0 n : Nat) (w : World) (h : RdI w A (mkI k0 n)) (hl : k0 + n ≤ 4194304) :
    Calls Tryd.prog 12 #[.slice A n c, .int .i64 k0] w fun e w' => e = .returned (.int .i64 ((k0 + n : Nat) : Int)) ∧ Kp w w' := by
  have H := Lib.hid h
  clear h
  go_enter Tryd.func12, Tryd.ntmps12
  go_wp2_with fail
  go_loopw [1, 5] (fun m i wr => ∃ k : Nat, k ≤ n ∧ i = .int .i64 k ∧ m = .int .i64 ((k0 + k : Nat) : Int) ∧ Kp w wr) (fun _ i _ => n - (intOf i).toNat)
  case atStart => exact ⟨0, Nat.zero_le _, rfl, rfl, kre _⟩
  case round =>
    obtain ⟨k, hk, rfl, rfl, hb⟩ := hrel
    by_cases hlt : k < n
    · obtain ⟨g, o, rfl, c0⟩ := (H.out.kp hb) k _ (mkI_at hlt)
      obtain ⟨t, ht⟩ : ∃ t, k0 + k = t := ⟨_, rfl⟩
      rw [ht] at c0
      simp only [ht]
      have ht2 : t ≤ 4194304 := by omega
      go_wp2_with fail
      go_roundw
      case rel => exact ⟨k + 1, by omega, by go_num, by rw [show k0 + (k + 1) = t + 1 by omega]; go_num, hb⟩
      case measure => (simp [intOf] <;> omega)
    · obtain rfl : k = n := by omega
      go_wp2_with fail
      go_ret
      exact ⟨rfl, hb⟩
end Go.Proofs.YtilaaegdkjlifaaDoor.Nu
namespace Go.Proofs.YtilaaegdkjlifaaDoor.Nu
open Go.ChangeShapes Go.WideShapes Go.ChangeAt Go.RowKit Go.Joins Go.Deep
set_option maxRecDepth 100000 in
theorem open_intsW {H : Type} {enc : TypeId × Value → H} {W : World} {base b0 : Nat} {r : Reach} {v : Value} {d : DataW H} {ps : List MemPlace} (hv : Value.okWide Tryd.prog W r b0 22 v) (h : DataW.Trod enc Tryd.prog W base (fun _ => true) true 22 v d ps) :
    ∃ A N c L, v = .slice A N c ∧ RdI W A L ∧ L.length = N ∧ N ≤ maxLen := by
  obtain ⟨a0, n0, c0, rfl⟩ := okWide_slice Tryd.underlying22 hv
  obtain ⟨fuel, hf⟩ := h
  have e : (Value.slice a0 n0 c0).cells.toList = [.slice a0 n0 c0] := rfl
  rw [e] at hf
  rcases open_ints Tryd.underlying22 Tryd.underlying3 (by kernel_rfl) hf with ⟨hcs, _⟩ | ⟨a, len, cap, zs, hcs, _, hl, hm, hz, _, hcell, _⟩
  · cases hcs
    exact ⟨none, 0, 0, [], rfl, fun j x hx => (by simp at hx), rfl, Nat.zero_le _⟩
  · cases hcs
    simp only [if_true] at hz
    refine ⟨some a, n0, c0, zs.take n0, rfl, ?_, by rw [List.length_take]; omega, by omega⟩
    intro j x hx
    have hj : j < zs.length := by
      rcases Nat.lt_or_ge j zs.length with h | h
      · exact h
      · rw [List.getElem?_eq_none (by rw [List.length_take]; omega)] at hx; cases hx
    have hx' : zs[j]? = some x := by
      rw [List.getElem?_take] at hx
      split at hx
      · exact hx
      · cases hx
    obtain ⟨b, off, spot⟩ := a
    have hspot : spot = none := by simpa [Addr.add] using World.cell?_spot (hcell 0 (by omega))
    subst hspot
    refine ⟨b, off, rfl, ?_⟩
    have := hcell j hj
    rw [Go.WideShapes.add_plain] at this
    rw [this, List.getD_eq_getElem?_getD, hx']
    rfl
end Go.Proofs.YtilaaegdkjlifaaDoor.Nu
