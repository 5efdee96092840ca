/-
  Contracts of the laws' helpers szStringS, toStringS.
-/
import Derived.Test.YteccmlpibbchbaaGreatDoorRows
import Derived.Test.YteccmlpibbchbaaGreatDoorPlain
import Derived.Test.YteccmlpibbchbaaGreatDoorSplit
import Derived.Test.YteccmlpibbchbaaGreatDoorStrs
import Derived.Test.YteccmlpibbchbaaGreatDoorGSp
import Derived.WalkKit
import Derived.LoopTactic
import Derived.Lib.Hide
import Derived.Maps.AppendAt
namespace Go.Proofs.YteccmlpibbchbaaGreatDoor.Help
open Go.RowKit Pl Strs Stands

/-- the bytes of all strings together -/
def lens (xs : List ByteArray) : Nat := (xs.map (·.size)).sum
theorem lens_take_succ (xs : List ByteArray) (k : Nat) (x : ByteArray) (h : xs[k]? = some x) : lens (xs.take (k + 1)) = lens (xs.take k) + x.size := by
  unfold lens
  rw [List.take_add_one, h]
  simp
theorem lens_take_le (xs : List ByteArray) (k : Nat) : lens (xs.take k) ≤ lens xs := by
  conv => rhs; rw [← List.take_append_drop k xs]
  unfold lens
  rw [List.map_append, List.sum_append]
  omega
/-- what szStringS answers -/
def szR (left : Nat) (xs : List ByteArray) : Int := if xs.length + lens xs ≤ left then (left : Int) - xs.length - lens xs else -1

set_option maxHeartbeats 400000 in
theorem szStringS_any (A : Option Addr) (c n : Nat) (xs : List ByteArray) (left : Nat) (w : World) (h : RdS w A xs) (hn : xs.length = n) (hm : n ≤ maxLen) (hx : ∀ x ∈ xs, x.size ≤ maxLen) (hl : left ≤ 1048576) :
    Calls Tryz.prog 108 #[.slice A n c, .int .i64 left] w fun e w' => e = .returned (.int .i64 (szR left xs)) ∧ w = w' := by
  unfold maxLen at hm hx
  have H := Lib.hid h
  have HN := Lib.hid hn
  have HX := Lib.hid hx
  clear h hn hx
  by_cases h0 : left < n
  · have HE : Hid (szR left xs = -1) := Lib.hid (by unfold szR; rw [HN.out, if_neg (by omega)])
    go_enter Tryz.func108, Tryz.ntmps108
    go_wp2
    go_ret
    exact ⟨by rw [HE.out]; rfl, rfl⟩
  · go_enter Tryz.func108, Tryz.ntmps108
    go_wp2
    go_loop [1, 5] (fun l i => ∃ k t : Nat, k ≤ n ∧ i = .int .i64 k ∧ l = .int .i64 ((left : Int) - n - t) ∧ n + t ≤ left ∧ Hid (t = lens (xs.take k))) (fun _ i => n - (intOf i).toNat)
    case atStart => exact ⟨0, 0, Nat.zero_le _, rfl, by simp, by omega, Lib.hid rfl⟩
    case round =>
      obtain ⟨k, t, hk, rfl, rfl, ht, HT⟩ := hrel
      by_cases hlt : k < n
      · have hkx : k < xs.length := by rw [HN.out]; exact hlt
        obtain ⟨g, o, rfl, hc⟩ := H.out k xs[k] (List.getElem?_eq_getElem hkx)
        have hsz := HX.out xs[k] (List.getElem_mem hkx)
        have HS := Lib.hid (lens_take_succ xs k xs[k] (List.getElem?_eq_getElem hkx))
        have hle := lens_take_le xs (k + 1)
        have HL := Lib.hid hle
        clear hle
        generalize xs[k] = x at *
        by_cases hneg : left < n + t + x.size
        · have HE : Hid (szR left xs = -1) := Lib.hid (by
            have := HS.out; have := HL.out; have := HT.out
            unfold szR; rw [HN.out, if_neg (by omega)])
          go_wp2
          go_ret
          exact ⟨by rw [HE.out]; rfl, rfl⟩
        · go_wp2
          go_round
          case rel => exact ⟨k + 1, t + x.size, by omega, by go_num, by go_num, by omega, Lib.hid (by rw [HS.out, ← HT.out])⟩
          case measure => simp [intOf]; omega
      · have HE : Hid (szR left xs = (left : Int) - n - t) := Lib.hid (by
          have h1 := HT.out
          rw [List.take_of_length_le (by rw [HN.out]; omega)] at h1
          unfold szR; rw [HN.out, ← h1, if_pos (by omega)])
        go_wp2
        go_ret
        exact ⟨by rw [HE.out]; rfl, rfl⟩

/-- k strings copied, the others still empty -/
def copied (k : Nat) (xs : List ByteArray) : List Value := (xs.take k).map Value.string ++ List.replicate (xs.length - k) (.string ByteArray.empty)
theorem copied_set (xs : List ByteArray) (k : Nat) (x : ByteArray) (h : xs[k]? = some x) : (copied k xs).set k (.string x) = copied (k + 1) xs := by
  have hk : k < xs.length := (List.getElem?_eq_some_iff.1 h).1
  have hl : ((xs.take k).map Value.string).length = k := by simp; omega
  unfold copied
  rw [List.set_append_right _ _ (by omega), hl, Nat.sub_self]
  obtain ⟨m, hm⟩ : ∃ m, xs.length - k = m + 1 := ⟨xs.length - k - 1, by omega⟩
  rw [hm, List.replicate_succ, List.set_cons_zero, show xs.length - (k + 1) = m from by omega, List.take_add_one, h]
  simp

set_option maxHeartbeats 400000 in
theorem toStringS_any (A : Option Addr) (c n : Nat) (xs : List ByteArray) (w : World) (h : RdS w A xs) (hA : 0 < n → ∀ a, A = some a → a.block < w.heap.size) (hn : xs.length = n) (hm : n ≤ 1048576) :
    Calls Tryz.prog 115 #[.slice A n c] w fun e w' => ∃ v, e = .returned v ∧ w'.ownsRow w.heap.size 9 1 v n (xs.map Value.string) ∧ Below w.heap.size w w' := by
  obtain ⟨i0, hi, hz0, hz1, hz2⟩ := info_parts Split.infoStr
  have H := Lib.hid h
  have HA := Lib.hid hA
  have HN := Lib.hid hn
  clear h hA hn
  have hmk : (Instr.makeSlice 61 (.int .i64 n) (.int .i64 n)).run Tryz.prog w = .ok (.slice (some ⟨w.heap.size, 0, none⟩) n n) (w.alloc (.cells (madeCells #[.string ByteArray.empty] n) 9)) := by
    have h := run_make (P := Tryz.prog) w 61 9 i0 (.string ByteArray.empty) Tryz.underlying61 hi hz0 .i64 .i64 (n : Int) (n : Int) (by omega) (Int.le_refl _) (by rw [hz2]; omega) (by omega)
    rw [Int.toNat_natCast] at h
    simpa [hz1, Value.cells] using h
  have hown0 := World.ownsRow_lit (base := w.heap.size) (e := 9) (size := 1) w (madeCells #[.string ByteArray.empty] n) n (Nat.le_refl _) (by unfold maxLen; omega) (by rw [← Array.length_toList, toList_madeCells_one]; simp)
  rw [toList_madeCells_one] at hown0
  have hb0 : Below w.heap.size w (w.alloc (.cells (madeCells #[.string ByteArray.empty] n) 9)) := (Below.refl _ w).alloc (Nat.le_refl _) _
  generalize w.alloc (.cells (madeCells #[.string ByteArray.empty] n) 9) = w1 at *
  have HO := Lib.hid hown0
  clear hown0
  go_enter Tryz.func115, Tryz.ntmps115
  go_wp2
  clear hmk
  go_loopw [4] (fun i wr => ∃ k : Nat, k ≤ n ∧ i = .int .i64 k ∧ Hid (wr.ownsRow w.heap.size 9 1 (.slice (some ⟨w.heap.size, 0, none⟩) n n) n (copied k xs)) ∧ Below w.heap.size w wr) (fun i _ => n - (intOf i).toNat)
  case atStart => exact ⟨0, Nat.zero_le _, rfl, Lib.hid (by have := HO.out; unfold copied; rw [HN.out]; simpa using this), hb0⟩
  case round =>
    obtain ⟨k, hk, rfl, ho, hb⟩ := hrel
    by_cases hlt : k < n
    · have hkx : k < xs.length := by rw [HN.out]; exact hlt
      have hx? := List.getElem?_eq_getElem hkx
      obtain ⟨g, o, rfl, hc0⟩ := H.out k xs[k] hx?
      have hg : g < w.heap.size := HA.out (by omega) _ rfl
      have hc : wr.cell? ⟨g, o + k, none⟩ = some (.string xs[k]) := (hb.cell (p := ⟨g, o + k, none⟩) hg).trans hc0
      have hf := World.ownsRow.frozenAt ho.out k
      obtain ⟨u, hcl⟩ : ∃ u, wr.cell? ⟨w.heap.size, k, none⟩ = some u := by
        rw [World.ownsRow.cellAt ho.out k (by omega)]
        exact ⟨_, List.getElem?_eq_getElem (by have := ho.out.1; omega)⟩
      have HX := Lib.hid hx?
      clear hc0 hx?
      generalize xs[k] = x at *
      go_wp2
      go_roundw
      case rel =>
        obtain ⟨s1, s2⟩ := World.ownsRow.stored ho.out k (.string x)
        exact ⟨k + 1, by omega, by go_num, Lib.hid (by rw [← copied_set xs k x HX.out]; exact s1), hb.setCell (p := ⟨w.heap.size, k, none⟩) (Nat.le_refl _) _⟩
      case measure => simp [intOf]; omega
    · obtain rfl : k = n := by omega
      have HE : Hid (copied k xs = xs.map Value.string) := Lib.hid (by unfold copied; rw [HN.out, List.take_of_length_le (by rw [HN.out]; omega)]; simp)
      go_wp2
      go_ret
      exact ⟨_, rfl, by rw [← HE.out]; exact ho.out, hb⟩
end Go.Proofs.YteccmlpibbchbaaGreatDoor.Help
