/-
  Contracts of PlainText: plainText, l10Plain, PlainText of the program and of the model.
-/
import Derived.Test.YtljbbmefemfjpaaSpG
import Derived.Test.YtljbbmefemfjpaaSpA
import Derived.Test.YtljbbmefemfjpaaBd
namespace Go.Proofs.Ytljbbmefemfjpaa.SpT
open Go.RowKit SpPl Sp SpA SpG
set_option linter.unusedSimpArgs false
set_option linter.unusedVariables false

/-- the bytes of a list of spans -/
def plL (L : List Sp1) : List UInt8 := L.flatMap fun x => x.l.data.toList
def plB (L : List Sp1) : ByteArray := ⟨(plL L).toArray⟩
theorem plL_len (L : List Sp1) : (plL L).length = szL L := by
  unfold plL szL
  induction L with
  | nil => rfl
  | cons x r ih =>
    rw [List.flatMap_cons, List.length_append, ih]
    simp
theorem plL_take {L : List Sp1} {k : Nat} {x : Sp1} (h : L[k]? = some x) : plL (L.take (k + 1)) = plL (L.take k) ++ x.l.data.toList := by
  unfold plL
  rw [List.take_add_one, h, List.flatMap_append]
  simp
theorem plB_take {L : List Sp1} {k : Nat} {x : Sp1} (h : L[k]? = some x) : plB (L.take k) ++ x.l = plB (L.take (k + 1)) := by
  apply ByteArray.ext
  unfold plB
  rw [plL_take h]
  simp
theorem plB_size (L : List Sp1) : (plB L).size = szL L := by
  rw [← plL_len L]
  unfold plB ByteArray.size
  simp
/-- what PlainText answers -/
def plA (z : Bool) (L : List Sp1) : ByteArray := if z then plB L else ⟨#[]⟩

set_option maxHeartbeats 2000000 in
theorem plain_s (A : Option Addr) (c N : Nat) (L : List Sp1) (w : World) (h : RdSp w A L) (hn : L.length = N) (hN : N ≤ 1048576) (hs : szL L ≤ 1048576) :
    Calls Try.prog 46 #[.slice A N c] w fun e w' => e = .returned (.string (plB L)) ∧ Below w.heap.size w w' := by
  have H := Lib.hid h
  have HN := Lib.hid hn
  have HL := Lib.hid hs
  clear h hn hs
  go_enter Try.func46, Try.ntmps46
  go_wp2_with fail
  go_loopw [3, 4] (fun s i wr => ∃ k : Nat, k ≤ N ∧ i = .int .i64 k ∧ s = .string (plB (L.take k)) ∧ Below w.heap.size w wr) (fun _ i _ => N - (intOf i).toNat)
  case atStart => exact ⟨0, Nat.zero_le _, rfl, rfl, Below.refl _ _⟩
  case round =>
    obtain ⟨k, hk, rfl, rfl, hb⟩ := hrel
    by_cases hlt : k < N
    · have hkx : k < L.length := by rw [HN.out]; exact hlt
      have hx? := List.getElem?_eq_getElem hkx
      obtain ⟨g, o, rfl, hg, c0, c1, c2⟩ := (H.out.below hb) k L[k] hx?
      have HP := Lib.hid (plB_take hx?)
      have HZ := Lib.hid ((plB_size (L.take (k + 1))).trans (szL_take hx?))
      have HZ0 := Lib.hid (plB_size (L.take k))
      have HLe := Lib.hid (szL_le L (k + 1))
      have HT1 := Lib.hid (szL_take hx?)
      clear hx?
      generalize L[k] = x at *
      obtain ⟨l, f, b⟩ := x
      dsimp only at c0 c1 c2 HP HZ HT1
      generalize hP1 : plB (L.take (k + 1)) = P1 at HP HZ
      generalize hP0 : plB (L.take k) = P0 at HP HZ0
      have hsz : P0.size + l.size ≤ 1048576 := by have := HL.out; have := HLe.out; have := HT1.out; have := HZ0.out; omega
      have HP1 := Lib.hid hP1
      clear hP1 hP0
      go_wp2_with fail
      go_roundw
      case rel => exact ⟨k + 1, by omega, by go_num, by rw [HP1.out, HP.out], hb⟩
      case measure => simp [intOf]; omega
    · have HE : Hid (plB (L.take k) = plB L) := Lib.hid (by rw [List.take_of_length_le (by rw [HN.out]; omega)])
      go_wp2_with fail
      go_ret
      exact ⟨by rw [HE.out]; rfl, hb⟩

set_option maxHeartbeats 2000000 in
theorem plain_i (A : Option Addr) (c N : Nat) (L : List Sp1) (w : World) (h : RdSp w A L) (hn : L.length = N) (hN : N ≤ 1048576) (hs : szL L ≤ 1048576) :
    Calls Try.prog 41 #[.slice A N c] w fun e w' => e = .returned (.string (plB L)) ∧ Below w.heap.size w w' := by
  have H := Lib.hid h
  have HN := Lib.hid hn
  have HL := Lib.hid hs
  have HB0 := Lib.hid (box_below w (.cells #[.pointer none, .slice none 0 0] 85))
  have HI0 := Lib.hid (Bd.is_new w w.heap.size (Nat.le_refl _))
  clear h hn hs
  go_enter Try.func41, Try.ntmps41
  go_wp2_with fail
  go_loopw [9] (fun i wr => ∃ k : Nat, k ≤ N ∧ i = .int .i64 k ∧ Hid (Bd.Is w.heap.size w.heap.size (Lib.byteCells (plL (L.take k))) wr) ∧ Below w.heap.size w wr ∧ w.heap.size < wr.heap.size) (fun i _ => N - (intOf i).toNat)
  case atStart => exact ⟨0, Nat.zero_le _, rfl, HI0, HB0.out, by simp⟩
  case round =>
    obtain ⟨k, hk, rfl, HI, hb, hlw⟩ := hrel
    by_cases hlt : k < N
    · have hkx : k < L.length := by rw [HN.out]; exact hlt
      have hx? := List.getElem?_eq_getElem hkx
      obtain ⟨g, o, rfl, hg, c0, c1, c2⟩ := (H.out.below hb) k L[k] hx?
      have HP := Lib.hid (plL_take hx?)
      have HZ0 := Lib.hid (plL_len (L.take k))
      have HLe := Lib.hid (szL_le L (k + 1))
      have HT1 := Lib.hid (szL_take hx?)
      clear hx?
      generalize L[k] = x at *
      obtain ⟨l, f, b⟩ := x
      dsimp only at c0 c1 c2 HP HT1
      have hsz : (plL (L.take k)).length + l.size ≤ 1048576 := by have := HL.out; have := HLe.out; have := HT1.out; have := HZ0.out; omega
      have HB5 := Lib.hid (box_below wr (.cells #[.string l, .bool f, .bool b] 70))
      have HW := Lib.hid (Bd.write w.heap.size w.heap.size (Lib.byteCells (plL (L.take k))) l _ (Bd.is_keep HI.out HB5.out) (by rw [Lib.byteCells_length]; omega) (Nat.le_trans hb.size HB5.out.size))
      go_wp2_with fail
      refine HW.out.mono ?_
      rintro e w2 ⟨rfl, h2, b2⟩
      have hb2 := (hb.trans (HB5.out.mono hb.size)).trans b2
      have hl2 : w.heap.size < w2.heap.size := by have := b2.size; have := HB5.out.size; omega
      have H2 : Hid (Bd.Is w.heap.size w.heap.size (Lib.byteCells (plL (L.take (k + 1)))) w2) := Lib.hid (by
        have e : Lib.byteCells (plL (L.take k)) ++ Lib.strCells l = Lib.byteCells (plL (L.take (k + 1))) := by
          rw [HP.out]
          simp [Lib.byteCells, Lib.strCells]
        rw [← e]
        exact h2)
      clear h2 HW b2 HI
      go_wp2_with fail
      go_roundw
      case rel => exact ⟨k + 1, by omega, by go_num, H2, hb2, hl2⟩
      case measure => simp [intOf]; omega
    · have HE : Hid (plL (L.take k) = plL L) := Lib.hid (by rw [List.take_of_length_le (by rw [HN.out]; omega)])
      have HS := Lib.hid (Try.Builder_String_any_k w.heap.size w.heap.size (plL L) wr (Lib.IsBuilderF.of (by rw [← HE.out]; exact HI.out)) hb.size)
      go_wp2_with fail
      refine HS.out.mono ?_
      rintro e w2 ⟨rfl, _, b2, _⟩
      go_wp2_with fail
      go_ret
      exact ⟨rfl, hb.trans b2⟩

end Go.Proofs.Ytljbbmefemfjpaa.SpT
