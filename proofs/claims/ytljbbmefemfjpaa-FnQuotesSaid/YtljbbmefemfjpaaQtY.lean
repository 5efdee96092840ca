/-
  The model's texts with other marks: l12Depth, l12Change, l12Quote.
-/
import Derived.Test.YtljbbmefemfjpaaQtS
import Derived.Test.YtljbbmefemfjpaaQtX
import Derived.Test.YtljbbmefemfjpaaQtE
namespace Go.Proofs.Ytljbbmefemfjpaa.QtY
open Go.RowKit QtPl QtB QtIn QtC QtM QtR QtS RowB Pl QtX QtE
set_option linter.unusedSimpArgs false
set_option linter.unusedVariables false

theorem rm_none {s : ByteArray} {M : List Int} {f : Nat → UInt8} {i : Nat} {m : Int} (h : M[i]? = some m) (h0 : m < 0) : rmB s M f i = bt s i := by
  unfold rmB; rw [h]; dsimp only; rw [if_neg (by omega)]

set_option maxRecDepth 100000 in
set_option maxHeartbeats 2000000 in
theorem change_s (s : ByteArray) (w : World) (hs : s.size ≤ 200) :
    Calls Try.prog 38 #[.string s] w fun e w' => e = .returned (.string ⟨(rmk s (qrun s s.size).M (oth s)).toArray⟩) ∧ Kp w w' := by
  have HPt := Lib.hid (part_s s w hs)
  have HI := Lib.hid (inv_run s s.size)
  obtain ⟨q, hq⟩ : ∃ q, qrun s s.size = q := ⟨_, rfl⟩
  unfold PtPost at HPt
  rw [hq] at HPt HI ⊢
  obtain ⟨T, hT⟩ : ∃ T : ByteArray, ⟨(rmk s q.M (oth s)).toArray⟩ = T := ⟨_, rfl⟩
  rw [hT]
  have HT0 := Lib.hid hT
  obtain ⟨n, HN⟩ : ∃ n, Hid (n = s.size) := ⟨_, Lib.hid rfl⟩
  rw [← HN.out] at HPt hs
  have HL := Lib.hid (len_size s)
  clear hq hT
  go_enter Try.func38, Try.ntmps38
  go_wp2_with fail
  refine HPt.out.mono ?_
  rintro e w1 ⟨g, c, rfl, ho, hb1⟩
  have HRm := Lib.hid (own_rm ho)
  have hb1' : Kp w w1 := hb1
  have hcv := Go.Lib.run_convert_string_bytes (P := Try.prog) w1 9 22 5 s Try.underlying9 Try.underlying22 Try.underlying5
  have HR := Lib.hid (row_new w1 s)
  have HB := Lib.hid (show Kp w1 _ from below_bytes w1 s)
  rw [← HN.out] at hcv
  generalize Lib.bytesWorld w1 5 s = W1 at *
  generalize grownCap w1 n 0 5 = cap at *
  clear ho hb1
  go_wp2_with fail
  clear hcv
  go_loopw [5] (fun i wr => ∃ k : Nat, k ≤ n ∧ i = .int .i64 k ∧ Hid (RowB wr w1.heap.size ((rmk s q.M (oth s)).take k ++ s.data.toList.drop k)) ∧ Kp w1 wr) (fun i _ => n - (intOf i).toNat)
  case atStart => exact ⟨0, Nat.zero_le _, rfl, Lib.hid (by simpa using HR.out), HB.out⟩
  case round =>
    obtain ⟨k, hk, rfl, HRk, hb⟩ := hrel
    by_cases hlt : k < n
    · have hks : k < s.size := by rw [← HN.out]; exact hlt
      have hkx : k < q.M.length := by rw [HI.out.len, ← HN.out]; exact hlt
      have hx? := List.getElem?_eq_getElem hkx
      obtain ⟨g0, hg0, hg, c0⟩ := (HRm.out.kp hb) k q.M[k] hx?
      cases hg0
      have HX := Lib.hid hx?
      clear hx?
      generalize q.M[k] = m at *
      by_cases h0 : 0 ≤ m
      · obtain ⟨hv1, hv2⟩ := low_byte HI.out HX.out h0
        rw [bt_eq hks] at hv1 hv2
        have HSt := Lib.hid (row_step (M := q.M) (f := oth s) hks)
        have hll := row_len (M := q.M) (f := oth s) (Nat.le_of_lt hks)
        have hrk := HRk.out k _ (List.getElem?_eq_getElem (by omega))
        obtain ⟨rk, zk⟩ := hrk
        have HR2 := Lib.hid (HRk.out.set (k := k) (by omega) (rmB s q.M (oth s) k))
        rw [HSt.out] at HR2
        have hb2 : Kp w1 (wr.setCell ⟨w1.heap.size, k, none⟩ (.int .u8 ((rmB s q.M (oth s) k).toNat : Int))) := Below.setCell hb (p := ⟨w1.heap.size, k, none⟩) (Nat.le_refl _) _
        rcases hv2 with hv | hv
        · have hvi : (s[k].toNat : Int) = 34 := by rw [hv]; rfl
          have hr : ((rmB s q.M (oth s) k).toNat : Int) = 39 := by rw [hv1, hv]; rfl
          rw [hr] at HR2 hb2
          clear hv1 hv hr HSt HX
          go_wp2_with fail
          go_roundw
          case rel => exact ⟨k + 1, by omega, by go_num, HR2, hb2⟩
          case measure => (simp [intOf] <;> omega)
        · have hvi : (s[k].toNat : Int) = 39 := by rw [hv]; rfl
          have hr : ((rmB s q.M (oth s) k).toNat : Int) = 34 := by rw [hv1, hv]; rfl
          rw [hr] at HR2 hb2
          clear hv1 hv hr HSt HX
          go_wp2_with fail
          go_roundw
          case rel => exact ⟨k + 1, by omega, by go_num, HR2, hb2⟩
          case measure => (simp [intOf] <;> omega)
      · have HSm := Lib.hid (row_same (M := q.M) (f := oth s) hks (rm_none HX.out (by omega)))
        rw [HSm.out] at HRk
        clear HX HSm
        go_wp2_with fail
        go_roundw
        case rel => exact ⟨k + 1, by omega, by go_num, HRk, hb⟩
        case measure => (simp [intOf] <;> omega)
    · obtain rfl : k = n := by omega
      have HE : Hid ((rmk s q.M (oth s)).take k ++ s.data.toList.drop k = rmk s q.M (oth s)) := Lib.hid (by rw [List.take_of_length_le (by rw [rmk_len, ← HN.out]; exact Nat.le_refl _), List.drop_eq_nil_of_le (by rw [HL.out, ← HN.out]; exact Nat.le_refl _), List.append_nil])
      have hst := row_str (cap := cap) HRk.out (n := k) (by rw [HE.out, rmk_len, ← HN.out])
      rw [nums_str, HE.out, HT0.out] at hst
      change (convert 22 9 (.slice (some ⟨w1.heap.size, 0, none⟩) k cap)).run Try.prog wr = .ok (.string T) wr at hst
      go_wp2_with fail
      go_ret
      exact ⟨rfl, ktr hb1' hb⟩
/-- a text between quotation marks -/
def quo (t : ByteArray) : ByteArray := ⟨#[34]⟩ ++ t ++ ⟨#[34]⟩
theorem quote_s (s : ByteArray) (w : World) (hs : s.size ≤ 200) :
    Calls Try.prog 26 #[.string s] w fun e w' => e = .returned (.string (quo ⟨(rmk s (qrun s s.size).M (oth s)).toArray⟩)) ∧ Kp w w' := by
  have HC := Lib.hid (change_s s w hs)
  have hl : (⟨(rmk s (qrun s s.size).M (oth s)).toArray⟩ : ByteArray).size = s.size := by
    show (rmk s (qrun s s.size).M (oth s)).toArray.size = s.size
    rw [List.size_toArray, rmk_len]
  generalize (⟨(rmk s (qrun s s.size).M (oth s)).toArray⟩ : ByteArray) = T at *
  go_enter Try.func26, Try.ntmps26
  go_wp2_with fail
  refine HC.out.mono ?_
  rintro e w1 ⟨rfl, b1⟩
  go_wp2_with fail
  go_ret
  exact ⟨rfl, b1⟩
end Go.Proofs.Ytljbbmefemfjpaa.QtY
