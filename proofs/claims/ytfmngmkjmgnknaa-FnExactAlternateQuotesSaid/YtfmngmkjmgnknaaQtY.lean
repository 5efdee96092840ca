/-
  The model's texts with other marks: l12Depth, l12Change, l12Quote.
-/
import Derived.Test.YtfmngmkjmgnknaaQtS
import Derived.Test.YtfmngmkjmgnknaaQtX
namespace Go.Proofs.Ytfmngmkjmgnknaa.QtY
open Go.RowKit QtPl QtB QtIn QtC QtM QtR QtS RowB Pl QtX
set_option linter.unusedSimpArgs false
set_option linter.unusedVariables false

/-- the slice at A holds the numbers M -/
def RdM (w : World) (A : Option Addr) (M : List Int) : Prop := ∀ j m, M[j]? = some m → ∃ g, A = some ⟨g, 0, none⟩ ∧ g < w.heap.size ∧ w.cell? ⟨g, j, none⟩ = some (.int .i64 m)
theorem RdM.kp {w w' : World} {A : Option Addr} {M : List Int} (h : RdM w A M) (hb : Kp w w') : RdM w' A M := by
  intro j m hm
  obtain ⟨g, e, hg, h0⟩ := h j m hm
  exact ⟨g, e, Nat.lt_of_lt_of_le hg (ksz hb), (hb.cell (p := ⟨g, j, none⟩) hg).trans h0⟩
theorem own_rm {w : World} {base g c n : Nat} {M : List Int} (h : w.ownsRow base 3 1 (.slice (some ⟨g, 0, none⟩) n c) n (mc M)) : RdM w (some ⟨g, 0, none⟩) M := by
  intro j m hm
  have hl := h.1
  rw [mc_len] at hl
  have hj := lt_of_some hm
  exact ⟨g, rfl, (h.lt g rfl).2, (World.ownsRow.cellAt h j (by omega)).trans (mc_at hm)⟩
theorem least_q (a b r : Int) (w : World) (h : min a b = r) :
    Calls Try.prog 15 #[.int .i64 a, .int .i64 b] w fun e w' => e = .returned (.int .i64 r) ∧ w = w' := by
  have H := Lib.hid h
  clear h
  go_enter Try.func15, Try.ntmps15
  go_wp2_with fail
  all_goals go_ret
  all_goals exact ⟨congrArg (fun z => Ending.returned (Value.int .i64 z)) (by have := H.out; omega), rfl⟩

set_option maxHeartbeats 2000000 in
theorem depth_s (A : Option Addr) (c n a : Nat) (b : Int) (M : List Int) (w : World) (h : RdM w A M) (hn : M.length = n) (hN : n ≤ 200) (hb : M[a]? = some b) :
    Calls Try.prog 14 #[.slice A n c, .int .i64 a] w fun e w' => e = .returned (.int .i64 (dm M a b : Nat)) ∧ Kp w w' := by
  have han : a < n := by rw [← hn]; exact lt_of_some hb
  have HR := Lib.hid h
  have HN := Lib.hid hn
  have HBb := Lib.hid hb
  clear h hn hb
  go_enter Try.func14, Try.ntmps14
  go_wp2_with fail
  go_loopw [5, 6] (fun d i wr => ∃ k : Nat, k ≤ a + 1 ∧ i = .int .i64 k ∧ (∃ m : Nat, m ≤ k ∧ Hid (((M.take k).filter fun m => decide (b ≤ m)).length = m) ∧ d = .int .i64 m) ∧ Kp w wr) (fun _ i _ => a + 1 - (intOf i).toNat)
  case atStart => exact ⟨0, Nat.zero_le _, rfl, ⟨0, Nat.zero_le _, Lib.hid rfl, rfl⟩, kre _⟩
  case round =>
    obtain ⟨k, hk, rfl, ⟨m, hm, HM, rfl⟩, hbl⟩ := hrel
    by_cases hlt : k ≤ a
    · have hkx : k < M.length := by rw [HN.out]; omega
      have hx? := List.getElem?_eq_getElem hkx
      obtain ⟨g, hA, hg, c0⟩ := (HR.out.kp hbl) k M[k] hx?
      obtain ⟨g', hA', hg', c1⟩ := (HR.out.kp hbl) a b HBb.out
      subst hA
      cases hA'
      have HT := Lib.hid (dm_take (b := b) hx?)
      clear hx?
      generalize M[k] = y at *
      by_cases hy : b ≤ y
      · have HM2 : Hid (((M.take (k + 1)).filter fun m => decide (b ≤ m)).length = m + 1) := Lib.hid (by rw [HT.out, if_pos hy, HM.out])
        clear HT
        go_wp2_with fail
        go_quiet (fail)
        go_wp2_with fail
        go_roundw
        case rel => exact ⟨k + 1, by omega, by go_num, ⟨m + 1, by omega, HM2, by go_num⟩, kdn hbl _⟩
        case measure => (simp [intOf] <;> omega)
      · have HM2 : Hid (((M.take (k + 1)).filter fun m => decide (b ≤ m)).length = m) := Lib.hid (by rw [HT.out, if_neg hy, HM.out]; rfl)
        clear HT
        go_wp2_with fail
        go_quiet (fail)
        go_wp2_with fail
        go_roundw
        case rel => exact ⟨k + 1, by omega, by go_num, ⟨m, by omega, HM2, rfl⟩, kdn hbl _⟩
        case measure => (simp [intOf] <;> omega)
    · obtain rfl : k = a + 1 := by omega
      have HE : Hid ((dm M a b : Nat) = m) := Lib.hid (by rw [← HM.out]; rfl)
      go_wp2_with fail
      go_ret
      exact ⟨by rw [HE.out]; rfl, hbl⟩
theorem rm_none {s : ByteArray} {M : List Int} {f : Nat → UInt8} {i : Nat} {m : Int} (h : M[i]? = some m) (h0 : m < 0) : rmB s M f i = bt s i := by
  unfold rmB; rw [h]; dsimp only; rw [if_neg (by omega)]

set_option maxRecDepth 100000 in
set_option maxHeartbeats 2000000 in
theorem change_s (s : ByteArray) (w : World) (hs : s.size ≤ 200) :
    Calls Try.prog 22 #[.string s] w fun e w' => e = .returned (.string ⟨(rmk s (qrun s s.size).M (oth s)).toArray⟩) ∧ Kp w w' := by
  have HPt := Lib.hid (part_s s w hs)
  have HI := Lib.hid (inv_run s s.size)
  obtain ⟨q, hq⟩ : ∃ q, qrun s s.size = q := ⟨_, rfl⟩
  unfold PtPost at HPt
  rw [hq] at HPt HI ⊢
  obtain ⟨T, hT⟩ : ∃ T : ByteArray, ⟨(rmk s q.M (oth s)).toArray⟩ = T := ⟨_, rfl⟩
  rw [hT]
  have HT0 := Lib.hid hT
  obtain ⟨n, HN⟩ : ∃ n, Hid (n = s.size) := ⟨_, Lib.hid rfl⟩
  rw [← HN.out] at HPt hs
  have HL := Lib.hid (len_size s)
  clear hq hT
  go_enter Try.func22, Try.ntmps22
  go_wp2_with fail
  refine HPt.out.mono ?_
  rintro e w1 ⟨g, c, rfl, ho, hb1⟩
  have HRm := Lib.hid (own_rm ho)
  have hb1' : Kp w w1 := hb1
  have hcv := Go.Lib.run_convert_string_bytes (P := Try.prog) w1 9 27 5 s Try.underlying9 Try.underlying27 Try.underlying5
  have HR := Lib.hid (row_new w1 s)
  have HB := Lib.hid (show Kp w1 _ from below_bytes w1 s)
  rw [← HN.out] at hcv
  generalize Lib.bytesWorld w1 5 s = W1 at *
  generalize grownCap w1 n 0 5 = cap at *
  clear ho hb1
  go_wp2_with fail
  clear hcv
  go_loopw [5] (fun i wr => ∃ k : Nat, k ≤ n ∧ i = .int .i64 k ∧ Hid (RowB wr w1.heap.size ((rmk s q.M (oth s)).take k ++ s.data.toList.drop k)) ∧ Kp w1 wr) (fun i _ => n - (intOf i).toNat)
  case atStart => exact ⟨0, Nat.zero_le _, rfl, Lib.hid (by simpa using HR.out), HB.out⟩
  case round =>
    obtain ⟨k, hk, rfl, HRk, hb⟩ := hrel
    by_cases hlt : k < n
    · have hks : k < s.size := by rw [← HN.out]; exact hlt
      have hkx : k < q.M.length := by rw [HI.out.len, ← HN.out]; exact hlt
      have hx? := List.getElem?_eq_getElem hkx
      obtain ⟨g0, hg0, hg, c0⟩ := (HRm.out.kp hb) k q.M[k] hx?
      cases hg0
      have HX := Lib.hid hx?
      clear hx?
      generalize q.M[k] = m at *
      by_cases h0 : 0 ≤ m
      · obtain ⟨hv1, hv2⟩ := low_byte HI.out HX.out h0
        rw [bt_eq hks] at hv1 hv2
        have HSt := Lib.hid (row_step (M := q.M) (f := oth s) hks)
        have hll := row_len (M := q.M) (f := oth s) (Nat.le_of_lt hks)
        have hrk := HRk.out k _ (List.getElem?_eq_getElem (by omega))
        obtain ⟨rk, zk⟩ := hrk
        have HR2 := Lib.hid (HRk.out.set (k := k) (by omega) (rmB s q.M (oth s) k))
        rw [HSt.out] at HR2
        have hb2 : Kp w1 (wr.setCell ⟨w1.heap.size, k, none⟩ (.int .u8 ((rmB s q.M (oth s) k).toNat : Int))) := Below.setCell hb (p := ⟨w1.heap.size, k, none⟩) (Nat.le_refl _) _
        rcases hv2 with hv | hv
        · have hvi : (s[k].toNat : Int) = 34 := by rw [hv]; rfl
          have hr : ((rmB s q.M (oth s) k).toNat : Int) = 39 := by rw [hv1, hv]; rfl
          rw [hr] at HR2 hb2
          clear hv1 hv hr HSt HX
          go_wp2_with fail
          go_roundw
          case rel => exact ⟨k + 1, by omega, by go_num, HR2, hb2⟩
          case measure => (simp [intOf] <;> omega)
        · have hvi : (s[k].toNat : Int) = 39 := by rw [hv]; rfl
          have hr : ((rmB s q.M (oth s) k).toNat : Int) = 34 := by rw [hv1, hv]; rfl
          rw [hr] at HR2 hb2
          clear hv1 hv hr HSt HX
          go_wp2_with fail
          go_roundw
          case rel => exact ⟨k + 1, by omega, by go_num, HR2, hb2⟩
          case measure => (simp [intOf] <;> omega)
      · have HSm := Lib.hid (row_same (M := q.M) (f := oth s) hks (rm_none HX.out (by omega)))
        rw [HSm.out] at HRk
        clear HX HSm
        go_wp2_with fail
        go_roundw
        case rel => exact ⟨k + 1, by omega, by go_num, HRk, hb⟩
        case measure => (simp [intOf] <;> omega)
    · obtain rfl : k = n := by omega
      have HE : Hid ((rmk s q.M (oth s)).take k ++ s.data.toList.drop k = rmk s q.M (oth s)) := Lib.hid (by rw [List.take_of_length_le (by rw [rmk_len, ← HN.out]; exact Nat.le_refl _), List.drop_eq_nil_of_le (by rw [HL.out, ← HN.out]; exact Nat.le_refl _), List.append_nil])
      have hst := row_str (cap := cap) HRk.out (n := k) (by rw [HE.out, rmk_len, ← HN.out])
      rw [nums_str, HE.out, HT0.out] at hst
      change (convert 27 9 (.slice (some ⟨w1.heap.size, 0, none⟩) k cap)).run Try.prog wr = .ok (.string T) wr at hst
      go_wp2_with fail
      go_ret
      exact ⟨rfl, ktr hb1' hb⟩
/-- a text between quotation marks -/
def quo (t : ByteArray) : ByteArray := ⟨#[34]⟩ ++ t ++ ⟨#[34]⟩
theorem quote_s (s : ByteArray) (w : World) (hs : s.size ≤ 200) :
    Calls Try.prog 20 #[.string s] w fun e w' => e = .returned (.string (quo ⟨(rmk s (qrun s s.size).M (oth s)).toArray⟩)) ∧ Kp w w' := by
  have HC := Lib.hid (change_s s w hs)
  have hl : (⟨(rmk s (qrun s s.size).M (oth s)).toArray⟩ : ByteArray).size = s.size := by
    show (rmk s (qrun s s.size).M (oth s)).toArray.size = s.size
    rw [List.size_toArray, rmk_len]
  generalize (⟨(rmk s (qrun s s.size).M (oth s)).toArray⟩ : ByteArray) = T at *
  go_enter Try.func20, Try.ntmps20
  go_wp2_with fail
  refine HC.out.mono ?_
  rintro e w1 ⟨rfl, b1⟩
  go_wp2_with fail
  go_ret
  exact ⟨rfl, b1⟩
end Go.Proofs.Ytfmngmkjmgnknaa.QtY
