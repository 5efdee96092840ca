/-
  Contracts of isNameList and l2List.
-/
import Derived.Test.YtkiogbbbigmgnaaNmV
import Derived.Test.YtkiogbbbigmgnaaOkS
namespace Go.Proofs.Ytkiogbbbigmgnaa.Jn
open Go.RowKit Pl Strs Help Name Stands SplitPl NmPl Word Part NGood Nms
open Cmp (ok_small)
set_option linter.unusedSimpArgs false
set_option linter.unusedVariables false

theorem ret_bool' {a b : Bool} (h : a = b) : Ending.returned (.bool a) = .returned (.bool b) := by rw [h]
/-- is the list of names valid -/
def okL (L : List Nm) : Bool := decide (L.length ≤ 4) && L.all Nm.ok
theorem okL_yes {L : List Nm} (h : okL L = true) : L.length ≤ 4 ∧ ∀ x ∈ L, x.ok = true := by
  unfold okL at h
  rw [Bool.and_eq_true, decide_eq_true_eq] at h
  exact ⟨h.1, List.all_eq_true.1 h.2⟩

set_option maxHeartbeats 1000000 in
theorem isList (A : Option Addr) (c N : Nat) (L : List Nm) (w : World) (h : RdNs w A L) (hn : L.length = N) (hN : N ≤ 1048576) :
    Calls Try.prog 54 #[.slice A N c] w fun e w' => e = .returned (.bool (okL L)) ∧ Below w.heap.size w w' := by
  have HV := Lib.hid (areValid A c N L w h hn hN)
  have HE : Hid (okL L = (decide (N ≤ 4) && L.all Nm.ok)) := Lib.hid (by unfold okL; rw [hn])
  clear h hn
  generalize L.all Nm.ok = r at *
  generalize okL L = z at *
  by_cases h4 : N ≤ 4
  · rw [decide_eq_true h4, Bool.true_and] at HE
    go_enter Try.func54, Try.ntmps54
    go_wp2_with fail
    refine HV.out.mono ?_
    rintro e w1 ⟨rfl, b1⟩
    go_wp2_with fail
    go_ret
    exact ⟨by rw [HE.out]; rfl, b1⟩
  · rw [decide_eq_false h4, Bool.false_and] at HE
    go_enter Try.func54, Try.ntmps54
    go_wp2_with fail
    go_ret
    exact ⟨by rw [HE.out]; rfl, Below.refl _ _⟩

set_option maxHeartbeats 2000000 in
theorem l2List (A : Option Addr) (c N : Nat) (L : List Nm) (w : World) (h : RdN0 w A L) (hn : L.length = N) (hN : N ≤ 1048576) (hz : ∀ x ∈ L, x.sz ≤ 1048576) :
    Calls Try.prog 47 #[.slice A N c] w fun e w' => e = .returned (.bool (okL L)) ∧ Below w.heap.size w w' := by
  have H := Lib.hid h
  have HN := Lib.hid hn
  have HZ := Lib.hid hz
  have HE : Hid (okL L = (decide (N ≤ 4) && L.all Nm.ok)) := Lib.hid (by unfold okL; rw [hn])
  clear h hn hz
  go_enter Try.func47, Try.ntmps47
  go_wp2_with fail
  go_loopw [3] (fun i wr => ∃ k : Nat, k ≤ N ∧ k ≤ 5 ∧ i = .int .i64 k ∧ Hid ((L.drop k).all Nm.ok = L.all Nm.ok) ∧ Below w.heap.size w wr) (fun i _ => N - (intOf i).toNat)
  case atStart => exact ⟨0, Nat.zero_le _, by omega, rfl, Lib.hid rfl, Below.refl _ _⟩
  case round =>
    obtain ⟨k, hk, hk5, rfl, HD, hb⟩ := hrel
    by_cases hlt : k < N
    · by_cases h4 : k ≤ 4
      · have hkx : k < L.length := by rw [HN.out]; exact hlt
        have hx? := List.getElem?_eq_getElem hkx
        obtain ⟨hr, g, o, rfl, hg, h0, h1, h2, h3⟩ := (H.out.below hb) k L[k] hx?
        have HO := Lib.hid (oks_drop hx?)
        have hs := HZ.out _ (List.getElem_mem hkx)
        clear hx?
        generalize L[k] = x at *
        obtain ⟨A1, n1, c1, xs, p, f, s⟩ := x
        dsimp only at hr h0 h1 h2 h3
        have hs' : xs.length + lens xs + p.size + f.size + s.size ≤ 1048576 := hs
        have HX : Hid (∀ y ∈ xs, y.size ≤ 1048576) := Lib.hid (fun y hy => by have := mem_lens hy; omega)
        have hn1 := hr.2.2
        have HR := Lib.hid hr
        clear hr hs
        cases hok : okN xs p f s with
        | false =>
          have HOK := Lib.hid hok
          clear hok
          have HF : Hid (okL L = false) := Lib.hid (by rw [HE.out, ← HD.out, HO.out]; unfold Nm.ok; rw [HOK.out]; simp)
          go_wp2_with fail
          refine (l2Good_b A1 c1 n1 xs p f s false _ HR.out.1 HR.out.2.1 HR.out.2.2 (by omega) HX.out (by omega) (by omega) (by omega) HOK.out).mono ?_
          rintro e w6 ⟨rfl, b6⟩
          go_wp2_with fail
          go_ret
          exact ⟨by rw [HF.out]; rfl, hb.trans (b6.mono hb.size)⟩
        | true =>
          have HOK := Lib.hid hok
          clear hok
          go_wp2_with fail
          refine (l2Good_b A1 c1 n1 xs p f s true _ HR.out.1 HR.out.2.1 HR.out.2.2 (by omega) HX.out (by omega) (by omega) (by omega) HOK.out).mono ?_
          rintro e w6 ⟨rfl, b6⟩
          go_wp2_with fail
          go_roundw
          case rel => exact ⟨k + 1, by omega, by omega, by go_num, Lib.hid (by rw [← HD.out, HO.out]; unfold Nm.ok; rw [HOK.out]; rfl), hb.trans (b6.mono hb.size)⟩
          case measure => simp [intOf]; omega
      · have HF : Hid (okL L = decide (N ≤ 4)) := Lib.hid (by rw [HE.out, decide_eq_false (by omega)]; rfl)
        go_wp2_with fail
        go_ret
        exact ⟨by rw [HF.out]; exact ret_bool' (by rw [Bool.eq_iff_iff]; simp; omega), hb⟩
    · have HF : Hid (okL L = decide (N ≤ 4)) := Lib.hid (by rw [HE.out, ← HD.out, List.drop_eq_nil_of_le (by rw [HN.out]; omega)]; simp)
      go_wp2_with fail
      go_ret
      exact ⟨by rw [HF.out]; exact ret_bool' (by rw [Bool.eq_iff_iff]; simp; omega), hb⟩

end Go.Proofs.Ytkiogbbbigmgnaa.Jn
