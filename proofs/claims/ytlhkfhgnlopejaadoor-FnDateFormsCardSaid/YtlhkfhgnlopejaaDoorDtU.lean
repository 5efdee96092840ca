/-
  Drawing functions of chapter 3: DrawCompareDates, DrawMergeDates.
-/
import Derived.Test.YtlhkfhgnlopejaaDoorDtT
namespace Go.Proofs.YtlhkfhgnlopejaaDoor.DtD
set_option linter.ambiguousOpen false
open Go.RowKit Pl Cur Draw0 Among DtPl Dt Law2 Go.Proofs.YtlhkfhgnlopejaaDoor.St
set_option linter.unusedSimpArgs false
set_option linter.unusedVariables false
set_option linter.ambiguousOpen false

def DrawnTwo (w : World) (e : Ending) (w' : World) : Prop := ∃ y mo d ci y' mo' d' ci', e = .returned (.tuple #[dtV y mo d ci, dtV y' mo' d' ci']) ∧ Below w.heap.size w w'
theorem two_zero (w : World) : D4F ((w.alloc (.cells #[.int .i64 0, .int .i64 0, .int .i64 0, .bool false] 25)).alloc (.cells #[.int .i64 0, .int .i64 0, .int .i64 0, .bool false] 25)) w.heap.size 0 0 0 false ∧ D4F ((w.alloc (.cells #[.int .i64 0, .int .i64 0, .int .i64 0, .bool false] 25)).alloc (.cells #[.int .i64 0, .int .i64 0, .int .i64 0, .bool false] 25)) (w.heap.size + 1) 0 0 0 false := by
  refine ⟨D4F.below (box_below _ _) (D4F.new w 0 0 0 false 25), ?_⟩
  have h := D4F.new (w.alloc (.cells #[.int .i64 0, .int .i64 0, .int .i64 0, .bool false] 25)) 0 0 0 false 25
  rwa [show (w.alloc (.cells #[.int .i64 0, .int .i64 0, .int .i64 0, .bool false] 25)).heap.size = w.heap.size + 1 by simp] at h

set_option maxHeartbeats 1000000 in
theorem drawCompare (A : Option Addr) (n c : Nat) (w : World) (hn : n ≤ 65536) (hr : RdB w A n) (ha : Apart A n w.heap.size) :
    Calls Tryd.prog 10 #[.slice A n c] w (DrawnTwo w) := by
  have HZ := Lib.hid (two_zero w)
  have HB := Lib.hid (box2 w (.cells #[.int .i64 0, .int .i64 0, .int .i64 0, .bool false] 25) (.cells #[.int .i64 0, .int .i64 0, .int .i64 0, .bool false] 25))
  have HR := Lib.hid (rdb_below hr ha HB.out)
  have HA := Lib.hid ha
  clear hr ha
  go_enter Tryd.func10, Tryd.ntmps10
  go_wp2_with fail
  have HSz : Hid (((w.alloc (.cells #[.int .i64 0, .int .i64 0, .int .i64 0, .bool false] 25)).alloc (.cells #[.int .i64 0, .int .i64 0, .int .i64 0, .bool false] 25)).heap.size = w.heap.size + 1 + 1) := Lib.hid (by simp)
  generalize hW : (w.alloc (.cells #[.int .i64 0, .int .i64 0, .int .i64 0, .bool false] 25)).alloc (.cells #[.int .i64 0, .int .i64 0, .int .i64 0, .bool false] 25) = w1 at HZ HB HR HSz ⊢
  clear hW
  have HA1 : Hid (Apart A n w1.heap.size) := Lib.hid (fun hp a h => Nat.lt_of_lt_of_le (HA.out hp a h) HB.out.size)
  have HC := Lib.hid (cur_new w1 A n c)
  have HR2 := Lib.hid (rdb_new HR.out HA1.out (.cells #[.slice A n c, .int .i64 0, .int .u64 0] 49))
  rw [HSz.out] at HC HA1
  refine (twoDates_any (w.heap.size + 1 + 1) A n c 0 0 _ (by omega) (by omega) HC.out HR2.out HA1.out).mono ?_
  rintro e w2 ⟨y, m, d, ci, y', m', d', ci', rfl, hl⟩
  have hg := hl.2
  rw [← HSz.out] at hg
  have hbn : Below w1.heap.size w1 w2 := below_new hg
  clear hg
  have HP := Lib.hid (D4F.below hbn HZ.out.1)
  have HQ := Lib.hid (D4F.below hbn HZ.out.2)
  have k2 := HB.out.trans (hbn.mono HB.out.size)
  clear hl hbn HZ HB HR HC HR2 HA1 HSz
  obtain ⟨⟨pl, p0, p1, p2, p3⟩, pf0, pf1, pf2, pf3⟩ := HP.out
  obtain ⟨⟨ql, q0, q1, q2, q3⟩, qf0, qf1, qf2, qf3⟩ := HQ.out
  go_wp2_with fail
  clear pl p0 p1 p2 p3 pf0 pf1 pf2 pf3 ql q0 q1 q2 q3 qf0 qf1 qf2 qf3
  obtain ⟨k3, hp3, hq3⟩ := fin8 k2 (Nat.le_refl _) (Nat.le_succ _) (Nat.ne_of_lt (Nat.lt_succ_self _)) HP.out HQ.out y m d y' m' d' ci ci'
  generalize hX : (((((((w2.setCell ⟨w.heap.size, 0, none⟩ (.int .i64 y)).setCell ⟨w.heap.size, 1, none⟩ (.int .i64 m)).setCell ⟨w.heap.size, 2, none⟩ (.int .i64 d)).setCell ⟨w.heap.size, 3, none⟩ (.bool ci)).setCell ⟨w.heap.size + 1, 0, none⟩ (.int .i64 y')).setCell ⟨w.heap.size + 1, 1, none⟩ (.int .i64 m')).setCell ⟨w.heap.size + 1, 2, none⟩ (.int .i64 d')).setCell ⟨w.heap.size + 1, 3, none⟩ (.bool ci') = W3 at k3 hp3 hq3 ⊢
  clear hX
  obtain ⟨_, u0, u1, u2, u3⟩ := hp3
  obtain ⟨_, t0, t1, t2, t3⟩ := hq3
  exact bodyPost_ret (v := .tuple #[dtV y m d ci, dtV y' m' d' ci']) (by simp [results, Tryd.results10, go_sem, u0, u1, u2, u3, t0, t1, t2, t3]) rfl ⟨_, _, _, _, _, _, _, _, rfl, k3⟩

theorem mg_cases (y m d : Int) (c : Bool) (y' m' d' : Int) (c' : Bool) : mgV y m d c y' m' d' c' = zeroV ∨ (okB y m d c = true ∧ okB y' m' d' c' = true ∧ rfB y m d c y' m' d' c' = true ∧ mgV y m d c y' m' d' c' = .tuple #[dtV y m d c, .bool true]) ∨ (okB y m d c = true ∧ okB y' m' d' c' = true ∧ rfB y' m' d' c' y m d c = true ∧ mgV y m d c y' m' d' c' = .tuple #[dtV y' m' d' c', .bool true]) := by
  unfold mgV
  by_cases h : okB y m d c = true ∧ okB y' m' d' c' = true
  · rw [if_pos h]
    by_cases h1 : rfB y m d c y' m' d' c' = true
    · rw [if_pos h1]; exact .inr (.inl ⟨h.1, h.2, h1, rfl⟩)
    · rw [if_neg h1]
      by_cases h2 : rfB y' m' d' c' y m d c = true
      · rw [if_pos h2]; exact .inr (.inr ⟨h.1, h.2, h2, rfl⟩)
      · rw [if_neg h2]; exact .inl rfl
  · rw [if_neg h]; exact .inl rfl
theorem rf_refl (y m d : Int) (c : Bool) : rfB y m d c y m d c = true := (rf_eq (b := true) ⟨fun _ => .inr ⟨rfl, .inr rfl, .inr rfl, id⟩, fun _ => rfl⟩).symm
end Go.Proofs.YtlhkfhgnlopejaaDoor.DtD
