/-
  Contracts of the laws' helpers that mark lists of spans: markSpanS, heldSpanS.
-/
import Derived.Test.YtadlcchbjccejaaSpH
import Derived.Test.YtadlcchbjccejaaMarks
namespace Go.Proofs.Ytadlcchbjccejaa.SpMk
open Go.RowKit SpPl Sp
open Strs (mkT markText_any grown_trans)
set_option linter.unusedSimpArgs false
set_option linter.unusedVariables false

def mk1 (k i : Nat) : Sp1 := ⟨mkT (k + 3 * i), (((k + 3 * i : Nat) : Int) + 1) % 3 == 0, (((k + 3 * i : Nat) : Int) + 2) % 3 == 0⟩
/-- the marks from k on, as spans -/
def mks (k n : Nat) : List Sp1 := (List.range n).map (mk1 k)
theorem mks_len (k n : Nat) : (mks k n).length = n := by simp [mks]
theorem mks_at {k n j : Nat} (h : j < n) : (mks k n)[j]? = some (mk1 k j) := by simp [mks, h]
theorem mks_set {k j : Nat} {L : List Sp1} (h : j < L.length) : (mks k j ++ L.drop j).set j (mk1 k j) = mks k (j + 1) ++ L.drop (j + 1) := by
  rw [List.set_append_right _ _ (by rw [mks_len]; exact Nat.le_refl _), mks_len, Nat.sub_self, List.drop_eq_getElem_cons h, List.set_cons_zero]
  unfold mks
  rw [List.range_succ, List.map_append, List.append_assoc]
  rfl
theorem grown_below {w w1 w2 : World} {row : Option Nat} (h : w.grownBy w1 row) (hb : Below w1.heap.size w1 w2) : w.grownBy w2 row :=
  ⟨hb.os.trans h.os, hb.tape.trans h.tape, hb.output.trans h.output, Nat.le_trans h.size hb.size, fun k hk hr => (hb.block k (Nat.lt_of_lt_of_le hk h.size)).trans (h.block k hk hr)⟩

set_option maxHeartbeats 2000000 in
theorem mark_own (base : Nat) (v : Value) (L : List Sp1) (k0 n : Nat) (w : World) (h : w.ownsRow base 38 3 v n (pcells L)) (hn : L.length = n) (h0 : 0 < k0) (hl : k0 + 3 * n ≤ 4194304) :
    Calls Try.prog 9 #[v, .int .i64 k0] w fun e w' => e = .returned (.int .i64 ((k0 + 3 * n : Nat) : Int)) ∧ w'.ownsRow base 38 3 v n (pcells (mks k0 n)) ∧ w.grownBy w' v.ownBlock := by
  rcases h.2 with ⟨rfl, rfl⟩ | ⟨g, cap, cur, rfl, hrest⟩
  · obtain rfl : L = [] := List.eq_nil_of_length_eq_zero hn
    go_enter Try.func9, Try.ntmps9
    go_wp2_with fail
    go_loop [1, 5] (fun m i => m = .int .i64 k0 ∧ i = .int .i64 0) (fun _ _ => 0)
    case atStart => exact ⟨rfl, rfl⟩
    case round =>
      obtain ⟨rfl, rfl⟩ := hrel
      go_wp2_with fail
      go_ret
      exact ⟨by simp, World.ownsRow_nil _ _ _ _, World.grownBy.refl _ _⟩
  · clear hrest
    have HN := Lib.hid hn
    have H : Hid (w.ownsRow base 38 3 (.slice (some ⟨g, 0, none⟩) n cap) n (pcells (mks k0 0 ++ L.drop 0))) := Lib.hid (by simpa [mks] using h)
    clear hn h cur
    go_enter Try.func9, Try.ntmps9
    go_wp2_with fail
    go_loopw [1, 5] (fun m i wr => ∃ k : Nat, k ≤ n ∧ i = .int .i64 k ∧ (∃ q : Nat, q = k0 + 3 * k ∧ m = .int .i64 q) ∧ Hid (wr.ownsRow base 38 3 (.slice (some ⟨g, 0, none⟩) n cap) n (pcells (mks k0 k ++ L.drop k))) ∧ w.grownBy wr (some g)) (fun _ i _ => n - (intOf i).toNat)
    case atStart => exact ⟨0, Nat.zero_le _, rfl, ⟨k0, rfl, rfl⟩, H, World.grownBy.refl _ _⟩
    case round =>
      obtain ⟨k, hk, rfl, ⟨q, hq, rfl⟩, ho, hgr⟩ := hrel
      by_cases hlt : k < n
      · have hx : k < L.length := by rw [HN.out]; exact hlt
        have HSt := Lib.hid (mks_set (k := k0) hx)
        have hml : Hid ((mks k0 k ++ L.drop k).length = n) := Lib.hid (by rw [List.length_append, mks_len, List.length_drop, HN.out]; omega)
        have HQ := Lib.hid hq
        have HT := Lib.hid (fun w => markText_any q w (by omega) (by omega))
        have hqb : q + 3 ≤ 4194304 := by omega
        clear hx hq
        go_wp2_with fail
        refine (HT.out _).mono ?_
        rintro e w1 ⟨rfl, b1⟩
        have ho1 := own_kept ho.out b1
        have hpl : (pcells (mks k0 k ++ L.drop k)).length = n * 3 := by rw [pcells_len, hml.out]
        have f0 := World.ownsRow.frozenAt ho1 (k * 3)
        have f1 := World.ownsRow.frozenAt ho1 (k * 3 + 1)
        have f2 := World.ownsRow.frozenAt ho1 (k * 3 + 2)
        obtain ⟨u0, v0⟩ : ∃ u, w1.cell? ⟨g, k * 3, none⟩ = some u := by rw [World.ownsRow.cellAt ho1 (k * 3) (by omega)]; exact ⟨_, List.getElem?_eq_getElem (by omega)⟩
        obtain ⟨u1, v1⟩ : ∃ u, w1.cell? ⟨g, k * 3 + 1, none⟩ = some u := by rw [World.ownsRow.cellAt ho1 (k * 3 + 1) (by omega)]; exact ⟨_, List.getElem?_eq_getElem (by omega)⟩
        obtain ⟨u2, v2⟩ : ∃ u, w1.cell? ⟨g, k * 3 + 2, none⟩ = some u := by rw [World.ownsRow.cellAt ho1 (k * 3 + 2) (by omega)]; exact ⟨_, List.getElem?_eq_getElem (by omega)⟩
        have s1 := ho1.stored (k * 3) (.string (mkT q))
        have s2 := s1.1.stored (k * 3 + 1) (.bool (((q : Int) + 1) % 3 == 0))
        have s3 := s2.1.stored (k * 3 + 2) (.bool (((q : Int) + 2) % 3 == 0))
        have HS3 := Lib.hid s3.1
        have HG3 := Lib.hid (grown_trans (grown_trans (grown_trans (grown_below hgr b1) s1.2) s2.2) s3.2)
        clear s1 s2 s3 ho ho1 b1 hgr hpl
        have e2 : ((q : Int) + 1 + 1) = (q : Int) + 2 := by omega
        go_wp2_with fail
        go_roundw
        case rel =>
          refine ⟨k + 1, by omega, by go_num, ⟨q + 3, by have := HQ.out; omega, by go_num⟩, Lib.hid ?_, HG3.out⟩
          have hset := pcells_set (L := mks k0 k ++ L.drop k) (k := k) (mk1 k0 k) (by rw [hml.out]; exact hlt)
          rw [HSt.out] at hset
          rw [← hset]
          have hh := HS3.out
          have e0 : mkT q = (mk1 k0 k).l := by rw [HQ.out]; rfl
          have e1 : (((q : Int) + 1) % 3 == 0) = (mk1 k0 k).f := by rw [HQ.out]; rfl
          have e3 : (((q : Int) + 2) % 3 == 0) = (mk1 k0 k).t := by rw [HQ.out]; rfl
          rw [e0, e1, e3] at hh
          first | exact hh | (simpa [e0, e1, e3] using hh)
        case measure => (simp [intOf] <;> omega)
      · obtain rfl : k = n := by omega
        have HE : Hid (mks k0 k ++ L.drop k = mks k0 k) := Lib.hid (by rw [List.drop_eq_nil_of_le (by rw [HN.out]; exact Nat.le_refl _), List.append_nil])
        subst hq
        go_wp2_with fail
        go_ret
        exact ⟨rfl, by rw [← HE.out]; exact ho.out, hgr⟩

set_option maxHeartbeats 2000000 in
theorem held_marks (A : Option Addr) (c k0 n : Nat) (w : World) (h : RdSp w A (mks k0 n)) (h0 : 0 < k0) (hl : k0 + 3 * n ≤ 4194304) :
    Calls Try.prog 10 #[.slice A n c, .int .i64 k0] w fun e w' => e = .returned (.int .i64 ((k0 + 3 * n : Nat) : Int)) ∧ Below w.heap.size w w' := by
  have H := Lib.hid h
  clear h
  go_enter Try.func10, Try.ntmps10
  go_wp2_with fail
  go_loopw [1, 5] (fun m i wr => ∃ k : Nat, k ≤ n ∧ i = .int .i64 k ∧ (∃ q : Nat, q = k0 + 3 * k ∧ m = .int .i64 q) ∧ Below w.heap.size w wr) (fun _ i _ => n - (intOf i).toNat)
  case atStart => exact ⟨0, Nat.zero_le _, rfl, ⟨k0, rfl, rfl⟩, Below.refl _ _⟩
  case round =>
    obtain ⟨k, hk, rfl, ⟨q, hq, rfl⟩, hb⟩ := hrel
    by_cases hlt : k < n
    · obtain ⟨g, o, rfl, hg, c0, c1, c2⟩ := (H.out.below hb) k _ (mks_at hlt)
      have e0 : (mk1 k0 k).l = mkT q := by rw [hq]; rfl
      have e1 : (mk1 k0 k).f = (((q : Int) + 1) % 3 == 0) := by rw [hq]; rfl
      have e2 : (mk1 k0 k).t = (((q : Int) + 2) % 3 == 0) := by rw [hq]; rfl
      rw [e0] at c0
      rw [e1] at c1
      rw [e2] at c2
      have HT := Lib.hid (fun w => markText_any q w (by omega) (by omega))
      have HS : Hid (∀ w', Kp wr w' → (w'.cell? ⟨g, o + k * 3, none⟩ = some (.string (mkT q)) ∧ Kp wr w')) := Lib.hid (fun w' h => ⟨(h.cell (p := ⟨g, o + k * 3, none⟩) hg).trans c0, h⟩)
      have HC : Hid (∀ w', Kp wr w' → (w'.cell? ⟨g, o + k * 3 + 1, none⟩ = some (.bool (((q : Int) + 1) % 3 == 0)) ∧ w'.cell? ⟨g, o + k * 3 + 2, none⟩ = some (.bool (((q : Int) + 2) % 3 == 0)))) := Lib.hid (fun w' h => ⟨(h.cell (p := ⟨g, o + k * 3 + 1, none⟩) hg).trans c1, (h.cell (p := ⟨g, o + k * 3 + 2, none⟩) hg).trans c2⟩)
      have HK0 := Lib.hid (Kp.drew wr)
      have HQ := Lib.hid hq
      have hI0 : (0 : Int) ≤ (k : Int) := Int.natCast_nonneg _
      have hI1 : (k : Int) < (n : Int) := by omega
      clear c0 c1 c2 e0 e1 e2 hq
      go_wp2_with fail
      go_region_held3 (fun w' => w'.cell? ⟨g, o + k * 3, none⟩ = some (.string (mkT q)) ∧ Kp wr w')
        (first | exact HS.out _ HK0.out | exact HS.out _ (by assumption))
        (first
          | (go_at_call 24; with_reducible refine (HT.out _).mono ?_; rintro e w1 ⟨rfl, b1⟩; have hk1 : Kp wr w1 := Kp.next HK0.out b1)
          | fail)
      (try clear hHeld)
      obtain ⟨d1, d2⟩ := HC.out _ hk1
      have hb1 := hb.trans (Below.mono hk1 hb.size)
      have hqb : q ≤ 4194304 := by have := HQ.out; omega
      have e2 : ((q : Int) + 1 + 1) = (q : Int) + 2 := by omega
      clear hk1 b1 HS HC HK0
      go_wp2_with fail
      go_roundw
      case rel => exact ⟨k + 1, by omega, by go_num, ⟨q + 3, by have := HQ.out; omega, by go_num⟩, hb1⟩
      case measure => (simp [intOf] <;> omega)
    · obtain rfl : k = n := by omega
      subst hq
      go_wp2_with fail
      go_ret
      exact ⟨rfl, hb⟩
end Go.Proofs.Ytadlcchbjccejaa.SpMk
