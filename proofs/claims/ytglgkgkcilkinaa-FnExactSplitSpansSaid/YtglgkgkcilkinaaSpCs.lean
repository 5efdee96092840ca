/-
  l12Split of the model.
-/
import Derived.Test.YtglgkgkcilkinaaSpCi
namespace Go.Proofs.Ytglgkgkcilkinaa.SpCs
open Go.RowKit SpPl Sp SpA SpB SpG SpNs SpNi SpN SpCi
set_option linter.unusedSimpArgs false
set_option linter.unusedVariables false

theorem ret_int {k : IntKind} {a b : Int} (h : a = b) : Ending.returned (.int k a) = .returned (.int k b) := by rw [h]
theorem most_q (a b r : Int) (w : World) (h : max a b = r) :
    Calls Try.prog 29 #[.int .i64 a, .int .i64 b] w fun e w' => e = .returned (.int .i64 r) ∧ w' = w := by
  have H := Lib.hid h
  clear h
  go_enter Try.func29, Try.ntmps29
  go_wp2_with fail
  all_goals go_ret
  all_goals exact ⟨ret_int (by have := H.out; omega), rfl⟩
theorem least_q (a b r : Int) (w : World) (h : min a b = r) :
    Calls Try.prog 28 #[.int .i64 a, .int .i64 b] w fun e w' => e = .returned (.int .i64 r) ∧ w' = w := by
  have H := Lib.hid h
  clear h
  go_enter Try.func28, Try.ntmps28
  go_wp2_with fail
  all_goals go_ret
  all_goals exact ⟨ret_int (by have := H.out; omega), rfl⟩

set_option maxHeartbeats 4000000 in
theorem split_s (A : Option Addr) (c N : Nat) (L : List Sp1) (a : Nat) (w : World) (h : RdSp w A L) (hn : L.length = N) (hN : N ≤ 1048576) (hs : szL L ≤ 1048576) (ha : a ≤ szL L) :
    Calls Try.prog 24 #[.slice A N c, .int .i64 a] w fun e w' => ∃ v v', e = .returned (.tuple #[v, v']) ∧ w'.ownsRow w.heap.size 38 3 v (nmL (fs a L)).length (pcells (nmL (fs a L))) ∧ w'.ownsRow w.heap.size 38 3 v' (nmL (bs a L)).length (pcells (nmL (bs a L))) ∧ (v.ownBlock = none ∨ v.ownBlock ≠ v'.ownBlock) ∧ (v'.ownBlock = none ∨ v'.ownBlock ≠ v.ownBlock) ∧ Below w.heap.size w w' := by
  obtain ⟨i0, hi, hz0, hz1, hz2⟩ := info_parts infoSp
  have HR := Lib.hid h
  have HN := Lib.hid hn
  have HL := Lib.hid hs
  have HA := Lib.hid ha
  clear h hn hs ha
  go_enter Try.func24, Try.ntmps24
  go_wp2_with fail
  have HO6 : Hid (((w.alloc (.cells #[] 38)).alloc (.cells #[] 38)).ownsRow w.heap.size 38 3 (.slice (some ⟨w.heap.size, 0, none⟩) 0 0) 0 (pcells (fs a (L.take 0)))) := Lib.hid (own_lit0 (heap_at1 _ _ _) (Nat.le_refl _))
  have HO7 : Hid (((w.alloc (.cells #[] 38)).alloc (.cells #[] 38)).ownsRow w.heap.size 38 3 (.slice (some ⟨w.heap.size + 1, 0, none⟩) 0 0) 0 (pcells (bs a (L.take 0)))) := Lib.hid (own_lit0 (heap_at2 _ _ _) (Nat.le_succ _))
  have HB0 : Hid (Below w.heap.size w ((w.alloc (.cells #[] 38)).alloc (.cells #[] 38))) := Lib.hid (((Below.refl _ _).alloc (Nat.le_refl _) _).alloc (by simp) _)
  go_loopw [1, 6, 7, 8] (fun p6 v v' q wr => ∃ k : Nat, k ≤ N ∧ q = .int .i64 k ∧ (∃ z : Int, z ≤ 1048576 ∧ -1048576 ≤ z ∧ Hid (z = (a : Int) - (szL (L.take k) : Nat)) ∧ p6 = .int .i64 z) ∧ (∃ g6 c6 g7 c7, v = .slice (some ⟨g6, 0, none⟩) k c6 ∧ v' = .slice (some ⟨g7, 0, none⟩) k c7 ∧ Hid (wr.ownsRow w.heap.size 38 3 (.slice (some ⟨g6, 0, none⟩) k c6) k (pcells (fs a (L.take k)))) ∧ Hid (wr.ownsRow w.heap.size 38 3 (.slice (some ⟨g7, 0, none⟩) k c7) k (pcells (bs a (L.take k)))) ∧ Hid (g6 ≠ g7)) ∧ Below w.heap.size w wr) (fun _ _ _ q _ => N - (intOf q).toNat)
  case atStart => exact ⟨0, Nat.zero_le _, rfl, ⟨(a : Int), by have := HA.out; have := HL.out; omega, by omega, Lib.hid (by simp [szL]), rfl⟩, ⟨_, _, _, _, rfl, by simp, HO6, HO7, Lib.hid (by omega)⟩, HB0.out⟩
  case round =>
    obtain ⟨k, hk, rfl, ⟨z, hz, hz', HPz, rfl⟩, ⟨g6, c6, g7, c7, rfl, rfl, HO6, HO7, HNE⟩, hb⟩ := hrel
    by_cases hlt : k < N
    · have hkx : k < L.length := by rw [HN.out]; exact hlt
      have hx? := List.getElem?_eq_getElem hkx
      obtain ⟨g, o, rfl, hg, c0, c1, c3⟩ := (HR.out.below hb) k L[k] hx?
      have HF := Lib.hid (fs_take a hx?)
      have HBk := Lib.hid (bs_take a hx?)
      have HZt := Lib.hid (szL_take hx?)
      have HZl := Lib.hid (szL_le L (k + 1))
      clear hx?
      generalize L[k] = x at *
      obtain ⟨l, f, b⟩ := x
      dsimp only at c0 c1 c3
      obtain ⟨p, hpp⟩ : ∃ p : Nat, a - szL (L.take k) = p := ⟨_, rfl⟩
      rw [hpp] at HF HBk
      have hls : l.size ≤ 1048576 := by have h1 := HZt.out; have h2 := HZl.out; have h3 := HL.out; dsimp only at h1; omega
      dsimp only at HF HBk
      obtain ⟨m, hm⟩ : ∃ m, min p l.size = m := ⟨_, rfl⟩
      rw [hm] at HF HBk
      have hml : m ≤ l.size := by omega
      have hmz : max z 0 = (p : Int) := by have := HPz.out; omega
      have hmi : min (p : Int) (l.size : Int) = (m : Int) := by omega
      have HMq := Lib.hid (fun w => most_q z 0 (p : Int) w hmz)
      have HLq := Lib.hid (fun w => least_q (p : Int) (l.size : Int) (m : Int) w hmi)
      obtain ⟨z2, hz2⟩ : ∃ z2, z - (l.size : Int) = z2 := ⟨_, rfl⟩
      have hle := szL_le L (k + 1)
      have HQ2 : Hid (z2 = (a : Int) - (szL (L.take (k + 1)) : Nat)) := Lib.hid (by have h1 := HZt.out; have h2 := HPz.out; dsimp only at h1; omega)
      have hqp : z2 ≤ 1048576 := by omega
      have hqp' : -1048576 ≤ z2 := by have h3 := HQ2.out; have h4 := HL.out; omega
      have HQi := Lib.hid hz2
      clear HZt HZl HPz hm hpp hz2 hmz hmi hle
      have HF2 := Lib.hid (show pcells (fs a (L.take (k + 1))) = pcells (fs a (L.take k)) ++ [.string (l.extract 0 m), .bool f, .bool b] by rw [HF.out, pcells_app]; rfl)
      have HB2 := Lib.hid (show pcells (bs a (L.take (k + 1))) = pcells (bs a (L.take k)) ++ [.string (l.extract m l.size), .bool f, .bool b] by rw [HBk.out, pcells_app]; rfl)
      clear HF HBk
      go_upto_region 6 with fail
      have h6 := HO6.out.lt g6 rfl
      have h7 := HO7.out.lt g7 rfl
      have D5 := P3.new wr l f b 38
      have hb5 : Kp wr (wr.alloc (.cells #[.string l, .bool f, .bool b] 38)) := box_below _ _
      generalize wr.alloc (.cells #[.string l, .bool f, .bool b] 38) = w4 at D5 hb5 ⊢
      generalize hB : wr.heap.size = B at D5 ⊢
      have h65 : g6 < B := by omega
      have h75 : g7 < B := by omega
      clear c0 c1 c3 hB
      obtain ⟨p4, d0, d1, d2⟩ := id D5
      go_wp2_with fail
      go_quiet ((first | (go_at_call 29; with_reducible exact Calls.quiet_of_same (HMq.out _)) | (go_at_call 28; with_reducible exact Calls.quiet_of_same (HLq.out _))))
      generalize hw5 : w4.drewN _ = w5
      have hk5 : Kp w4 w5 := by rw [← hw5]; exact below_drewN' (Kp.refl' _) _
      have hb5' : Kp wr w5 := Below.trans hb5 (Below.mono hk5 (ksz hb5))
      have D5' := D5.below hk5
      clear hw5 D5 hb5 hk5 p4 d0 d1 d2 HMq HLq
      obtain ⟨p5, e0, e1, e2⟩ := D5'
      have HO6' := Lib.hid (fun w' (h : Kp w5 w') => own_kept HO6.out (Below.trans hb5' (h.mono (ksz hb5'))))
      have HO7' := Lib.hid (fun w' (h : Kp w5 w') => own_kept HO7.out (Below.trans hb5' (h.mono (ksz hb5'))))
      have hbw : Kp w w5 := hb.trans (Below.mono hb5' hb.size)
      have HSS8 : Hid (∀ w', Kp w5 w' → ((w'.cell? ⟨B, 0, none⟩ = some (.string l) ∧ w'.cell? ⟨B, 1, none⟩ = some (.bool f) ∧ w'.cell? ⟨B, 2, none⟩ = some (.bool b)) ∧ Kp w w')) := Lib.hid (fun w' h => ⟨⟨(h.cell (p := ⟨B, 0, none⟩) p5).trans e0, (h.cell (p := ⟨B, 1, none⟩) p5).trans e1, (h.cell (p := ⟨B, 2, none⟩) p5).trans e2⟩, Below.trans hbw (h.mono hbw.size)⟩)
      have HK8 := Lib.hid (Kp.drew w5)
      have hs5 := Below.size hbw
      have pB8 := p5
      have hs5r := ksz hb5'
      have h6a : g6 < w5.heap.size := by omega
      have h7a : g7 < w5.heap.size := by omega
      clear e0 e1 e2
      go_wp2_with fail
      go_region_held3 (fun w' => (w'.cell? ⟨B, 0, none⟩ = some (.string l) ∧ w'.cell? ⟨B, 1, none⟩ = some (.bool f) ∧ w'.cell? ⟨B, 2, none⟩ = some (.bool b)) ∧ Kp w w')
        (first | exact HSS8.out _ HK8.out | assumption | exact HSS8.out _ (by repeat (first | assumption | exact Kp.refl' _ | refine kdr ?_ | refine kal ?_ _)))
        (
          (refine step_append_lies _ (by rfl) _ _ _ (by rfl) w.heap.size 38 i0 _ 3 24 Try.underlying24 hi hz0 hz1 hz2 rfl (by decide) _ k _ (by rfl) (HO6'.out _ (by repeat (first | assumption | exact Kp.refl' _ | refine kdr ?_ | refine kal ?_ _))) ⟨_, 0, none⟩ 1 1 [.string (l.extract 0 m), .bool f, .bool b] (by rfl) rfl (cells3_heap (t := 38) (fr := (0, 0)) (by exact heap_alloc_new _ _)) (by simp [Value.oneCell']) (by decide) (by unfold maxLen; omega) (by omega) (by simp; omega) _ rfl ?_; intro g8 c8 w8 hown8 hgrow8 hat8 hlt8; have hk8 := far3 (HSS8.out _ (by repeat (first | assumption | exact Kp.refl' _ | refine kdr ?_ | refine kal ?_ _))) hgrow8 (by rfl) (Nat.lt_of_lt_of_le pB8 (ksz (W := w5) (by repeat (first | assumption | exact Kp.refl' _ | refine kdr ?_ | refine kal ?_ _)))) (by omega) h6.1; have HY8 := Lib.hid (own_far (HO7'.out _ (by repeat (first | assumption | exact Kp.refl' _ | refine kdr ?_ | refine kal ?_ _))) hgrow8 (by intro h9; cases h9; exact HNE.out rfl)); have hne8 := neq2 hat8 rfl HNE.out (Nat.lt_of_lt_of_le h7a (ksz (W := w5) (by repeat (first | assumption | exact Kp.refl' _ | refine kdr ?_ | refine kal ?_ _)))))
          )
      obtain ⟨⟨e0, e1, e2⟩, hbw8⟩ := hk8
      have h8b := hown8
      rw [← HF2.out] at h8b
      have HO6n := Lib.hid (fun w' (h : Kp w8 w') => own_kept h8b h)
      have HO7n := Lib.hid (fun w' (h : Kp w8 w') => own_kept HY8.out h)
      have h8lo := (hown8.lt g8 rfl).1
      have h7n := HY8.out.lt g7 rfl
      have hs8 := ksz hbw8
      have pB9 : B < w8.heap.size := by
        rcases Nat.lt_or_ge B w8.heap.size with h9 | h9
        · exact h9
        · exfalso
          have : w8.heap[B]? = none := Array.getElem?_eq_none h9
          simp [World.cell?, this] at e0
      have hB9 : g7 < B := h75
      have HSS9 : Hid (∀ w', Kp w8 w' → ((w'.cell? ⟨B, 0, none⟩ = some (.string l) ∧ w'.cell? ⟨B, 1, none⟩ = some (.bool f) ∧ w'.cell? ⟨B, 2, none⟩ = some (.bool b)) ∧ Kp w w')) := Lib.hid (fun w' h => ⟨⟨(h.cell (p := ⟨B, 0, none⟩) pB9).trans e0, (h.cell (p := ⟨B, 1, none⟩) pB9).trans e1, (h.cell (p := ⟨B, 2, none⟩) pB9).trans e2⟩, Below.trans hbw8 (h.mono (ksz hbw8))⟩)
      have HK9 := Lib.hid (Kp.drew w8)
      have HNE9 := Lib.hid (Ne.symm hne8)
      clear e0 e1 e2 hown8 h8b hgrow8 hat8 HSS8 HK8 HO6' HO7' p5 pB8 hne8
      (try clear hHeld)
      go_wp2_with fail
      go_region_held3 (fun w' => (w'.cell? ⟨B, 0, none⟩ = some (.string l) ∧ w'.cell? ⟨B, 1, none⟩ = some (.bool f) ∧ w'.cell? ⟨B, 2, none⟩ = some (.bool b)) ∧ Kp w w')
        (first | exact HSS9.out _ HK9.out | assumption | exact HSS9.out _ (by repeat (first | assumption | exact Kp.refl' _ | refine kdr ?_ | refine kal ?_ _)))
        (
          (refine step_append_lies _ (by rfl) _ _ _ (by rfl) w.heap.size 38 i0 _ 3 24 Try.underlying24 hi hz0 hz1 hz2 rfl (by decide) _ k _ (by rfl) (HO7n.out _ (by repeat (first | assumption | exact Kp.refl' _ | refine kdr ?_ | refine kal ?_ _))) ⟨_, 0, none⟩ 1 1 [.string (l.extract m l.size), .bool f, .bool b] (by rfl) rfl (cells3_heap (t := 38) (fr := (0, 0)) (by exact heap_alloc_new _ _)) (by simp [Value.oneCell']) (by decide) (by unfold maxLen; omega) (by omega) (by simp; omega) _ rfl ?_; intro g9 c9 w9 hown9 hgrow9 hat9 hlt9; have hk9 := far3 (HSS9.out _ (by repeat (first | assumption | exact Kp.refl' _ | refine kdr ?_ | refine kal ?_ _))) hgrow9 (by rfl) (Nat.lt_of_lt_of_le pB9 (ksz (W := w8) (by repeat (first | assumption | exact Kp.refl' _ | refine kdr ?_ | refine kal ?_ _)))) (by omega) h7n.1; have HY9 := Lib.hid (own_far (HO6n.out _ (by repeat (first | assumption | exact Kp.refl' _ | refine kdr ?_ | refine kal ?_ _))) hgrow9 (by intro h9; cases h9; exact HNE9.out rfl)); have hne9 := neq2 hat9 rfl HNE9.out (Nat.lt_of_lt_of_le hlt8 (ksz (W := w8) (by repeat (first | assumption | exact Kp.refl' _ | refine kdr ?_ | refine kal ?_ _)))))
          )
      have h9b := hown9
      rw [← HB2.out] at h9b
      have HR7 := Lib.hid h9b
      have HNn := Lib.hid (Ne.symm hne9)
      have hbw9 := hk9.2
      clear hown9 h9b hgrow9 hat9 HSS9 HK9 HO6n HO7n hk9 hne9
      (try clear hHeld)
      go_wp2_with fail
      go_roundw
      case rel => exact ⟨k + 1, by omega, by go_num, ⟨z2, hqp, hqp', HQ2, by rw [HQi.out]⟩, ⟨g8, c8, g9, c9, rfl, rfl, HY9, HR7, HNn⟩, hbw9⟩
      case measure => (simp [intOf] <;> omega)
    · obtain rfl : k = N := by omega
      have hE : L.take k = L := List.take_of_length_le (by rw [HN.out]; exact Nat.le_refl _)
      rw [hE] at HO6 HO7
      have HM6 := Lib.hid (normal_s (some ⟨g6, 0, none⟩) c6 k (fs a L) wr (own_rd HO6.out) (by rw [fs_len, HN.out]) hN (by rw [fs_sz]; have := HL.out; omega))
      have HM7 := Lib.hid (fun w' (h : Below wr.heap.size wr w') => normal_s (some ⟨g7, 0, none⟩) c7 k (bs a L) w' (own_rd (own_kept HO7.out h)) (by rw [bs_len, HN.out]) hN (by rw [bs_sz]; have := HL.out; omega))
      have hsw := Below.size hb
      clear hE HO6 HO7 HPz
      go_wp2_with fail
      refine HM6.out.mono ?_
      rintro e w2 ⟨v6, rfl, o6, b6⟩
      obtain ⟨A6, cc6, rfl, _, _, _⟩ := own_rdp o6
      have HO := Lib.hid o6
      clear o6
      go_wp2_with fail
      refine (HM7.out _ b6).mono ?_
      rintro e w3 ⟨v7, rfl, o7, b7⟩
      have HAP := Lib.hid (ap01 HO.out (Nat.le_refl _) o7)
      obtain ⟨A7, cc7, rfl, _, _, _⟩ := own_rdp o7
      have HO1 := Lib.hid (row_base' hsw (own_kept HO.out b7))
      have HO2 := Lib.hid (row_base' (Nat.le_trans hsw b6.size) o7)
      have hbF := (hb.trans (b6.mono hsw)).trans (b7.mono (Nat.le_trans hsw b6.size))
      clear o7 b6 b7
      go_wp2_with fail
      go_ret2
      exact ⟨_, _, rfl, HO1.out, HO2.out, HAP.out.1, HAP.out.2, hbF⟩
end Go.Proofs.Ytglgkgkcilkinaa.SpCs
