/-
  respelled and splitSpans of the program.
-/
import Derived.Test.YtglgkgkcilkinaaSpCt
import Derived.Test.YtglgkgkcilkinaaSpB
import Derived.Test.YtglgkgkcilkinaaSpN
namespace Go.Proofs.Ytglgkgkcilkinaa.SpCi
open Go.RowKit SpPl Sp SpA SpB SpG SpNs SpNi SpN
set_option linter.unusedSimpArgs false
set_option linter.unusedVariables false

set_option maxHeartbeats 400000 in
theorem resp_any (l : ByteArray) (f b : Bool) (t : ByteArray) (w : World) :
    Calls Try.prog 32 #[spV l f b, .string t] w fun e w' => e = .returned (spV t f b) ∧ Below w.heap.size w w' := by
  go_enter Try.func32, Try.ntmps32
  go_wp2_with fail
  exact bodyPost_ret (v := spV t f b) (by simp [results, Try.results32, go_sem]) rfl ⟨rfl, by
    repeat (first | exact Below.refl _ _ | (refine Below.setCell ?_ (by simp) _) | (refine Below.alloc ?_ (by simp) _))⟩

theorem ap01 {w w' : World} {b0 b : Nat} {e e' : TypeId} {s s' n n' : Nat} {v v' : Value} {xs xs' : List Value} (h : w.ownsRow b0 e s v n xs) (hb : w.heap.size ≤ b) (h' : w'.ownsRow b e' s' v' n' xs') : (v.ownBlock = none ∨ v.ownBlock ≠ v'.ownBlock) ∧ (v'.ownBlock = none ∨ v'.ownBlock ≠ v.ownBlock) := by
  rcases hv : v.ownBlock with _ | k
  · refine ⟨.inl rfl, ?_⟩
    rcases hv' : v'.ownBlock with _ | k'
    · exact .inl rfl
    · exact .inr (fun he => by cases he)
  · have h1 := (h.lt k hv).2
    refine ⟨.inr fun he => ?_, ?_⟩
    · have h2 := (h'.lt k he.symm).1
      omega
    · rcases hv' : v'.ownBlock with _ | k'
      · exact .inl rfl
      · refine .inr fun he => ?_
        have h2 := (h'.lt k' hv').1
        cases he
        omega
set_option maxHeartbeats 4000000 in
theorem split_i (A : Option Addr) (c N : Nat) (L : List Sp1) (a : Nat) (w : World) (h : RdSp w A L) (hn : L.length = N) (hN : N ≤ 1048576) (hs : szL L ≤ 1048576) (ha : a ≤ szL L) :
    Calls Try.prog 26 #[.slice A N c, .int .i64 a] w fun e w' => ∃ v v', e = .returned (.tuple #[v, v']) ∧ w'.ownsRow w.heap.size 38 3 v (nmL (fs a L)).length (pcells (nmL (fs a L))) ∧ w'.ownsRow w.heap.size 38 3 v' (nmL (bs a L)).length (pcells (nmL (bs a L))) ∧ (v.ownBlock = none ∨ v.ownBlock ≠ v'.ownBlock) ∧ (v'.ownBlock = none ∨ v'.ownBlock ≠ v.ownBlock) ∧ Below w.heap.size w w' := by
  obtain ⟨i0, hi, hz0, hz1, hz2⟩ := info_parts infoSp
  have HR := Lib.hid h
  have HN := Lib.hid hn
  have HL := Lib.hid hs
  have HA := Lib.hid ha
  clear h hn hs ha
  go_enter Try.func26, Try.ntmps26
  go_wp2_with fail
  have HO6 : Hid (((w.alloc (.cells #[] 38)).alloc (.cells #[] 38)).ownsRow w.heap.size 38 3 (.slice (some ⟨w.heap.size, 0, none⟩) 0 0) 0 (pcells (fs a (L.take 0)))) := Lib.hid (own_lit0 (heap_at1 _ _ _) (Nat.le_refl _))
  have HO7 : Hid (((w.alloc (.cells #[] 38)).alloc (.cells #[] 38)).ownsRow w.heap.size 38 3 (.slice (some ⟨w.heap.size + 1, 0, none⟩) 0 0) 0 (pcells (bs a (L.take 0)))) := Lib.hid (own_lit0 (heap_at2 _ _ _) (Nat.le_succ _))
  have HB0 : Hid (Below w.heap.size w ((w.alloc (.cells #[] 38)).alloc (.cells #[] 38))) := Lib.hid (((Below.refl _ _).alloc (Nat.le_refl _) _).alloc (by simp) _)
  go_loopw [1, 6, 7, 15] (fun p6 v v' q wr => ∃ k : Nat, k ≤ N ∧ q = .int .i64 k ∧ (∃ p : Nat, p ≤ 1048576 ∧ Hid (p = a - szL (L.take k)) ∧ p6 = .int .i64 p) ∧ (∃ g6 c6 g7 c7, v = .slice (some ⟨g6, 0, none⟩) k c6 ∧ v' = .slice (some ⟨g7, 0, none⟩) k c7 ∧ Hid (wr.ownsRow w.heap.size 38 3 (.slice (some ⟨g6, 0, none⟩) k c6) k (pcells (fs a (L.take k)))) ∧ Hid (wr.ownsRow w.heap.size 38 3 (.slice (some ⟨g7, 0, none⟩) k c7) k (pcells (bs a (L.take k)))) ∧ Hid (g6 ≠ g7)) ∧ Below w.heap.size w wr) (fun _ _ _ q _ => N - (intOf q).toNat)
  case atStart => exact ⟨0, Nat.zero_le _, rfl, ⟨a, by have := HA.out; have := HL.out; omega, Lib.hid (by simp [szL]), rfl⟩, ⟨_, _, _, _, rfl, by simp, HO6, HO7, Lib.hid (by omega)⟩, HB0.out⟩
  case round =>
    obtain ⟨k, hk, rfl, ⟨p, hp, HP, rfl⟩, ⟨g6, c6, g7, c7, rfl, rfl, HO6, HO7, HNE⟩, hb⟩ := hrel
    by_cases hlt : k < N
    · have hkx : k < L.length := by rw [HN.out]; exact hlt
      have hx? := List.getElem?_eq_getElem hkx
      obtain ⟨g, o, rfl, hg, c0, c1, c3⟩ := (HR.out.below hb) k L[k] hx?
      have HF := Lib.hid (fs_take a hx?)
      have HBk := Lib.hid (bs_take a hx?)
      have HZt := Lib.hid (szL_take hx?)
      have HZl := Lib.hid (szL_le L (k + 1))
      clear hx?
      generalize L[k] = x at *
      obtain ⟨l, f, b⟩ := x
      dsimp only at c0 c1 c3
      rw [← HP.out] at HF HBk
      have hls : l.size ≤ 1048576 := by have h1 := HZt.out; have h2 := HZl.out; have h3 := HL.out; dsimp only at h1; omega
      have HP2 : Hid (p - min p l.size = a - szL (L.take (k + 1))) := Lib.hid (by rw [HZt.out, HP.out]; dsimp only; omega)
      clear HZt HZl HP
      dsimp only at HF HBk
      obtain ⟨m, hm⟩ : ∃ m, min p l.size = m := ⟨_, rfl⟩
      obtain ⟨q, hq⟩ : ∃ q, p - m = q := ⟨_, rfl⟩
      have hml : m ≤ l.size := by omega
      have hqp : q ≤ 1048576 := by omega
      rw [hm] at HP2 HF HBk
      rw [hq] at HP2
      have HMi : Hid ((if l.size < p then (l.size : Int) else (p : Int)) = (m : Int)) := Lib.hid (by split <;> omega)
      have HQi : Hid ((p : Int) - (m : Int) = (q : Int)) := Lib.hid (by omega)
      clear hm hq
      have HF2 := Lib.hid (show pcells (fs a (L.take (k + 1))) = pcells (fs a (L.take k)) ++ [.string (l.extract 0 m), .bool f, .bool b] by rw [HF.out, pcells_app]; rfl)
      have HB2 := Lib.hid (show pcells (bs a (L.take (k + 1))) = pcells (bs a (L.take k)) ++ [.string (l.extract m l.size), .bool f, .bool b] by rw [HBk.out, pcells_app]; rfl)
      clear HF HBk
      go_upto_region 7 with fail
      rw [HMi.out]
      rw [HQi.out]
      clear HMi HQi
      have h6 := HO6.out.lt g6 rfl
      have h7 := HO7.out.lt g7 rfl
      have D5 := P3.new wr l f b 38
      have hb5 : Kp wr (wr.alloc (.cells #[.string l, .bool f, .bool b] 38)) := box_below _ _
      generalize wr.alloc (.cells #[.string l, .bool f, .bool b] 38) = w5 at D5 hb5 ⊢
      generalize hB : wr.heap.size = B at D5 ⊢
      obtain ⟨p5, e0, e1, e2⟩ := D5
      have h65 : g6 < B := by omega
      have h75 : g7 < B := by omega
      clear c0 c1 c3 hB
      have HO6' := Lib.hid (fun w' (h : Kp w5 w') => own_kept HO6.out (hb5.trans (h.mono hb5.size)))
      have HO7' := Lib.hid (fun w' (h : Kp w5 w') => own_kept HO7.out (hb5.trans (h.mono hb5.size)))
      have hbw : Kp w w5 := hb.trans (Below.mono hb5 hb.size)
      have HSS8 : Hid (∀ w', Kp w5 w' → ((w'.cell? ⟨B, 0, none⟩ = some (.string l) ∧ w'.cell? ⟨B, 1, none⟩ = some (.bool f) ∧ w'.cell? ⟨B, 2, none⟩ = some (.bool b)) ∧ Kp w w')) := Lib.hid (fun w' h => ⟨⟨(h.cell (p := ⟨B, 0, none⟩) p5).trans e0, (h.cell (p := ⟨B, 1, none⟩) p5).trans e1, (h.cell (p := ⟨B, 2, none⟩) p5).trans e2⟩, Below.trans hbw (h.mono hbw.size)⟩)
      have HK8 := Lib.hid (Kp.drew w5)
      have hs5 := Below.size hbw
      have pB8 := p5
      have h6a : g6 < w5.heap.size := by omega
      have h7a : g7 < w5.heap.size := by omega
      clear e0 e1 e2
      go_region_held3 (fun w' => (w'.cell? ⟨B, 0, none⟩ = some (.string l) ∧ w'.cell? ⟨B, 1, none⟩ = some (.bool f) ∧ w'.cell? ⟨B, 2, none⟩ = some (.bool b)) ∧ Kp w w')
        (first | exact HSS8.out _ HK8.out | assumption | exact HSS8.out _ (by repeat (first | assumption | exact Kp.refl' _ | refine kdr ?_ | refine kal ?_ _)))
        (first
          | (go_at_call 32; with_reducible refine (resp_any l f b _ _).mono ?_; rintro e w1 ⟨rfl, b1⟩; have hk1 : Kp w5 w1 := Kp.next HK8.out b1)
          | (refine step_append_lies _ (by rfl) _ _ _ (by rfl) w.heap.size 38 i0 _ 3 24 Try.underlying24 hi hz0 hz1 hz2 rfl (by decide) _ k _ (by rfl) (HO6'.out _ (by repeat (first | assumption | exact Kp.refl' _ | refine kdr ?_ | refine kal ?_ _))) ⟨_, 0, none⟩ 1 1 [.string (l.extract 0 m), .bool f, .bool b] (by rfl) rfl (cells3_heap (t := 38) (fr := (0, 0)) (by exact heap_alloc_new _ _)) (by simp [Value.oneCell']) (by decide) (by unfold maxLen; omega) (by omega) (by have := ksz hk1; simp; omega) _ rfl ?_; intro g8 c8 w8 hown8 hgrow8 hat8 hlt8; have hk8 := far3 (HSS8.out _ (by repeat (first | assumption | exact Kp.refl' _ | refine kdr ?_ | refine kal ?_ _))) hgrow8 (by rfl) (Nat.lt_of_lt_of_le pB8 (ksz (W := w5) (by repeat (first | assumption | exact Kp.refl' _ | refine kdr ?_ | refine kal ?_ _)))) (by omega) h6.1; have HY8 := Lib.hid (own_far (HO7'.out _ (by repeat (first | assumption | exact Kp.refl' _ | refine kdr ?_ | refine kal ?_ _))) hgrow8 (by intro h9; cases h9; exact HNE.out rfl)); have hne8 := neq2 hat8 rfl HNE.out (Nat.lt_of_lt_of_le h7a (ksz (W := w5) (by repeat (first | assumption | exact Kp.refl' _ | refine kdr ?_ | refine kal ?_ _)))))
          )
      obtain ⟨⟨e0, e1, e2⟩, hbw8⟩ := hk8
      have h8b := hown8
      rw [← HF2.out] at h8b
      have HO6n := Lib.hid (fun w' (h : Kp w8 w') => own_kept h8b h)
      have HO7n := Lib.hid (fun w' (h : Kp w8 w') => own_kept HY8.out h)
      have h8lo := (hown8.lt g8 rfl).1
      have h7n := HY8.out.lt g7 rfl
      have hs8 := ksz hbw8
      have pB9 : B < w8.heap.size := by
        rcases Nat.lt_or_ge B w8.heap.size with h9 | h9
        · exact h9
        · exfalso
          have : w8.heap[B]? = none := Array.getElem?_eq_none h9
          simp [World.cell?, this] at e0
      have hB9 : g7 < B := h75
      have HSS9 : Hid (∀ w', Kp w8 w' → ((w'.cell? ⟨B, 0, none⟩ = some (.string l) ∧ w'.cell? ⟨B, 1, none⟩ = some (.bool f) ∧ w'.cell? ⟨B, 2, none⟩ = some (.bool b)) ∧ Kp w w')) := Lib.hid (fun w' h => ⟨⟨(h.cell (p := ⟨B, 0, none⟩) pB9).trans e0, (h.cell (p := ⟨B, 1, none⟩) pB9).trans e1, (h.cell (p := ⟨B, 2, none⟩) pB9).trans e2⟩, Below.trans hbw8 (h.mono (ksz hbw8))⟩)
      have HK9 := Lib.hid (Kp.drew w8)
      have HNE9 := Lib.hid (Ne.symm hne8)
      clear e0 e1 e2 hown8 h8b hgrow8 hat8 HSS8 HK8 HO6' HO7' hk1 b1 p5 pB8 hne8
      (try clear hHeld)
      go_wp2_with fail
      go_region_held3 (fun w' => (w'.cell? ⟨B, 0, none⟩ = some (.string l) ∧ w'.cell? ⟨B, 1, none⟩ = some (.bool f) ∧ w'.cell? ⟨B, 2, none⟩ = some (.bool b)) ∧ Kp w w')
        (first | exact HSS9.out _ HK9.out | assumption | exact HSS9.out _ (by repeat (first | assumption | exact Kp.refl' _ | refine kdr ?_ | refine kal ?_ _)))
        (first
          | (go_at_call 32; with_reducible refine (resp_any l f b _ _).mono ?_; rintro e w1 ⟨rfl, b1⟩; have hk1 : Kp w8 w1 := Kp.next HK9.out b1)
          | (refine step_append_lies _ (by rfl) _ _ _ (by rfl) w.heap.size 38 i0 _ 3 24 Try.underlying24 hi hz0 hz1 hz2 rfl (by decide) _ k _ (by rfl) (HO7n.out _ (by repeat (first | assumption | exact Kp.refl' _ | refine kdr ?_ | refine kal ?_ _))) ⟨_, 0, none⟩ 1 1 [.string (l.extract m l.size), .bool f, .bool b] (by rfl) rfl (cells3_heap (t := 38) (fr := (0, 0)) (by exact heap_alloc_new _ _)) (by simp [Value.oneCell']) (by decide) (by unfold maxLen; omega) (by omega) (by have := ksz hk1; simp; omega) _ rfl ?_; intro g9 c9 w9 hown9 hgrow9 hat9 hlt9; have hk9 := far3 (HSS9.out _ (by repeat (first | assumption | exact Kp.refl' _ | refine kdr ?_ | refine kal ?_ _))) hgrow9 (by rfl) (Nat.lt_of_lt_of_le pB9 (ksz (W := w8) (by repeat (first | assumption | exact Kp.refl' _ | refine kdr ?_ | refine kal ?_ _)))) (by omega) h7n.1; have HY9 := Lib.hid (own_far (HO6n.out _ (by repeat (first | assumption | exact Kp.refl' _ | refine kdr ?_ | refine kal ?_ _))) hgrow9 (by intro h9; cases h9; exact HNE9.out rfl)); have hne9 := neq2 hat9 rfl HNE9.out (Nat.lt_of_lt_of_le hlt8 (ksz (W := w8) (by repeat (first | assumption | exact Kp.refl' _ | refine kdr ?_ | refine kal ?_ _)))))
          )
      have h9b := hown9
      rw [← HB2.out] at h9b
      have HR7 := Lib.hid h9b
      have HNn := Lib.hid (Ne.symm hne9)
      have hbw9 := hk9.2
      clear hown9 h9b hgrow9 hat9 HSS9 HK9 HO6n HO7n hk9 hne9
      (try clear hHeld)
      go_wp2_with fail
      go_roundw
      case rel => exact ⟨k + 1, by omega, by go_num, ⟨q, hqp, HP2, rfl⟩, ⟨g8, c8, g9, c9, rfl, rfl, HY9, HR7, HNn⟩, hbw9⟩
      case measure => (simp [intOf] <;> omega)
    · obtain rfl : k = N := by omega
      have hE : L.take k = L := List.take_of_length_le (by rw [HN.out]; exact Nat.le_refl _)
      rw [hE] at HO6 HO7
      have HM6 := Lib.hid (normal_i (some ⟨g6, 0, none⟩) c6 k (fs a L) wr (own_rd HO6.out) (by rw [fs_len, HN.out]) hN (by rw [fs_sz]; have := HL.out; omega))
      have HM7 := Lib.hid (fun w' (h : Below wr.heap.size wr w') => normal_i (some ⟨g7, 0, none⟩) c7 k (bs a L) w' (own_rd (own_kept HO7.out h)) (by rw [bs_len, HN.out]) hN (by rw [bs_sz]; have := HL.out; omega))
      have hsw := Below.size hb
      clear hE HO6 HO7 HP
      go_wp2_with fail
      refine HM6.out.mono ?_
      rintro e w2 ⟨v6, rfl, o6, b6⟩
      obtain ⟨A6, cc6, rfl, _, _, _⟩ := own_rdp o6
      have HO := Lib.hid o6
      clear o6
      go_wp2_with fail
      refine (HM7.out _ b6).mono ?_
      rintro e w3 ⟨v7, rfl, o7, b7⟩
      have HAP := Lib.hid (ap01 HO.out (Nat.le_refl _) o7)
      obtain ⟨A7, cc7, rfl, _, _, _⟩ := own_rdp o7
      have HO1 := Lib.hid (row_base' hsw (own_kept HO.out b7))
      have HO2 := Lib.hid (row_base' (Nat.le_trans hsw b6.size) o7)
      have hbF := (hb.trans (b6.mono hsw)).trans (b7.mono (Nat.le_trans hsw b6.size))
      clear o7 b6 b7
      go_wp2_with fail
      go_ret2
      exact ⟨_, _, rfl, HO1.out, HO2.out, HAP.out.1, HAP.out.2, hbF⟩
end Go.Proofs.Ytglgkgkcilkinaa.SpCi
