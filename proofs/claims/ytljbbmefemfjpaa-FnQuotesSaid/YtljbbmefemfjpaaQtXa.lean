/-
  The program's texts with alternating marks: alternateMark, remarked by it.
-/
import Derived.Test.YtljbbmefemfjpaaQtX
import Derived.Test.YtljbbmefemfjpaaQtD
namespace Go.Proofs.Ytljbbmefemfjpaa.QtXa
open Go.RowKit QtPl QtB QtIn QtC QtM QtR QtD RowB Pl QtX
set_option linter.unusedSimpArgs false
set_option linter.unusedVariables false

theorem alt_eq {s : ByteArray} {q : Qs} (hI : QInv s s.size q) {x : Nat × Nat} (hx : x ∈ prs q.M) : alt q.M x.1 = if dp (prs q.M) x % 2 = 0 then 39 else 34 := by
  obtain ⟨_, _, h3, _⟩ := prs_bd hI hx
  unfold alt
  rw [List.getD_eq_getElem?_getD, h3, Option.getD_some, dm_dp hI hx]
set_option maxHeartbeats 1000000 in
theorem altern_q (w0 w : World) (Bq k : Nat) (s : ByteArray) (q : Qs) (x : Nat × Nat) (h : QX w0 w Bq s q) (hI : QInv s s.size q) (hs : s.size ≤ 200) (hx : x ∈ prs q.M) :
    Calls Try.prog 29 #[.pointer (some ⟨Bq, 0, none⟩), .agg #[.int .i64 x.1, .int .i64 x.2]] w fun e w' => e = .returned (.int .u8 (alt q.M x.1).toNat) ∧ Kp w w' := by
  have HA := Lib.hid (alt_eq hI hx)
  have hle := dp_le (prs q.M) x
  have hpl := prs_le hI
  obtain ⟨AP, cP, AO, cO, hQ⟩ := h
  obtain ⟨d, hd⟩ : ∃ d, dp (prs q.M) x = d := ⟨_, rfl⟩
  rw [hd] at HA hle
  obtain ⟨a, b⟩ := x
  dsimp only at HA ⊢
  have hbx : Kp w (w.alloc (.cells #[.int .i64 (a : Int), .int .i64 (b : Int)] 56)) := kal (kre w) _
  have e0 : (w.alloc (.cells #[.int .i64 (a : Int), .int .i64 (b : Int)] 56)).cell? ⟨w.heap.size, 0, none⟩ = some (.int .i64 (a : Int)) := by simp
  have e1 : (w.alloc (.cells #[.int .i64 (a : Int), .int .i64 (b : Int)] 56)).cell? ⟨w.heap.size, 1, none⟩ = some (.int .i64 (b : Int)) := by simp
  have hsx : w.heap.size < (w.alloc (.cells #[.int .i64 (a : Int), .int .i64 (b : Int)] 56)).heap.size := by simp
  have HD := Lib.hid (fun w' (hb : Kp w w') => depth_q AP cP (prs q.M).length Bq a b (prs q.M) w' (own_rq (hQ.kp hb).rp) rfl (by omega) (hQ.kp hb).c0 (hQ.kp hb).lt)
  rw [hd] at HD
  generalize hwx : w.alloc (.cells #[.int .i64 (a : Int), .int .i64 (b : Int)] 56) = wx at hbx e0 e1 hsx
  have HSS : Hid (∀ w', Kp wx w' → ((w'.cell? ⟨w.heap.size, 0, none⟩ = some (.int .i64 (a : Int)) ∧ w'.cell? ⟨w.heap.size, 1, none⟩ = some (.int .i64 (b : Int))) ∧ Kp w w')) := Lib.hid (fun w' h => ⟨⟨(h.cell (p := ⟨w.heap.size, 0, none⟩) hsx).trans e0, (h.cell (p := ⟨w.heap.size, 1, none⟩) hsx).trans e1⟩, ktr hbx h⟩)
  have HK0 := Lib.hid (kdr (kre wx))
  have HKW := Lib.hid (kdr hbx)
  have HWX := Lib.hid hwx
  clear hQ hI hx hd e0 e1 hwx
  have hdp : (0 : Int) ≤ (d : Int) := Int.natCast_nonneg _
  go_enter Try.func29, Try.ntmps29
  go_wp2_with fail
  rw [HWX.out]
  go_region_held3 (fun w' => (w'.cell? ⟨w.heap.size, 0, none⟩ = some (.int .i64 (a : Int)) ∧ w'.cell? ⟨w.heap.size, 1, none⟩ = some (.int .i64 (b : Int))) ∧ Kp w w')
    (first | exact HSS.out _ HK0.out | exact HSS.out _ (by assumption))
    (first | (go_at_call 33; (with_reducible refine (HD.out _ HKW.out).mono ?_); rintro e w1 ⟨rfl, b1⟩; have hk1 : Kp wx w1 := knx HK0.out b1))
  (try clear hHeld)
  have hkw := ktr (kre w) (HSS.out _ hk1).2
  clear HSS HK0 HKW HD b1
  have ht : (d : Int).tmod 2 = ((d % 2 : Nat) : Int) := by rw [Int.tmod_eq_emod_of_nonneg hdp]; omega
  by_cases he : d % 2 = 0
  · have hb : ((d : Int).tmod 2 == 0) = true := by rw [ht, he]; rfl
    have HE : Hid (alt q.M a = 39) := Lib.hid (by rw [HA.out, if_pos he])
    rw [hb]
    clear ht he hb
    go_wp2_with fail
    go_ret
    exact ⟨by rw [HE.out]; rfl, hkw⟩
  · have hb : ((d : Int).tmod 2 == 0) = false := by rw [ht, beq_eq_false_iff_ne]; omega
    have HE : Hid (alt q.M a = 34) := Lib.hid (by rw [HA.out, if_neg he])
    rw [hb]
    clear ht he hb
    go_wp2_with fail
    go_ret
    exact ⟨by rw [HE.out]; rfl, hkw⟩

set_option maxRecDepth 100000 in
set_option maxHeartbeats 2000000 in
theorem rem_alt (w0 w : World) (Bq : Nat) (s : ByteArray) (q : Qs) (h : QX w0 w Bq s q) (hI : QInv s s.size q) (hs : s.size ≤ 200) :
    Calls Try.prog 28 #[.pointer (some ⟨Bq, 0, none⟩), .func (.func 29) #[.pointer (some ⟨Bq, 0, none⟩)] #[]] w fun e w' => e = .returned (.string ⟨(rmk s q.M (alt q.M)).toArray⟩) ∧ Kp w w' := by
  have HI := Lib.hid hI
  have HX := Lib.hid h
  obtain ⟨AP, cP, AO, cO, hQ⟩ := h
  have hpl := prs_le hI
  have HF := Lib.hid (fold_all hI (alt q.M))
  have HCl := Lib.hid (fun w' (hb : Kp w w') x hx => altern_q w0 w' Bq 0 s q x (HX.out.kp hb) hI hs hx)
  have HBd := Lib.hid (fun x (hx : x ∈ prs q.M) => prs_bd hI hx)
  have HRq := Lib.hid (own_rq hQ.rp)
  have c2 := hQ.c2
  have c0 := hQ.c0
  have hBq := hQ.lt
  obtain ⟨P, hP⟩ : ∃ P, prs q.M = P := ⟨_, rfl⟩
  rw [hP] at hpl HF HCl HBd HRq c0
  obtain ⟨nP, hn⟩ : ∃ nP, P.length = nP := ⟨_, rfl⟩
  rw [hn] at hpl c0
  have HN := Lib.hid hn
  generalize rmk s q.M (alt q.M) = R at HF ⊢
  obtain ⟨T, hT⟩ : ∃ T : ByteArray, ⟨R.toArray⟩ = T := ⟨_, rfl⟩
  rw [hT]
  have HT0 := Lib.hid hT
  generalize alt q.M = f at HF HCl
  have hcv := Go.Lib.run_convert_string_bytes (P := Try.prog) w 9 22 5 s Try.underlying9 Try.underlying22 Try.underlying5
  have HR := Lib.hid (row_new w s)
  have HB := Lib.hid (show Kp w _ from below_bytes w s)
  have HL := Lib.hid (len_size s)
  have c0' : (Lib.bytesWorld w 5 s).cell? ⟨Bq, 0, none⟩ = some (.slice AP nP cP) := ((below_bytes w s).cell (p := ⟨Bq, 0, none⟩) hBq).trans c0
  generalize Lib.bytesWorld w 5 s = W1 at *
  generalize grownCap w s.size 0 5 = cap at *
  obtain ⟨n, HNs⟩ : ∃ n, Hid (n = s.size) := ⟨_, Lib.hid rfl⟩
  rw [← HNs.out] at hcv hs hpl
  clear hI hQ hP hn HX c0 hT
  go_enter Try.func28, Try.ntmps28
  go_wp2_with fail
  clear hcv
  go_loopw [20] (fun i wr => ∃ k : Nat, k ≤ nP ∧ i = .int .i64 k ∧ Hid (RowB wr w.heap.size ((P.take k).foldl (st2 f) s.data.toList)) ∧ Kp w wr) (fun i _ => nP - (intOf i).toNat)
  case atStart => exact ⟨0, Nat.zero_le _, rfl, HR, HB.out⟩
  case round =>
    obtain ⟨k, hk, rfl, HRk, hb⟩ := hrel
    by_cases hlt : k < nP
    · have hkx : k < P.length := by rw [HN.out]; exact hlt
      have hx? := List.getElem?_eq_getElem hkx
      have hmem := List.getElem_mem hkx
      obtain ⟨g, rfl, hg, d0, d1⟩ := (HRq.out.below hb) k P[k] hx?
      have HT := Lib.hid (fold_take f s.data.toList hx?)
      obtain ⟨hx1, hx2, -⟩ := HBd.out _ hmem
      have HC := Lib.hid (fun w' (hb : Kp w w') => HCl.out w' hb _ hmem)
      clear hx? hmem
      generalize P[k] = x at *
      have hll : ((P.take k).foldl (st2 f) s.data.toList).length = n := by rw [fold_len, HL.out, HNs.out]
      generalize (P.take k).foldl (st2 f) s.data.toList = l0 at HRk HT hll
      obtain ⟨a, b⟩ := x
      dsimp only at d0 d1 hx1 hx2 HC
      have hb2 : b < n := by rw [HNs.out]; exact hx2
      have ha2 : a < n := by omega
      obtain ⟨m, hm⟩ : ∃ m, f a = m := ⟨_, rfl⟩
      have HS : Hid (st2 f l0 (a, b) = (l0.set a m).set b m) := Lib.hid (by unfold st2; rw [hm])
      rw [hm] at HC
      have hml := m.toNat_lt
      have hbx : Kp w (wr.alloc (.cells #[.int .i64 (a : Int), .int .i64 (b : Int)] 56)) := kal hb _
      have HRx : Hid (RowB (wr.alloc (.cells #[.int .i64 (a : Int), .int .i64 (b : Int)] 56)) w.heap.size l0) := Lib.hid (rowb_kp HRk.out (kal (kre wr) _) (by have := ksz hb; have := HRk.out; exact rowb_lt HRk.out (by omega)))
      have e0 : (wr.alloc (.cells #[.int .i64 (a : Int), .int .i64 (b : Int)] 56)).cell? ⟨wr.heap.size, 0, none⟩ = some (.int .i64 (a : Int)) := by simp
      have e1 : (wr.alloc (.cells #[.int .i64 (a : Int), .int .i64 (b : Int)] 56)).cell? ⟨wr.heap.size, 1, none⟩ = some (.int .i64 (b : Int)) := by simp
      have hsx : wr.heap.size < (wr.alloc (.cells #[.int .i64 (a : Int), .int .i64 (b : Int)] 56)).heap.size := by simp
      have hgw := rowb_lt HRk.out (by omega)
      clear hm HRk
      go_wp2_with (first | (go_at_call 29; refine (HC.out _ hbx).mono ?_; rintro e w1 ⟨rfl, b1⟩
                            have hb1 := ktr hbx b1
                            have u0 := (b1.cell (p := ⟨wr.heap.size, 0, none⟩) hsx).trans e0
                            have u1 := (b1.cell (p := ⟨wr.heap.size, 1, none⟩) hsx).trans e1
                            have HR1 := Lib.hid (rowb_kp HRx.out b1 (by simp; omega))
                            clear b1 e0 e1 hbx))
      have r0 := HR1.out a _ (List.getElem?_eq_getElem (by omega))
      have r1 := HR1.out b _ (List.getElem?_eq_getElem (by omega))
      obtain ⟨ra, za⟩ := r0
      obtain ⟨rb, zb⟩ := r1
      have hab : (⟨w.heap.size, a, none⟩ : Addr) ≠ ⟨w.heap.size, b, none⟩ := by intro h9; cases h9; omega
      have rb' : (w1.setCell ⟨w.heap.size, a, none⟩ (.int .u8 (m.toNat : Int))).cell? ⟨w.heap.size, b, none⟩ = _ := (World.cell?_setCell_other w1 _ _ _ hab).trans rb
      have HR2 := Lib.hid ((HR1.out.set (by omega : a < l0.length) m).set (by rw [List.length_set]; omega : b < (l0.set a m).length) m)
      have hb2' : Kp w ((w1.setCell ⟨w.heap.size, a, none⟩ (.int .u8 (m.toNat : Int))).setCell ⟨w.heap.size, b, none⟩ (.int .u8 (m.toNat : Int))) := (Below.setCell hb1 (p := ⟨w.heap.size, a, none⟩) (Nat.le_refl _) _).setCell (p := ⟨w.heap.size, b, none⟩) (Nat.le_refl _) _
      rw [← HS.out, ← HT.out] at HR2
      go_region_with (fail)
      all_goals
        go_wp2_with fail
        go_roundw
        case rel => exact ⟨k + 1, by omega, by go_num, (by first | exact HR2 | exact Lib.hid (rowb_kp HR2.out (kdr (kre _)) (by simp; omega))), (by first | exact hb2' | exact kdr hb2')⟩
        case measure => (simp [intOf] <;> omega)
    · obtain rfl : k = nP := by omega
      have HE : Hid ((P.take k).foldl (st2 f) s.data.toList = R) := Lib.hid (by rw [List.take_of_length_le (by rw [HN.out]; exact Nat.le_refl _)]; exact HF.out)
      have hst := row_str (cap := cap) HRk.out (n := n) (by rw [fold_len, HL.out, HNs.out])
      rw [nums_str, HE.out, HT0.out] at hst
      change (convert 22 9 (.slice (some ⟨w.heap.size, 0, none⟩) n cap)).run Try.prog wr = .ok (.string T) wr at hst
      go_wp2_with fail
      go_ret
      exact ⟨rfl, hb⟩

end Go.Proofs.Ytljbbmefemfjpaa.QtXa
