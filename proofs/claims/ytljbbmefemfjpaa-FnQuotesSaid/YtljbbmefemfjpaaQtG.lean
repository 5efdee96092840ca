/-
  QuoteDepth of both.
-/
import Derived.Test.YtljbbmefemfjpaaQtE
import Derived.Test.YtljbbmefemfjpaaQtD
import Derived.Test.YtljbbmefemfjpaaQtQ
namespace Go.Proofs.Ytljbbmefemfjpaa.QtG
open Go.RowKit QtPl QtB QtIn QtC QtM QtR QtS QtD QtE QtQ
set_option linter.unusedSimpArgs false
set_option linter.unusedVariables false

/-- the greatest depth -/
def gd (P Q : List (Nat × Nat)) : Nat := Q.foldl (fun g x => max g (dp P x)) 0
theorem gd_snoc (P Q : List (Nat × Nat)) (x : Nat × Nat) : gd P (Q ++ [x]) = max (gd P Q) (dp P x) := by unfold gd; rw [List.foldl_append]; rfl
theorem gd_take {P Q : List (Nat × Nat)} {k : Nat} {x : Nat × Nat} (h : Q[k]? = some x) : gd P (Q.take (k + 1)) = max (gd P (Q.take k)) (dp P x) := by
  rw [List.take_add_one, h]; exact gd_snoc _ _ _
theorem gd_le (P Q : List (Nat × Nat)) : gd P Q ≤ 1 + P.length := by
  refine snoc_ind (C := fun Q => gd P Q ≤ 1 + P.length) (Nat.zero_le _) ?_ Q
  intro Q x ih
  rw [gd_snoc]
  have := dp_le P x
  omega
theorem prs_take {M : List Int} {k : Nat} {m : Int} (h : M[k]? = some m) : prsF 0 (M.take (k + 1)) = prsF 0 (M.take k) ++ (if (k : Int) < m then [(k, m.toNat)] else []) := by
  have hk := lt_of_some h
  rw [List.take_add_one, h, prsF_app, List.length_take, Nat.min_eq_left (Nat.le_of_lt hk), Nat.zero_add]
  congr 1
/-- what QuoteDepth answers -/
def qdV (s : ByteArray) : Value := if okQ s = true then .tuple #[.int .i64 (gd (prs (qrun s s.size).M) (prs (qrun s s.size).M) : Nat), .bool true] else .tuple #[.int .i64 0, .bool false]
theorem qdV_form (s : ByteArray) : ∃ (u : Int) (r : Bool), qdV s = .tuple #[.int .i64 u, .bool r] := by
  by_cases h : okQ s = true
  · exact ⟨_, true, by unfold qdV; rw [if_pos h]⟩
  · exact ⟨0, false, by unfold qdV; rw [if_neg h]⟩

set_option maxRecDepth 100000 in
set_option maxHeartbeats 2000000 in
theorem qdep_i (s : ByteArray) (w : World) (hs : s.size ≤ 1048576) : Calls Try.prog 12 #[.string s] w fun e w' => e = .returned (qdV s) ∧ Below w.heap.size w w' := by
  have HQ := Lib.hid (fun z w hz => quoted_i s z w hs hz)
  cases h : okQ s with
  | false =>
    have HE : Hid (qdV s = .tuple #[.int .i64 0, .bool false]) := Lib.hid (by unfold qdV; rw [if_neg (by rw [h]; simp)])
    have H1 := Lib.hid (fun w => HQ.out false w h)
    clear h HQ
    go_enter Try.func12, Try.ntmps12
    go_wp2_with (first | (go_at_call 23; refine (H1.out _).mono ?_; rintro e w' ⟨rfl, rfl⟩))
    go_ret2
    exact ⟨by rw [HE.out]; rfl, Below.refl _ _⟩
  | true =>
    have hsz := okQ_size h
    have H1 := Lib.hid (fun w => HQ.out true w h)
    have HRd := Lib.hid (read_q s w hsz)
    have HE : Hid (qdV s = .tuple #[.int .i64 (gd (prs (qrun s s.size).M) (prs (qrun s s.size).M) : Nat), .bool true]) := Lib.hid (by unfold qdV; rw [if_pos h])
    have HI := Lib.hid (inv_run s s.size)
    unfold RqPost at HRd
    generalize qrun s s.size = q at HRd HE HI
    clear h HQ
    go_enter Try.func12, Try.ntmps12
    go_wp2_with (first | (go_at_call 23; refine (H1.out _).mono ?_; rintro e w' ⟨rfl, rfl⟩))
    refine HRd.out.mono ?_
    rintro e w1 ⟨rfl, AP, cP, AO, cO, hQ⟩
    have hpl := prs_le HI.out
    obtain ⟨P, hP⟩ : ∃ P, prs q.M = P := ⟨_, rfl⟩
    rw [hP] at hpl hQ HE
    obtain ⟨n, hn⟩ : ∃ n, P.length = n := ⟨_, rfl⟩
    have c0 := hQ.c0
    have hBq := hQ.lt
    have hb1 : Kp w w1 := hQ.bel
    rw [hn] at c0 hpl
    have HN := Lib.hid hn
    have HRq := Lib.hid (own_rq hQ.rp)
    have HG := Lib.hid (fun k => gd_le P (P.take k))
    have HD := Lib.hid (fun w' (hb : Kp w1 w') a b => depth_q AP cP n w.heap.size a b P w' (HRq.out.below hb) hn (by omega) ((hb.cell (p := ⟨w.heap.size, 0, none⟩) hBq).trans c0) (Nat.lt_of_lt_of_le hBq (ksz hb)))
    clear hP hn hQ
    go_wp2_with fail
    go_loopw [5, 19] (fun d i wr => ∃ k : Nat, k ≤ n ∧ i = .int .i64 k ∧ (∃ m : Nat, m ≤ 1 + n ∧ Hid (gd P (P.take k) = m) ∧ d = .int .i64 m) ∧ Kp w1 wr) (fun _ i _ => n - (intOf i).toNat)
    case atStart => exact ⟨0, Nat.zero_le _, rfl, ⟨0, Nat.zero_le _, Lib.hid rfl, rfl⟩, kre _⟩
    case round =>
      obtain ⟨k, hk, rfl, ⟨m, hm, HM, rfl⟩, hb⟩ := hrel
      by_cases hlt : k < n
      · have hkx : k < P.length := by rw [HN.out]; exact hlt
        have hx? := List.getElem?_eq_getElem hkx
        obtain ⟨g, rfl, hg, d0, d1⟩ := (HRq.out.below hb) k P[k] hx?
        have HT := Lib.hid (gd_take (P := P) hx?)
        have hg1 := HG.out (k + 1)
        rw [HN.out] at hg1
        clear hx?
        generalize P[k] = x at *
        obtain ⟨a, b⟩ := x
        dsimp only at d0 d1
        obtain ⟨d, hd⟩ : ∃ d, dp P (a, b) = d := ⟨_, rfl⟩
        have HDx := Lib.hid (fun w' hb => HD.out w' hb a b)
        rw [hd] at HDx HT
        rw [HM.out] at HT
        rw [HT.out] at hg1
        have hbx : Kp w1 (wr.alloc (.cells #[.int .i64 (a : Int), .int .i64 (b : Int)] 56)) := kal hb _
        have e0 : (wr.alloc (.cells #[.int .i64 (a : Int), .int .i64 (b : Int)] 56)).cell? ⟨wr.heap.size, 0, none⟩ = some (.int .i64 (a : Int)) := by simp
        have e1 : (wr.alloc (.cells #[.int .i64 (a : Int), .int .i64 (b : Int)] 56)).cell? ⟨wr.heap.size, 1, none⟩ = some (.int .i64 (b : Int)) := by simp
        have hsx : wr.heap.size < (wr.alloc (.cells #[.int .i64 (a : Int), .int .i64 (b : Int)] 56)).heap.size := by simp
        go_upto_region 8 with fail
        generalize hwx : wr.alloc (.cells #[.int .i64 (a : Int), .int .i64 (b : Int)] 56) = wx at hbx e0 e1 hsx ⊢
        generalize hB : wr.heap.size = B at e0 e1 hsx ⊢
        have HSS : Hid (∀ w', Kp wx w' → ((w'.cell? ⟨B, 0, none⟩ = some (.int .i64 (a : Int)) ∧ w'.cell? ⟨B, 1, none⟩ = some (.int .i64 (b : Int))) ∧ Kp w1 w')) := Lib.hid (fun w' h => ⟨⟨(h.cell (p := ⟨B, 0, none⟩) hsx).trans e0, (h.cell (p := ⟨B, 1, none⟩) hsx).trans e1⟩, ktr hbx h⟩)
        have HK0 := Lib.hid (kdr (kre wx))
        have HKW := Lib.hid (kdr hbx)
        clear hd e0 e1 hwx hB d0 d1
        go_region_held3 (fun w' => (w'.cell? ⟨B, 0, none⟩ = some (.int .i64 (a : Int)) ∧ w'.cell? ⟨B, 1, none⟩ = some (.int .i64 (b : Int))) ∧ Kp w1 w')
          (first | exact HSS.out _ HK0.out | exact HSS.out _ (by assumption))
          (first | (go_at_call 33; (with_reducible refine (HDx.out _ HKW.out).mono ?_); rintro e w3 ⟨rfl, b3⟩; have hk3 : Kp wx w3 := knx HK0.out b3))
        (try clear hHeld)
        have hb3 := (HSS.out _ hk3).2
        clear b3 HSS HK0 HKW hk3
        have hmx : (if m < d then (d : Int) else (m : Int)) = ((max m d : Nat) : Int) := by split <;> omega
        have hmx2 : (if d < m then (m : Int) else (d : Int)) = ((max m d : Nat) : Int) := by split <;> omega
        have hmx3 : max (m : Int) (d : Int) = ((max m d : Nat) : Int) := by omega
        generalize max m d = r at hmx hmx2 hmx3 HT hg1
        go_wp2_with fail
        go_roundw
        case rel => exact ⟨k + 1, by omega, by go_num, ⟨r, hg1, HT, by first | rfl | rw [hmx] | rw [hmx2] | rw [hmx3]⟩, hb3⟩
        case measure => (simp [intOf] <;> omega)
      · obtain rfl : k = n := by omega
        have HF : Hid ((gd P P : Nat) = m) := Lib.hid (by rw [← HM.out, List.take_of_length_le (by rw [HN.out]; exact Nat.le_refl _)])
        go_wp2_with fail
        go_ret2
        exact ⟨by rw [HE.out, HF.out]; rfl, ktr hb1 hb⟩

end Go.Proofs.Ytljbbmefemfjpaa.QtG
