/-
  A valid style is small, and so is what a change makes of it. No walk.
-/
import Derived.Test.YtldfdfdleaemaaaDoorNdCk
namespace Go.Proofs.YtldfdfdleaemaaaDoor.Nd
open Go.RowKit NdPl Ns
set_option linter.unusedSimpArgs false
set_option linter.unusedVariables false

theorem sf_size {s : ByteArray} (h : isSF s = true) : s.size ≤ 12 := by
  have h1 : s ∈ sfs := (Lib.containsS_iff _ _).1 h
  simp only [sfs, fws, List.mem_append, List.mem_cons, List.not_mem_nil, or_false, or_assoc] at h1
  rcases h1 with rfl | rfl | rfl | rfl | rfl | rfl | rfl | rfl | rfl | rfl <;> decide
theorem kd_size {s : ByteArray} (h : 0 < kd s) : s.size ≤ 12 := by
  unfold kd at h
  split at h
  · subst_vars; decide
  · split at h
    · subst_vars; decide
    · split at h
      · subst_vars; decide
      · split at h
        · subst_vars; decide
        · omega
theorem em_size {s : ByteArray} (h : em s = true) : s.size ≤ 12 := by
  have := of_decide_eq_true (show decide (s.size = 0) = true from h); omega
theorem pc_size {s : ByteArray} (h : pcB s = true) : s.size ≤ 12 := by
  unfold pcB at h
  rw [Bool.and_eq_true] at h
  exact of_decide_eq_true h.1
theorem sh_size {op : Int} {wd tx af : ByteArray} {n : Nat} (h : shB op wd tx af n = true) : wd.size ≤ 12 ∧ tx.size ≤ 12 ∧ af.size ≤ 12 ∧ n ≤ 6 := by
  unfold shB at h
  repeat' split at h
  all_goals simp only [Bool.and_eq_true, decide_eq_true_eq, beq_iff_eq, Bool.false_eq_true] at h
  · exact ⟨sf_size h.1.1.1, em_size h.1.1.2, em_size h.1.2, by omega⟩
  · exact ⟨em_size h.1.1.1.1, pc_size h.1.1.2, em_size h.1.2, by omega⟩
  · exact ⟨em_size h.1.1.1, pc_size h.1.1.2, em_size h.1.2, by omega⟩
  · exact ⟨sf_size h.1.1.1, em_size h.1.1.2, em_size h.1.2, by omega⟩
  · exact ⟨kd_size (by have := h.1.1.1; omega), em_size h.1.1.2, em_size h.1.2, by omega⟩
  · exact ⟨em_size h.1.1.1, em_size h.1.1.2, em_size h.1.2, by omega⟩
  · exact ⟨em_size h.1.1.1, pc_size h.1.1.2, pc_size h.1.2, by omega⟩
  · exact ⟨em_size h.1.1.1, em_size h.1.1.2, em_size h.1.2, by omega⟩
  · exact ⟨em_size h.1.1.1, em_size h.1.1.2, em_size h.1.2, by omega⟩
theorem ok_size (k : Nat) : ∀ x, okT k x = true → szT x ≤ 64 * cntT x := by
  induction k with
  | zero => intro x h; cases h
  | succ k ih =>
    intro x h
    have h' : (shB x.op x.wd x.tx x.af x.ps.length && x.ps.all (okT k)) = true := h
    rw [Bool.and_eq_true] at h'
    obtain ⟨h1, h2, h3, h4⟩ := sh_size h'.1
    have hl : ∀ L : List Tr, L.all (okT k) = true → szS L ≤ 64 * cntS L := by
      intro L
      induction L with
      | nil => intro _; simp [szS, cntS]
      | cons y r ihl =>
        intro hy
        rw [List.all_cons, Bool.and_eq_true] at hy
        have := ih y hy.1
        have := ihl hy.2
        simp only [szS, cntS]
        omega
    have := hl x.ps h'.2
    rw [szT_eq, cntT_eq]
    omega
mutual
theorem ch_size (f : Tr → Tr) (K : Nat) (hf : ∀ y, cntT (f y) ≤ cntT y ∧ szT (f y) ≤ szT y + K) (x : Tr) : cntT (chT f x) ≤ cntT x ∧ szT (chT f x) ≤ szT x + K * cntT x := by
  cases x with
  | mk o a b c l =>
    have h1 := chs_size f K hf l
    have h2 := hf (.mk o a b c (chS f l))
    have h3 := chS_len f l
    simp only [chT, cntT, szT] at h2 ⊢
    rw [Nat.mul_add]
    omega
theorem chs_size (f : Tr → Tr) (K : Nat) (hf : ∀ y, cntT (f y) ≤ cntT y ∧ szT (f y) ≤ szT y + K) (L : List Tr) : cntS (chS f L) ≤ cntS L ∧ szS (chS f L) ≤ szS L + K * cntS L := by
  cases L with
  | nil => simp [chS, cntS, szS]
  | cons x r =>
    have h1 := ch_size f K hf x
    have h2 := chs_size f K hf r
    simp only [chS, cntS, szS]
    rw [Nat.mul_add]
    omega
end
theorem gd_size {nm : Int} {x : Tr} (h : gdB nm x = true) : szT x ≤ 1920 ∧ cntT x ≤ 30 := by
  unfold gdB at h
  simp only [Bool.and_eq_true, decide_eq_true_eq] at h
  have := ok_size 5 x h.1.2
  omega
theorem zT_size : szT zT ≤ 100000 ∧ cntT zT ≤ 100000 := ⟨by decide, by decide⟩
theorem small_rp (old fld : ByteArray) (nm : Int) (x : Tr) : szT (rpT old fld nm x) ≤ 100000 ∧ cntT (rpT old fld nm x) ≤ 100000 := by
  unfold rpT
  split
  · rename_i h
    unfold rpB at h
    simp only [Bool.and_eq_true] at h
    have h1 := gd_size h.2
    have h2 := sf_size h.1.2
    have h3 := ch_size (rpF old fld) 12 (fun y => by
      unfold rpF
      split
      · cases y; simp only [cntT, szT, Tr.op, Tr.tx, Tr.af, Tr.ps]; omega
      · omega) x
    omega
  · exact zT_size
theorem part_size (y : Tr) (j : Nat) : cntT (y.ps.getD j default) ≤ cntT y ∧ szT (y.ps.getD j default) ≤ szT y := by
  rw [cntT_eq y, szT_eq y]
  rcases Nat.lt_or_ge j y.ps.length with h | h
  · rw [List.getD_eq_getElem?_getD, List.getElem?_eq_getElem h]
    have hx := List.getElem?_eq_getElem h
    have h1 := szS_mem hx
    have h2 := cntS_take hx
    have h3 := cntS_le y.ps (j + 1)
    simp only [Option.getD_some]
    omega
  · rw [List.getD_eq_getElem?_getD, List.getElem?_eq_none h]
    have e1 : cntT (default : Tr) = 1 := rfl
    have e2 : szT (default : Tr) = 0 := rfl
    simp only [Option.getD_none]
    omega
theorem small_ck (k : Int) (nm : Int) (x : Tr) : szT (ckT k nm x) ≤ 100000 ∧ cntT (ckT k nm x) ≤ 100000 := by
  unfold ckT
  split
  · rename_i h
    unfold ckB at h
    simp only [Bool.and_eq_true] at h
    have h1 := gd_size h.2
    have h3 := ch_size (ckF (kwS k)) 0 (fun y => by
      have p0 := part_size y 0
      have p1 := part_size y 1
      unfold ckF
      split
      · split <;> omega
      · omega) x
    omega
  · exact zT_size
end Go.Proofs.YtldfdfdleaemaaaDoor.Nd
