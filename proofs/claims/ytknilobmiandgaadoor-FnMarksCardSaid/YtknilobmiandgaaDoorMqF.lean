/-
  Plain facts on cleaning, stripping, counting: what the law FnMarks asks.
-/
import Derived.Test.YtknilobmiandgaaDoorMqR
import Derived.Test.YtknilobmiandgaaDoorMqN
import Derived.Test.YtknilobmiandgaaDoorMqQ2
import Derived.Test.YtknilobmiandgaaDoorMqS
namespace Go.Proofs.YtknilobmiandgaaDoor.Mq
open Go.RowKit Pl NmPl MqPl
set_option linter.unusedSimpArgs false
set_option linter.unusedVariables false

theorem pushR_stl (st : List UInt8) (c : UInt8) (h : stl st) : stl (pushR st c) := by
  induction st generalizing c with
  | nil => trivial
  | cons l st ih =>
    cases hr : rp l c with
    | none => rw [pushR_none hr]; exact ⟨hr, h⟩
    | some x => rw [pushR_some hr]; exact ih x (stl_tail h)
theorem runR_stl' (s : List UInt8) : stl (runR s) := by
  induction s using snocInd with
  | h0 => trivial
  | h1 l x ih => rw [runR_snoc]; exact pushR_stl _ _ ih
theorem stl_drop (x M : List UInt8) (h : stl (x ++ M)) : stl M := by
  induction x with
  | nil => exact h
  | cons a x ih => exact ih (stl_tail (a := a) h)
theorem stl_take (M y : List UInt8) (h : stl (M ++ y)) : stl M := by
  induction M with
  | nil => trivial
  | cons b M ih =>
    cases M with
    | nil => trivial
    | cons a M => exact ⟨h.1, ih h.2⟩
theorem dropW_suf (P : UInt8 → Bool) (l : List UInt8) : ∃ x, l = x ++ l.dropWhile P := ⟨l.takeWhile P, List.takeWhile_append_dropWhile.symm⟩
theorem dropW_idem (P : UInt8 → Bool) (l : List UInt8) : (l.dropWhile P).dropWhile P = l.dropWhile P := by
  induction l with
  | nil => rfl
  | cons a l ih =>
    cases h : P a with
    | true => rw [List.dropWhile_cons, if_pos h]; exact ih
    | false => rw [List.dropWhile_cons, if_neg (by rw [h]; decide), List.dropWhile_cons, if_neg (by rw [h]; decide)]
theorem dropW_rev_pre (P : UInt8 → Bool) (l : List UInt8) : ∃ y, l = (l.reverse.dropWhile P).reverse ++ y := by
  obtain ⟨x, hx⟩ := dropW_suf P l.reverse
  refine ⟨x.reverse, ?_⟩
  rw [← List.reverse_append, ← hx, List.reverse_reverse]
theorem trimB_infix (l : List UInt8) : ∃ x y, l = x ++ Lib.trimB l 32 ++ y := by
  obtain ⟨y, hy⟩ := dropW_rev_pre (· == 32) l
  obtain ⟨x, hx⟩ := dropW_suf (· == 32) (Lib.trimRightB l 32)
  refine ⟨x, y, ?_⟩
  have e1 : x ++ Lib.trimB l 32 = Lib.trimRightB l 32 := hx.symm
  rw [e1]; exact hy
theorem trimR_idem (l : List UInt8) : Lib.trimRightB (Lib.trimRightB l 32) 32 = Lib.trimRightB l 32 := by
  unfold Lib.trimRightB
  rw [List.reverse_reverse, dropW_idem]
theorem trimB_idem (l : List UInt8) : Lib.trimB (Lib.trimB l 32) 32 = Lib.trimB l 32 := by
  have h1 : Lib.trimRightB (Lib.trimB l 32) 32 = Lib.trimB l 32 := by rw [← trim_comm, trimR_idem]
  show Lib.trimLeftB (Lib.trimRightB (Lib.trimB l 32) 32) 32 = _
  rw [h1]
  exact dropW_idem (· == 32) (Lib.trimRightB l 32)
/-- a clean text stays as it is -/
theorem clL_idem (s : List UInt8) : clL (clL s) = clL s := by
  obtain ⟨x, y, hxy⟩ := trimB_infix (runR s).reverse
  have h1 : stl (clL s).reverse := by
    have h2 : runR s = y.reverse ++ ((clL s).reverse ++ x.reverse) := by
      have h3 := congrArg List.reverse hxy
      rw [List.reverse_reverse, List.reverse_append, List.reverse_append] at h3
      exact h3
    have h4 := runR_stl' s
    rw [h2] at h4
    exact stl_take _ _ (stl_drop _ _ h4)
  show Lib.trimB (runR (clL s)).reverse 32 = _
  rw [runR_stl _ h1, List.reverse_reverse]
  exact trimB_idem _
theorem mark_pr {x : UInt8} (h : isM x = true) : prM x = true := by
  have h1 : ∀ n, n < 256 → isM (UInt8.ofNat n) = true → prM (UInt8.ofNat n) = true := by decide +kernel
  have h2 := h1 x.toNat x.toNat_lt
  rw [UInt8.ofNat_toNat] at h2
  exact h2 h
theorem rp_cases {l c x : UInt8} (h : rp l c = some x) : (l = 32 ∧ x = c) ∨ (isM l = true ∧ isM c = true ∧ isM x = true) := by
  by_cases h1 : l = 32 ∧ (c = 32 ∨ isM c = true)
  · rw [rp_sp h1] at h; exact .inl ⟨h1.1, (Option.some.inj h).symm⟩
  · rw [rp_rm h1] at h
    obtain ⟨_, _, h3, h4, h5⟩ := rm_facts h
    exact .inr ⟨h4, h5, h3⟩
theorem pushR_pr (st : List UInt8) (c : UInt8) (h : st.all prM = true) (hc : prM c = true) : (pushR st c).all prM = true := by
  induction st generalizing c with
  | nil => rw [pushR_nil]; simp [hc]
  | cons l st ih =>
    rw [List.all_cons] at h
    simp only [Bool.and_eq_true] at h
    cases hr : rp l c with
    | none => rw [pushR_none hr]; simp only [List.all_cons, hc, h.1, h.2, Bool.and_self]
    | some x =>
      rw [pushR_some hr]
      refine ih x h.2 ?_
      rcases rp_cases hr with ⟨_, rfl⟩ | ⟨_, _, hx⟩
      · exact hc
      · exact mark_pr hx
theorem runR_pr (s : List UInt8) (h : s.all prM = true) : (runR s).all prM = true := by
  induction s using snocInd with
  | h0 => rfl
  | h1 l x ih =>
    rw [List.all_append] at h
    simp only [Bool.and_eq_true, List.all_cons, List.all_nil, Bool.and_true] at h
    rw [runR_snoc]
    exact pushR_pr _ _ (ih h.1) h.2
theorem all_infix {l x m y : List UInt8} (P : UInt8 → Bool) (h : l = x ++ m ++ y) (ha : l.all P = true) : m.all P = true := by
  rw [h, List.all_append, List.all_append] at ha
  simp only [Bool.and_eq_true] at ha
  exact ha.1.2
theorem okX_of {l m : List UInt8} (h : okX l = true) (hl : m.length ≤ l.length) (hp : m.all prM = true) : okX m = true := by
  unfold okX at h ⊢
  simp only [Bool.and_eq_true, decide_eq_true_eq] at h ⊢
  exact ⟨by omega, hp⟩
theorem okX_pr2 {l : List UInt8} (h : okX l = true) : l.all prM = true := by
  unfold okX at h
  simp only [Bool.and_eq_true] at h
  exact h.2
theorem okX_clL {s : List UInt8} (h : okX s = true) : okX (clL s) = true := by
  refine okX_of h (clL_len s) ?_
  obtain ⟨x, y, hxy⟩ := trimB_infix (runR s).reverse
  exact all_infix prM hxy (by rw [List.all_reverse]; exact runR_pr s (okX_pr2 h))
theorem strip_infix (l : List UInt8) : ∃ x y, l = x ++ dR (dL l) ++ y := by
  obtain ⟨x, hx⟩ := dropW_suf (c7.contains ·) l
  obtain ⟨y, hy⟩ := dropW_rev_pre (c7.contains ·) (dL l)
  refine ⟨x, y, ?_⟩
  have e1 : dL l = dR (dL l) ++ y := hy
  rw [List.append_assoc, ← e1]
  exact hx
theorem strip_len (l : List UInt8) : (dR (dL l)).length ≤ l.length := by
  obtain ⟨x, y, h⟩ := strip_infix l
  have := congrArg List.length h
  simp only [List.length_append] at this
  omega
theorem dR_idem (l : List UInt8) : dR (dR l) = dR l := by
  unfold dR
  rw [List.reverse_reverse, dropW_idem]
theorem strip_idem (l : List UInt8) : dR (dL (dR (dL l))) = dR (dL l) := by
  rw [← d_comm (dL l)]
  have : dL (dL l) = dL l := dropW_idem _ l
  rw [this, dR_idem]
theorem okX_strip {s : List UInt8} (h : okX s = true) : okX (dR (dL s)) = true := by
  refine okX_of h (strip_len s) ?_
  obtain ⟨x, y, hxy⟩ := strip_infix s
  exact all_infix prM hxy (okX_pr2 h)
/-- how many marks -/
def cntM (l : List UInt8) : Nat := (l.filter isM).length
theorem cntM_app (l m : List UInt8) : cntM (l ++ m) = cntM l + cntM m := by unfold cntM; rw [List.filter_append, List.length_append]
theorem cntM_cons (c : UInt8) (l : List UInt8) : cntM (c :: l) = (if isM c = true then 1 else 0) + cntM l := by
  unfold cntM; rw [List.filter_cons]; split <;> simp <;> omega
theorem cmA_cnt (l : List UInt8) : (cmA l).1 = cntM l ∧ (cmA l).2.1 ≤ (cmA l).1 := by
  induction l using snocInd with
  | h0 => exact ⟨rfl, Nat.le_refl _⟩
  | h1 l c ih =>
    rw [cmA_snoc, cntM_app, cntM_cons]
    unfold cmS
    by_cases h : isM c = true
    · rw [if_pos h, if_pos h]
      refine ⟨by show (cmA l).1 + 1 = _; rw [ih.1]; rfl, ?_⟩
      have h2 := ih.2
      show (if (cmA l).2.2 = true then (cmA l).2.1 + 1 else (cmA l).2.1) ≤ (cmA l).1 + 1
      split
      · exact Nat.succ_le_succ h2
      · exact Nat.le_succ_of_le h2
    · rw [if_neg h, if_neg h]
      exact ⟨by show (cmA l).1 = _; rw [ih.1]; rfl, ih.2⟩
theorem pushR_cnt (st : List UInt8) (c : UInt8) : cntM (pushR st c) ≤ cntM (c :: st) := by
  induction st generalizing c with
  | nil => rw [pushR_nil]; exact Nat.le_refl _
  | cons l st ih =>
    cases hr : rp l c with
    | none => rw [pushR_none hr]; exact Nat.le_refl _
    | some x =>
      rw [pushR_some hr]
      have h1 := ih x
      rw [cntM_cons] at h1
      rw [cntM_cons, cntM_cons]
      rcases rp_cases hr with ⟨_, rfl⟩ | ⟨hl, hc, hx⟩
      · omega
      · rw [if_pos hl, if_pos hc]; rw [if_pos hx] at h1; omega
theorem runR_cnt (s : List UInt8) : cntM (runR s) ≤ cntM s := by
  induction s using snocInd with
  | h0 => exact Nat.le_refl _
  | h1 l x ih =>
    rw [runR_snoc, cntM_app]
    have h1 := pushR_cnt (runR l) x
    rw [cntM_cons] at h1
    rw [cntM_cons]
    show _ ≤ cntM l + (_ + 0)
    omega
theorem cntM_rev (l : List UInt8) : cntM l.reverse = cntM l := by unfold cntM; rw [List.filter_reverse, List.length_reverse]
theorem clL_cnt (s : List UInt8) : cntM (clL s) ≤ cntM s := by
  obtain ⟨x, y, h⟩ := trimB_infix (runR s).reverse
  have h1 := congrArg cntM h
  rw [cntM_rev, cntM_app, cntM_app] at h1
  have h2 := runR_cnt s
  show cntM (Lib.trimB (runR s).reverse 32) ≤ _
  omega
/-- what the functions answer at a text that is valid -/
theorem marks_vals (s : ByteArray) (hs : s.size ≤ 61) : (ctV s = .tuple #[.string ⟨#[]⟩, .bool false]) ∨ ∃ (c t q : ByteArray) (n m k j : Nat), ctV s = .tuple #[.string c, .bool true] ∧ icV c = .tuple #[.bool true, .bool true] ∧ stV s = .tuple #[.string t, .bool true] ∧ stV t = .tuple #[.string t, .bool true] ∧
    cmV s = .tuple #[.int .i64 n, .int .i64 m, .bool true] ∧ cmV c = .tuple #[.int .i64 k, .int .i64 j, .bool true] ∧ mvV s = .tuple #[.string q, .bool true] ∧ c.size ≤ s.size ∧ t.size ≤ 61 ∧ k ≤ n ∧ m ≤ n ∧ q.size = s.size := by
  cases h : okX s.data.toList with
  | false => left; unfold ctV; rw [if_neg (by simp [h])]
  | true =>
    right
    have h1 := okX_clL h
    have h2 := okX_strip h
    have hcl := clL_len s.data.toList
    have hsl := strip_len s.data.toList
    have hml := mvA_len s.data.toList
    rw [len_size] at hcl hsl hml
    refine ⟨ba (clL s.data.toList), stB s, ba (mvA s.data.toList), (cmA s.data.toList).1, (cmA s.data.toList).2.1, (cmA (clL s.data.toList)).1, (cmA (clL s.data.toList)).2.1, ?_, ?_, ?_, ?_, ?_, ?_, ?_, ?_, ?_, ?_, ?_, ?_⟩
    · unfold ctV; rw [if_pos h]
    · unfold icV; rw [toList_ba, if_pos h1, clL_idem]; simp
    · unfold stV; rw [if_pos h]
    · unfold stV stB; rw [toList_ba, if_pos h2, strip_idem]
    · unfold cmV; rw [if_pos h]
    · unfold cmV; rw [toList_ba, if_pos h1]
    · unfold mvV; rw [if_pos h]
    · rw [ba_size]; exact hcl
    · unfold stB; rw [ba_size]; omega
    · rw [(cmA_cnt _).1, (cmA_cnt _).1]; exact clL_cnt _
    · exact (cmA_cnt _).2
    · rw [ba_size]; exact hml
end Go.Proofs.YtknilobmiandgaaDoor.Mq
