/-
  The text of a valid node determines the node; simplifying keeps a node valid. No walk.
-/
import Derived.Test.YtldfdfdleaemaaaDoorNdX
import Derived.Test.YtldfdfdleaemaaaDoorNdAd
namespace Go.Proofs.YtldfdfdleaemaaaDoor.Nd
open Go.RowKit NdPl Ns
set_option linter.unusedSimpArgs false
set_option linter.unusedVariables false

def dlm (c : UInt8) : Bool := c == 32 || c == 41
def Ends (r : List UInt8) : Prop := ∀ c t, r = c :: t → dlm c = true
theorem cutAt (p : UInt8 → Bool) : ∀ (u v r s : List UInt8), (∀ c ∈ u, p c = false) → (∀ c ∈ v, p c = false) → (∀ c t, r = c :: t → p c = true) → (∀ c t, s = c :: t → p c = true) → u ++ r = v ++ s → u = v ∧ r = s := by
  intro u
  induction u with
  | nil =>
    intro v r s hu hv hr hs h
    cases v with
    | nil => exact ⟨rfl, h⟩
    | cons c v =>
      exfalso
      have h1 := hr c (v ++ s) h
      rw [hv c (List.mem_cons_self ..)] at h1
      cases h1
  | cons c u ih =>
    intro v r s hu hv hr hs h
    cases v with
    | nil =>
      exfalso
      have h1 := hs c (u ++ r) h.symm
      rw [hu c (List.mem_cons_self ..)] at h1
      cases h1
    | cons d v =>
      simp only [List.cons_append, List.cons.injEq] at h
      obtain ⟨rfl, h⟩ := h
      obtain ⟨rfl, rfl⟩ := ih v r s (fun x hx => hu x (List.mem_cons_of_mem _ hx)) (fun x hx => hv x (List.mem_cons_of_mem _ hx)) hr hs h
      exact ⟨rfl, rfl⟩
theorem word_cut {u v r s : List UInt8} (hu : ∀ c ∈ u, dlm c = false) (hv : ∀ c ∈ v, dlm c = false) (hr : Ends r) (hs : Ends s) (h : u ++ r = v ++ s) : u = v ∧ r = s := cutAt dlm u v r s hu hv hr hs h
theorem quote_cut {u v r s : List UInt8} (hu : ∀ c ∈ u, (c == 34) = false) (hv : ∀ c ∈ v, (c == 34) = false) (h : u ++ 34 :: r = v ++ 34 :: s) : u = v ∧ r = s := by
  have h1 := cutAt (fun c => c == 34) u v (34 :: r) (34 :: s) hu hv (fun c t e => by cases e; rfl) (fun c t e => by cases e; rfl) h
  exact ⟨h1.1, (List.cons.inj h1.2).2⟩
theorem sf_list {s : ByteArray} (h : isSF s = true) : ∃ c t, s.data.toList = c :: t ∧ c ≠ 34 ∧ c ≠ 40 ∧ ∀ x ∈ c :: t, dlm x = false := by
  have h1 : s ∈ sfs := (Lib.containsS_iff _ _).1 h
  simp only [sfs, fws, List.mem_append, List.mem_cons, List.not_mem_nil, or_false, or_assoc] at h1
  rcases h1 with rfl | rfl | rfl | rfl | rfl | rfl | rfl | rfl | rfl | rfl <;> exact ⟨_, _, rfl, by decide, by decide, by decide⟩
theorem kd_list {s : ByteArray} (h : 0 < kd s) : ∀ x ∈ s.data.toList, dlm x = false := by
  unfold kd at h
  split at h
  · subst_vars; decide
  · split at h
    · subst_vars; decide
    · split at h
      · subst_vars; decide
      · split at h
        · subst_vars; decide
        · omega
theorem pc_list {s : ByteArray} (h : pcB s = true) : ∀ c ∈ s.data.toList, (c == 34) = false := by
  unfold pcB at h
  rw [Bool.and_eq_true] at h
  intro c hc
  have h1 := List.all_eq_true.1 h.2 c hc
  unfold pcC at h1
  rw [Bool.and_eq_true] at h1
  simpa using h1.2
theorem em_eq {s : ByteArray} (h : em s = true) : s = ⟨#[]⟩ := by
  have h1 := of_decide_eq_true (show decide (s.size = 0) = true from h)
  obtain ⟨a⟩ := s
  have h2 : a.size = 0 := h1
  rw [Array.eq_empty_of_size_eq_zero h2]
theorem dat_eq {a b : ByteArray} (h : a.data.toList = b.data.toList) : a = b := by
  have h1 := eq_ba h
  rw [h1, Pl.ba_toList]
theorem ends_tS (L : List Tr) (r : List UInt8) : Ends (tS L ++ 41 :: r) := by
  intro c t h
  cases L with
  | nil => simp only [tS, List.nil_append, List.cons.injEq] at h; rw [← h.1]; rfl
  | cons x L => simp only [tS, List.cons_append, List.nil_append, List.cons.injEq] at h; rw [← h.1]; rfl
/-- what the text of this node cannot hide -/
def Tells (a : Tr) : Prop := ∀ (k : Nat) (b : Tr) (r s : List UInt8), okT k b = true → Ends r → Ends s → tT a ++ r = tT b ++ s → a = b ∧ r = s
theorem s_cut : ∀ (L M : List Tr) (k : Nat) (r s : List UInt8), (∀ y ∈ L, Tells y) → M.all (okT k) = true → tS L ++ 41 :: r = tS M ++ 41 :: s → L = M ∧ r = s := by
  intro L
  induction L with
  | nil =>
    intro M k r s hL hM h
    cases M with
    | nil => simp [tS] at h; exact ⟨rfl, h⟩
    | cons y M => simp [tS] at h
  | cons x L ih =>
    intro M k r s hL hM h
    cases M with
    | nil => simp [tS] at h
    | cons y M =>
      rw [List.all_cons, Bool.and_eq_true] at hM
      simp only [tS, List.append_assoc, List.cons_append, List.nil_append, List.cons.injEq, true_and] at h
      obtain ⟨rfl, h2⟩ := hL x (List.mem_cons_self ..) k y _ _ hM.1 (ends_tS L r) (ends_tS M s) h
      obtain ⟨rfl, rfl⟩ := ih M k r s (fun y hy => hL y (List.mem_cons_of_mem _ hy)) hM.2 h2
      exact ⟨rfl, rfl⟩
theorem okT_op {k : Nat} {x : Tr} (h : okT k x = true) : ∃ k', shB x.op x.wd x.tx x.af x.ps.length = true ∧ x.ps.all (okT k') = true ∧ k = k' + 1 := by
  cases k with
  | zero => cases h
  | succ k =>
    have h' : (shB x.op x.wd x.tx x.af x.ps.length && x.ps.all (okT k)) = true := h
    rw [Bool.and_eq_true] at h'
    exact ⟨k, h'.1, h'.2, rfl⟩
theorem sh_ops {op : Int} {wd tx af : ByteArray} {n : Nat} (h : shB op wd tx af n = true) : op = 1 ∨ op = 2 ∨ op = 3 ∨ op = 4 ∨ op = 5 ∨ op = 6 ∨ op = 7 ∨ op = 8 ∨ op = 9 := by
  unfold shB at h
  repeat' split at h
  all_goals first | omega | cases h
set_option maxRecDepth 100000 in
set_option maxHeartbeats 4000000 in
theorem t_cut (k : Nat) : ∀ a, okT k a = true → Tells a := by
  induction k with
  | zero => intro a h; cases h
  | succ k ih =>
    intro a ha k' b r s hb hr hs h
    obtain ⟨k1, ga, al, e1⟩ := okT_op ha
    obtain rfl : k1 = k := by omega
    obtain ⟨k2, gb, bl, rfl⟩ := okT_op hb
    have hT : ∀ y ∈ a.ps, Tells y := fun y hy => ih y (List.all_eq_true.1 al y hy)
    obtain ⟨op, wd, tx, af, l⟩ := a
    obtain ⟨op', wd', tx', af', l'⟩ := b
    simp only [op_mk, wd_mk, tx_mk, af_mk, ps_mk] at *
    clear ha hb ih al
    rcases sh_ops ga with rfl | rfl | rfl | rfl | rfl | rfl | rfl | rfl | rfl <;> rcases sh_ops gb with rfl | rfl | rfl | rfl | rfl | rfl | rfl | rfl | rfl
    all_goals
      simp [shB] at ga gb
      simp [tT, hdL] at h
    all_goals first
      | (exfalso; obtain ⟨c, t, hc, n1, n2, -⟩ := sf_list ga.1.1.1; rw [hc, List.cons_append] at h; have h0 := (List.cons.inj h).1; first | exact n1 h0 | exact n2 h0)
      | (exfalso; obtain ⟨c, t, hc, n1, n2, -⟩ := sf_list gb.1.1.1; rw [hc, List.cons_append] at h; have h0 := (List.cons.inj h).1.symm; first | exact n1 h0 | exact n2 h0)
      | (obtain ⟨⟨⟨g1, g2⟩, g3⟩, rfl⟩ := ga; obtain ⟨⟨⟨g1', g2'⟩, g3'⟩, rfl⟩ := gb; obtain ⟨_, _, hc, _, _, hl⟩ := sf_list g1; obtain ⟨_, _, hc', _, _, hl'⟩ := sf_list g1'; obtain ⟨e, rfl⟩ := word_cut (by rw [hc]; exact hl) (by rw [hc']; exact hl') hr hs h; obtain rfl := dat_eq e; rw [em_eq g2, em_eq g2', em_eq g3, em_eq g3']; exact ⟨rfl, rfl⟩)
      | (obtain ⟨e, rfl⟩ := quote_cut (pc_list ga.1.1.2) (pc_list gb.1.1.2) h; obtain rfl := dat_eq e; rw [em_eq ga.1.1.1.1, em_eq gb.1.1.1.1, em_eq ga.1.2, em_eq gb.1.2, ga.2, gb.2]; exact ⟨rfl, rfl⟩)
      | (obtain ⟨e, h2⟩ := quote_cut (pc_list ga.1.1.2) (pc_list gb.1.1.2) h; obtain rfl := dat_eq e; obtain ⟨rfl, rfl⟩ := s_cut l l' k2 r s hT bl h2; rw [em_eq ga.1.1.1, em_eq gb.1.1.1, em_eq ga.1.2, em_eq gb.1.2]; exact ⟨rfl, rfl⟩)
      | (obtain ⟨⟨⟨g1, g2⟩, g3⟩, -⟩ := ga; obtain ⟨⟨⟨g1', g2'⟩, g3'⟩, -⟩ := gb; guard_hyp g1 : isSF wd = true; obtain ⟨_, _, hc, _, _, hl⟩ := sf_list g1; obtain ⟨_, _, hc', _, _, hl'⟩ := sf_list g1'; obtain ⟨e, h2⟩ := word_cut (by rw [hc]; exact hl) (by rw [hc']; exact hl') (ends_tS l r) (ends_tS l' s) h; obtain rfl := dat_eq e; obtain ⟨rfl, rfl⟩ := s_cut l l' k2 r s hT bl h2; rw [em_eq g2, em_eq g2', em_eq g3, em_eq g3']; exact ⟨rfl, rfl⟩)
      | (obtain ⟨⟨⟨g1, g2⟩, g3⟩, -⟩ := ga; obtain ⟨⟨⟨g1', g2'⟩, g3'⟩, -⟩ := gb; obtain ⟨e, h2⟩ := word_cut (kd_list g1) (kd_list g1') (ends_tS l r) (ends_tS l' s) h; obtain rfl := dat_eq e; obtain ⟨rfl, rfl⟩ := s_cut l l' k2 r s hT bl h2; rw [em_eq g2, em_eq g2', em_eq g3, em_eq g3']; exact ⟨rfl, rfl⟩)
      | (obtain ⟨rfl, rfl⟩ := s_cut l l' k2 r s hT bl h; rw [em_eq ga.1.1.1, em_eq gb.1.1.1, em_eq ga.1.1.2, em_eq gb.1.1.2, em_eq ga.1.2, em_eq gb.1.2]; exact ⟨rfl, rfl⟩)
      | (obtain ⟨e, h2⟩ := quote_cut (pc_list ga.1.1.2) (pc_list gb.1.1.2) h; simp at h2; obtain ⟨e2, h3⟩ := quote_cut (pc_list ga.1.2) (pc_list gb.1.2) h2; obtain rfl := dat_eq e; obtain rfl := dat_eq e2; obtain ⟨rfl, rfl⟩ := s_cut l l' k2 r s hT bl h3; rw [em_eq ga.1.1.1, em_eq gb.1.1.1]; exact ⟨rfl, rfl⟩)
/-- two valid nodes with the same text are the same -/
theorem t_inj {k k' : Nat} {a b : Tr} (ha : okT k a = true) (hb : okT k' b = true) : tT a = tT b ↔ a = b := by
  constructor
  · intro h
    exact (t_cut k a ha k' b [] [] hb (fun c t e => by cases e) (fun c t e => by cases e) (by rw [h])).1
  · rintro rfl; rfl
theorem t_beq {k k' : Nat} {a b : Tr} (ha : okT k a = true) (hb : okT k' b = true) : ((Pl.ba (tT a)).toList == (Pl.ba (tT b)).toList) = eqB a b := by
  have h1 := t_inj ha hb
  have h2 := eqB_iff a b
  rw [Bool.eq_iff_iff, beq_iff_eq, h2, Lib.toList_data, Lib.toList_data]
  rw [show (Pl.ba (tT a)).data.toList = tT a by simp [Pl.ba], show (Pl.ba (tT b)).data.toList = tT b by simp [Pl.ba]]
  exact h1
theorem okT_up (k : Nat) : ∀ x, okT k x = true → okT (k + 1) x = true := by
  induction k with
  | zero => intro x h; cases h
  | succ k ih =>
    intro x h
    obtain ⟨k', g, al, e⟩ := okT_op h
    obtain rfl : k' = k := by omega
    show (shB x.op x.wd x.tx x.af x.ps.length && x.ps.all (okT (k' + 1))) = true
    rw [g, Bool.true_and]
    exact List.all_eq_true.2 (fun y hy => ih y (List.all_eq_true.1 al y hy))
/-- simplifying a valid node leaves a valid one -/
theorem sm_ok {k : Nat} {y : Tr} (h : okT k y = true) : okT k (smF y) = true := by
  obtain ⟨k', g, al, rfl⟩ := okT_op h
  unfold smF
  split
  · rename_i hq
    have hlen := ad_part g hq
    apply okT_up
    refine List.all_eq_true.1 al _ ?_
    rw [List.getD_eq_getElem?_getD, List.getElem?_eq_getElem hlen]
    exact List.getElem_mem hlen
  · exact h
theorem chsm_ok (k : Nat) : ∀ x, okT k x = true → okT k (chT smF x) = true := by
  induction k with
  | zero => intro x h; cases h
  | succ k ih =>
    intro x h
    obtain ⟨k', g, al, e⟩ := okT_op h
    obtain rfl : k' = k := by omega
    rw [chT_eq]
    apply sm_ok
    show (shB x.op x.wd x.tx x.af (chS smF x.ps).length && (chS smF x.ps).all (okT k')) = true
    rw [chS_len, g, Bool.true_and, chS_map]
    refine List.all_eq_true.2 (fun y hy => ?_)
    obtain ⟨z, hz, rfl⟩ := List.mem_map.1 hy
    exact ih z (List.all_eq_true.1 al z hz)
end Go.Proofs.YtldfdfdleaemaaaDoor.Nd
