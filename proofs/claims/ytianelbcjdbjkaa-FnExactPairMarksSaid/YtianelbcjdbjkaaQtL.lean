/-
  Lists of lists of two numbers that own their memory; the laws' helpers over them.
-/
import Derived.Test.YtianelbcjdbjkaaQtN
namespace Go.Proofs.Ytianelbcjdbjkaa.QtL
open Go.RowKit QtPl QtB QtIn QtC QtM QtR QtS QtE QtN
set_option linter.unusedSimpArgs false
set_option linter.unusedVariables false

/-- the cells of the outer row -/
def fc (F : List Nat) : List Value := F.map fun f => .slice (some ⟨f, 0, none⟩) 2 2
theorem fc_len (F : List Nat) : (fc F).length = F.length := by simp [fc]
theorem fc_at {F : List Nat} {j f : Nat} (h : F[j]? = some f) : (fc F)[j]? = some (.slice (some ⟨f, 0, none⟩) 2 2) := by simp [fc, h]
structure LL (w : World) (base : Nat) (v : Value) (F : List Nat) (C : List (List Int)) : Prop where
  row : w.ownsRow base 30 1 v F.length (fc F)
  len : F.length = C.length
  inn : ∀ (i f : Nat) (c : List Int), F[i]? = some f → C[i]? = some c → c.length = 2 ∧ w.ownsRow base 3 1 (.slice (some ⟨f, 0, none⟩) 2 2) 2 (mc c)
  nd : F.Nodup
  ap : ∀ f ∈ F, v.ownBlock ≠ some f
theorem LL.fat {w : World} {base : Nat} {v : Value} {F : List Nat} {C : List (List Int)} (h : LL w base v F C) {f : Nat} (hf : f ∈ F) : base ≤ f ∧ f < w.heap.size := by
  obtain ⟨i, hi⟩ := List.getElem?_of_mem hf
  have hil := (List.getElem?_eq_some_iff.1 hi).1
  have hc := List.getElem?_eq_getElem (show i < C.length by rw [← h.len]; exact hil)
  exact (h.inn i f _ hi hc).2.lt f rfl
theorem LL.kp {w w' : World} {base : Nat} {v : Value} {F : List Nat} {C : List (List Int)} (h : LL w base v F C) (hb : Kp w w') : LL w' base v F C :=
  ⟨own_kp h.row hb, h.len, fun i f c h1 h2 => ⟨(h.inn i f c h1 h2).1, own_kp (h.inn i f c h1 h2).2 hb⟩, h.nd, h.ap⟩
/-- kept where only blocks from B on may change -/
theorem own_keepB {w w' : World} {base B : Nat} {e : TypeId} {size n : Nat} {v : Value} {xs : List Value} (h : w.ownsRow base e size v n xs) (hlt : ∀ k, v.ownBlock = some k → k < B) (hb : Below B w w') : w'.ownsRow base e size v n xs := by
  refine ⟨h.1, ?_⟩
  rcases h.2 with h0 | ⟨g, cap, cur, rfl, h2, h3, h4⟩
  · exact .inl h0
  · exact .inr ⟨g, cap, cur, rfl, h2, (hb.block g (hlt g rfl)).trans h3, h4⟩
theorem LL.keepB {w w' : World} {base B : Nat} {v : Value} {F : List Nat} {C : List (List Int)} (h : LL w base v F C) (h1 : ∀ k, v.ownBlock = some k → k < B) (h2 : ∀ f ∈ F, f < B) (hb : Below B w w') : LL w' base v F C :=
  ⟨own_keepB h.row h1 hb, h.len, fun i f c hi hc => ⟨(h.inn i f c hi hc).1, own_keepB (h.inn i f c hi hc).2 (fun k hk => by cases hk; exact h2 f (List.mem_of_getElem? hi)) hb⟩, h.nd, h.ap⟩
theorem LL.form {w : World} {base : Nat} {v : Value} {F : List Nat} {C : List (List Int)} (h : LL w base v F C) : ∃ A c, v = .slice A F.length c := by
  rcases h.row.2 with ⟨rfl, h0⟩ | ⟨g, cap, cur, rfl, _⟩
  · exact ⟨none, 0, by rw [h0]⟩
  · exact ⟨_, _, rfl⟩
theorem LL.cell {w : World} {base c : Nat} {A : Option Addr} {F : List Nat} {C : List (List Int)} (h : LL w base (.slice A F.length c) F C) {k f : Nat} (hf : F[k]? = some f) : ∃ g, A = some ⟨g, 0, none⟩ ∧ g < w.heap.size ∧ w.cell? ⟨g, k, none⟩ = some (.slice (some ⟨f, 0, none⟩) 2 2) := by
  have hk := (List.getElem?_eq_some_iff.1 hf).1
  obtain ⟨g, cap, e, hb, hg⟩ := h.row.form (by omega)
  cases e
  exact ⟨g, rfl, hg, (World.ownsRow.cellAt h.row k (by omega)).trans (fc_at hf)⟩

set_option maxHeartbeats 2000000 in
theorem eqL (A B : Option Addr) (c d n b b' : Nat) (F F' : List Nat) (C : List (List Int)) (w : World) (h : LL w b (.slice A F.length c) F C) (h' : LL w b' (.slice B F'.length d) F' C) (hn : C.length = n) (hm : n ≤ 1048576) :
    Calls Try.prog 8 #[.slice A n c, .slice B n d] w fun e w' => e = .returned (.bool true) ∧ Kp w w' := by
  have H := Lib.hid h
  have H' := Lib.hid h'
  have HF : Hid (F.length = n) := Lib.hid (by rw [h.len, hn])
  have HF' : Hid (F'.length = n) := Lib.hid (by rw [h'.len, hn])
  have HN := Lib.hid hn
  clear h h' hn
  go_enter Try.func8, Try.ntmps8
  go_wp2_with fail
  go_loopw [5] (fun i wr => ∃ k : Nat, k ≤ n ∧ i = .int .i64 k ∧ Kp w wr) (fun i _ => n - (intOf i).toNat)
  case atStart => exact ⟨0, Nat.zero_le _, rfl, kre _⟩
  case round =>
    obtain ⟨k, hk, rfl, hb⟩ := hrel
    by_cases hlt : k < n
    · obtain ⟨f, hf⟩ : ∃ f, F[k]? = some f := ⟨_, List.getElem?_eq_getElem (by rw [HF.out]; exact hlt)⟩
      obtain ⟨f', hf'⟩ : ∃ f', F'[k]? = some f' := ⟨_, List.getElem?_eq_getElem (by rw [HF'.out]; exact hlt)⟩
      obtain ⟨x, hc⟩ : ∃ x, C[k]? = some x := ⟨_, List.getElem?_eq_getElem (by rw [HN.out]; exact hlt)⟩
      obtain ⟨g, rfl, hg, c0⟩ := (H.out.kp hb).cell hf
      obtain ⟨g', rfl, hg', d0⟩ := (H'.out.kp hb).cell hf'
      obtain ⟨e2, r0⟩ := (H.out.kp hb).inn k _ _ hf hc
      obtain ⟨_, r1⟩ := (H'.out.kp hb).inn k _ _ hf' hc
      clear hf hf' hc
      have HE := Lib.hid (fun w' (hk : Kp wr w') => eqI (some ⟨f, 0, none⟩) (some ⟨f', 0, none⟩) 2 2 2 x w' (own_rm (own_kp r0 hk)) (own_rm (own_kp r1 hk)) e2 (by omega))
      have HSS : Hid (∀ w', Kp wr w' → ((w'.cell? ⟨g, k, none⟩ = some (.slice (some ⟨f, 0, none⟩) 2 2) ∧ w'.cell? ⟨g', k, none⟩ = some (.slice (some ⟨f', 0, none⟩) 2 2)) ∧ Kp wr w')) := Lib.hid (fun w' h => ⟨⟨(h.cell (p := ⟨g, k, none⟩) hg).trans c0, (h.cell (p := ⟨g', k, none⟩) hg').trans d0⟩, h⟩)
      have HK0 := Lib.hid (kdr (kre wr))
      clear c0 d0 r0 r1
      go_wp2_with fail
      go_region_held3 (fun w' => (w'.cell? ⟨g, k, none⟩ = some (.slice (some ⟨f, 0, none⟩) 2 2) ∧ w'.cell? ⟨g', k, none⟩ = some (.slice (some ⟨f', 0, none⟩) 2 2)) ∧ Kp wr w')
        (first | exact HSS.out _ HK0.out | exact HSS.out _ (by assumption))
        (first | (go_at_call 15; (with_reducible refine (HE.out _ HK0.out).mono ?_); rintro e w1 ⟨rfl, b1⟩; have hk1 : Kp wr w1 := ktr HK0.out b1))
      (try clear hHeld)
      have hb1 := ktr hb hk1
      clear HSS HK0 hk1 b1
      go_wp2_with fail
      go_roundw
      case rel => exact ⟨k + 1, by omega, by go_num, hb1⟩
      case measure => (simp [intOf] <;> omega)
    · go_wp2_with fail
      go_ret
      exact ⟨rfl, hb⟩
/-- the marks of a list of lists of two -/
def mkL (k0 n : Nat) : List (List Int) := (List.range n).map fun j => mkI (k0 + 2 * j) 2
theorem mkL_len (k0 n : Nat) : (mkL k0 n).length = n := by simp [mkL]
theorem mkL_at {k0 n j : Nat} (h : j < n) : (mkL k0 n)[j]? = some (mkI (k0 + 2 * j) 2) := by
  unfold mkL
  rw [List.getElem?_map, List.getElem?_range h]
  rfl
theorem mkL_step {k0 n k : Nat} {C : List (List Int)} (hl : C.length = n) (h : k < n) : (mkL k0 k ++ C.drop k).set k (mkI (k0 + 2 * k) 2) = mkL k0 (k + 1) ++ C.drop (k + 1) := by
  have hk : k < C.length := by omega
  rw [List.set_append_right _ _ (by rw [mkL_len]; exact Nat.le_refl _), mkL_len, Nat.sub_self, List.drop_eq_getElem_cons hk]
  unfold mkL
  rw [List.range_succ, List.map_append]
  simp
  rw [List.drop_eq_getElem_cons hk]
  rfl
/-- one inner row written -/
theorem LL.put {w w' : World} {base k f : Nat} {v : Value} {F : List Nat} {C : List (List Int)} {c' : List Int} (h : LL w base v F C) (hf : F[k]? = some f) (hc' : c'.length = 2) (ho : w'.ownsRow base 3 1 (.slice (some ⟨f, 0, none⟩) 2 2) 2 (mc c')) (hg : w.grownBy w' (some f)) : LL w' base v F (C.set k c') := by
  have hk := (List.getElem?_eq_some_iff.1 hf).1
  refine ⟨own_far h.row hg (h.ap f (List.mem_of_getElem? hf)), by rw [List.length_set]; exact h.len, fun i f' c hi hc => ?_, h.nd, h.ap⟩
  by_cases hik : k = i
  · subst hik
    rw [hf] at hi
    cases hi
    rw [List.getElem?_set, if_pos rfl, if_pos (by rw [← h.len]; exact hk)] at hc
    cases hc
    exact ⟨hc', ho⟩
  · rw [List.getElem?_set, if_neg hik] at hc
    obtain ⟨h1, h2⟩ := h.inn i f' c hi hc
    refine ⟨h1, own_far h2 hg (fun h9 => ?_)⟩
    have h8 : f' = f := by cases h9; rfl
    subst h8
    exact hik ((List.getElem?_inj hk h.nd).1 (hf.trans hi.symm))
set_option maxHeartbeats 2000000 in
theorem markL (base : Nat) (A : Option Addr) (c : Nat) (F : List Nat) (C : List (List Int)) (k0 n : Nat) (w : World) (h : LL w base (.slice A F.length c) F C) (hn : C.length = n) (hl : k0 + 2 * n ≤ 4194304) (hbs : base ≤ w.heap.size) :
    Calls Try.prog 9 #[.slice A n c, .int .i64 k0] w fun e w' => e = .returned (.int .i64 ((k0 + 2 * n : Nat) : Int)) ∧ LL w' base (.slice A F.length c) F (mkL k0 n) ∧ Below base w w' := by
  have H0 := Lib.hid h
  have HF : Hid (F.length = n) := Lib.hid (by rw [h.len, hn])
  have HN := Lib.hid hn
  clear h hn
  go_enter Try.func9, Try.ntmps9
  go_wp2_with fail
  go_loopw [1, 5] (fun m i wr => ∃ k : Nat, k ≤ n ∧ i = .int .i64 k ∧ m = .int .i64 ((k0 + 2 * k : Nat) : Int) ∧ Hid (LL wr base (.slice A F.length c) F (mkL k0 k ++ C.drop k)) ∧ Below base w wr) (fun _ i _ => n - (intOf i).toNat)
  case atStart => exact ⟨0, Nat.zero_le _, rfl, rfl, Lib.hid (by simpa [mkL] using H0.out), Below.refl _ _⟩
  case round =>
    obtain ⟨k, hk, rfl, rfl, HL, hb⟩ := hrel
    by_cases hlt : k < n
    · obtain ⟨f, hf⟩ : ∃ f, F[k]? = some f := ⟨_, List.getElem?_eq_getElem (by rw [HF.out]; exact hlt)⟩
      have hlen : (mkL k0 k ++ C.drop k).length = n := by rw [List.length_append, mkL_len, List.length_drop, HN.out]; omega
      obtain ⟨x, hc⟩ : ∃ x, (mkL k0 k ++ C.drop k)[k]? = some x := ⟨_, List.getElem?_eq_getElem (by rw [hlen]; exact hlt)⟩
      obtain ⟨g, rfl, hg, c0⟩ := HL.out.cell hf
      obtain ⟨e2, r0⟩ := HL.out.inn k _ _ hf hc
      have hfb := HL.out.fat (List.mem_of_getElem? hf)
      have HPt := Lib.hid (fun w' (ho : w'.ownsRow base 3 1 (.slice (some ⟨f, 0, none⟩) 2 2) 2 (mc (mkI (k0 + 2 * k) 2))) (hg : wr.grownBy w' (some f)) => HL.out.put hf (mkI_len _ _) ho hg)
      rw [mkL_step HN.out hlt] at HPt
      obtain ⟨t, ht⟩ : ∃ t, k0 + 2 * k = t := ⟨_, rfl⟩
      have ht2 : t + 2 ≤ 4194304 := by omega
      clear hf hc hlen
      rw [ht] at HPt
      simp only [ht]
      have HM := Lib.hid (markI base (.slice (some ⟨f, 0, none⟩) 2 2) _ t 2 wr r0 e2 ht2)
      clear r0 e2
      go_wp2_with (first | (go_at_call 16; refine HM.out.mono ?_; rintro e w1 ⟨rfl, o1, g1⟩
                            have HL1 := Lib.hid (HPt.out w1 o1 g1)
                            have hb1 : Below base w w1 := below_grown hb g1 (Nat.le_trans hbs hb.size) (fun q hq => by cases hq; exact hfb.1)
                            clear o1 g1))
      go_roundw
      case rel => exact ⟨k + 1, by omega, by go_num, by rw [show k0 + 2 * (k + 1) = t + 2 by omega]; go_num, HL1, hb1⟩
      case measure => (simp [intOf] <;> omega)
    · obtain rfl : k = n := by omega
      have HE : Hid (mkL k0 k ++ C.drop k = mkL k0 k) := Lib.hid (by rw [List.drop_eq_nil_of_le (by rw [HN.out]; exact Nat.le_refl _), List.append_nil])
      go_wp2_with fail
      go_ret
      exact ⟨rfl, by rw [← HE.out]; exact HL.out, hb⟩
set_option maxHeartbeats 2000000 in
theorem heldL (base : Nat) (A : Option Addr) (c : Nat) (F : List Nat) (k0 n : Nat) (w : World) (h : LL w base (.slice A F.length c) F (mkL k0 n)) (hl : k0 + 2 * n ≤ 4194304) :
    Calls Try.prog 10 #[.slice A n c, .int .i64 k0] w fun e w' => e = .returned (.int .i64 ((k0 + 2 * n : Nat) : Int)) ∧ Kp w w' := by
  have H := Lib.hid h
  have HF : Hid (F.length = n) := Lib.hid (by rw [h.len, mkL_len])
  clear h
  go_enter Try.func10, Try.ntmps10
  go_wp2_with fail
  go_loopw [1, 5] (fun m i wr => ∃ k : Nat, k ≤ n ∧ i = .int .i64 k ∧ m = .int .i64 ((k0 + 2 * k : Nat) : Int) ∧ Kp w wr) (fun _ i _ => n - (intOf i).toNat)
  case atStart => exact ⟨0, Nat.zero_le _, rfl, rfl, kre _⟩
  case round =>
    obtain ⟨k, hk, rfl, rfl, hb⟩ := hrel
    by_cases hlt : k < n
    · obtain ⟨f, hf⟩ : ∃ f, F[k]? = some f := ⟨_, List.getElem?_eq_getElem (by rw [HF.out]; exact hlt)⟩
      obtain ⟨g, rfl, hg, c0⟩ := (H.out.kp hb).cell hf
      obtain ⟨e2, r0⟩ := (H.out.kp hb).inn k _ _ hf (mkL_at hlt)
      clear hf
      obtain ⟨t, ht⟩ : ∃ t, k0 + 2 * k = t := ⟨_, rfl⟩
      have ht2 : t + 2 ≤ 4194304 := by omega
      rw [ht] at r0
      simp only [ht]
      have HM := Lib.hid (heldI (some ⟨f, 0, none⟩) 2 t 2 wr (own_rm r0) ht2)
      clear r0 e2
      go_wp2_with (first | (go_at_call 17; refine HM.out.mono ?_; rintro e w1 ⟨rfl, b1⟩; have hb1 := ktr hb b1; clear b1))
      go_roundw
      case rel => exact ⟨k + 1, by omega, by go_num, by rw [show k0 + 2 * (k + 1) = t + 2 by omega]; go_num, hb1⟩
      case measure => (simp [intOf] <;> omega)
    · obtain rfl : k = n := by omega
      go_wp2_with fail
      go_ret
      exact ⟨rfl, hb⟩
end Go.Proofs.Ytianelbcjdbjkaa.QtL
