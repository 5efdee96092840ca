/-
  Several texts of one claim in one file: QtN, QtH.
-/
import Derived.Test.YtljbbmefemfjpaaQtE
import Derived.Test.YtljbbmefemfjpaaQtQ
/-
  The laws' helpers over lists of numbers: eqIntS, markIntS, heldIntS.
-/
namespace Go.Proofs.Ytljbbmefemfjpaa.QtN
open Go.RowKit QtPl QtB QtIn QtC QtM QtR QtS QtE
set_option linter.unusedSimpArgs false
set_option linter.unusedVariables false

theorem own_rmo {w : World} {base c n : Nat} {A : Option Addr} {M : List Int} (h : w.ownsRow base 3 1 (.slice A n c) n (mc M)) : RdM w A M := by
  intro j m hm
  have hl := h.1
  rw [mc_len] at hl
  have hj := lt_of_some hm
  obtain ⟨g, cap, e, hb, hg⟩ := h.form (by omega)
  cases e
  exact ⟨g, rfl, hg, (World.ownsRow.cellAt h j (by omega)).trans (mc_at hm)⟩
/-- marks -/
def mkI (k0 n : Nat) : List Int := (List.range n).map fun j => ((k0 + j : Nat) : Int)
theorem mkI_len (k0 n : Nat) : (mkI k0 n).length = n := by simp [mkI]
theorem mkI_at {k0 n j : Nat} (h : j < n) : (mkI k0 n)[j]? = some ((k0 + j : Nat) : Int) := by
  unfold mkI
  rw [List.getElem?_map, List.getElem?_range h]
  rfl
theorem mkI_set {k0 n k : Nat} {L : List Int} (hl : L.length = n) (h : k < n) : (mkI k0 k ++ L.drop k).set k ((k0 + k : Nat) : Int) = mkI k0 (k + 1) ++ L.drop (k + 1) := by
  have hk : k < L.length := by omega
  rw [List.set_append_right _ _ (by rw [mkI_len]; exact Nat.le_refl _), mkI_len, Nat.sub_self, List.drop_eq_getElem_cons hk]
  unfold mkI
  rw [List.range_succ, List.map_append]
  simp
  rw [List.drop_eq_getElem_cons hk]
  rfl
end Go.Proofs.Ytljbbmefemfjpaa.QtN
/-
  UnpairedMarks of both.
-/
namespace Go.Proofs.Ytljbbmefemfjpaa.QtH
open Go.RowKit QtPl QtB QtIn QtC QtM QtR QtS QtE QtN QtQ
set_option linter.unusedSimpArgs false
set_option linter.unusedVariables false

theorem asc_ext : ∀ (A B : List Nat), A.Pairwise (· < ·) → B.Pairwise (· < ·) → (∀ x, x ∈ A ↔ x ∈ B) → A = B
  | [], [], _, _, _ => rfl
  | [], b :: r, _, _, h => by have := (h b).2 (List.mem_cons_self); cases this
  | a :: r, [], _, _, h => by have := (h a).1 (List.mem_cons_self); cases this
  | a :: r, b :: t, hA, hB, h => by
    rw [List.pairwise_cons] at hA hB
    have hab : a = b := by
      rcases List.mem_cons.1 ((h a).1 (List.mem_cons_self)) with h1 | h1
      · exact h1
      · rcases List.mem_cons.1 ((h b).2 (List.mem_cons_self)) with h2 | h2
        · exact h2.symm
        · have := hB.1 a h1; have := hA.1 b h2; omega
    subst hab
    congr 1
    refine asc_ext r t hA.2 hB.2 (fun x => ?_)
    constructor
    · intro hx
      rcases List.mem_cons.1 ((h x).1 (List.mem_cons_of_mem _ hx)) with h1 | h1
      · have := hA.1 x hx; omega
      · exact h1
    · intro hx
      rcases List.mem_cons.1 ((h x).2 (List.mem_cons_of_mem _ hx)) with h1 | h1
      · have := hB.1 x hx; omega
      · exact h1
/-- the marks among the first k bytes that have no partner -/
def unp (s : ByteArray) (M : List Int) (k : Nat) : List Nat := (List.range k).filter fun i => isMk s i && decide (M.getD i 0 < 0)
theorem unp_succ (s : ByteArray) (M : List Int) (k : Nat) : unp s M (k + 1) = unp s M k ++ if (isMk s k && decide (M.getD k 0 < 0)) = true then [k] else [] := by
  unfold unp
  rw [List.range_succ, List.filter_append]
  congr 1
  simp [List.filter_cons]
theorem unp_le (s : ByteArray) (M : List Int) (k : Nat) : (unp s M k).length ≤ k := by
  unfold unp
  refine Nat.le_trans (List.length_filter_le _ _) ?_
  rw [List.length_range]
  exact Nat.le_refl _
theorem unp_all {s : ByteArray} {k : Nat} {q : Qs} (h : QInv s k q) : unp s q.M k = q.O := by
  refine asc_ext _ _ ?_ h.asc (fun x => ?_)
  · exact List.Pairwise.filter _ (List.pairwise_lt_range)
  · unfold unp
    rw [List.mem_filter, List.mem_range, Bool.and_eq_true, decide_eq_true_eq]
    constructor
    · rintro ⟨h1, h2, h3⟩
      have hx : x < q.M.length := by rw [h.len]; exact h1
      rw [List.getD_eq_getElem?_getD, List.getElem?_eq_getElem hx, Option.getD_some] at h3
      refine h.odd x h1 h2 ?_
      rw [List.getElem?_eq_getElem hx]
      congr 1
      rcases h.low x _ (List.getElem?_eq_getElem hx) with h9 | ⟨j, e, _⟩
      · exact h9
      · omega
    · intro hx
      obtain ⟨h1, h2, h3⟩ := h.op x hx
      refine ⟨h1, h3, ?_⟩
      rw [List.getD_eq_getElem?_getD, h2, Option.getD_some]
      decide
/-- what UnpairedMarks answers -/
def umV (s : ByteArray) : List Nat := if okQ s = true then (qrun s s.size).O else []
def toI (O : List Nat) : List Int := O.map fun (a : Nat) => (a : Int)
theorem toI_len (O : List Nat) : (toI O).length = O.length := by simp [toI]
theorem ic_mc (O : List Nat) : ic O = mc (toI O) := by unfold ic mc toI; rw [List.map_map]; rfl
def UmPost (s : ByteArray) (w : World) (e : Ending) (w' : World) : Prop := ∃ v, e = .returned (.tuple #[v, .bool (okQ s)]) ∧ w'.ownsRow w.heap.size 3 1 v (umV s).length (mc (toI (umV s))) ∧ Kp w w'
theorem um_len (s : ByteArray) : (umV s).length ≤ 200 := by
  unfold umV
  split
  · have := op_le (inv_run s s.size)
    have := okQ_size ‹_›
    omega
  · exact Nat.zero_le _

set_option maxRecDepth 100000 in
set_option maxHeartbeats 2000000 in
theorem unpaired_i (s : ByteArray) (w : World) (hs : s.size ≤ 1048576) : Calls Try.prog 11 #[.string s] w (UmPost s w) := by
  have HQ := Lib.hid (fun z w hz => quoted_i s z w hs hz)
  obtain ⟨i0, hi, hz0, hz1, hz2⟩ := info_parts infoInt
  unfold UmPost
  cases h : okQ s with
  | false =>
    have hE : umV s = [] := by unfold umV; rw [if_neg (by rw [h]; simp)]
    have H1 := Lib.hid (fun w => HQ.out false w h)
    rw [hE]
    have HO := Lib.hid (own_lit0 (w := w.alloc (.cells #[] 3)) (base := w.heap.size) (e := 3) (size := 1) (heap_alloc_new w _) (Nat.le_refl _))
    have hb := kal (kre w) (.cells #[] 3)
    clear h HQ hE
    go_enter Try.func11, Try.ntmps11
    go_wp2_with (first | (go_at_call 23; refine (H1.out _).mono ?_; rintro e w' ⟨rfl, rfl⟩))
    go_ret2
    exact ⟨_, rfl, HO.out, hb⟩
  | true =>
    have hsz := okQ_size h
    have H1 := Lib.hid (fun w => HQ.out true w h)
    have HE : Hid (umV s = (qrun s s.size).O) := Lib.hid (by unfold umV; rw [if_pos h])
    rw [HE.out]
    have HRd := Lib.hid (read_q s (w.alloc (.cells #[] 3)) hsz)
    have HI := Lib.hid (inv_run s s.size)
    unfold RqPost at HRd
    rw [show (w.alloc (.cells #[] 3)).heap.size = w.heap.size + 1 by simp] at HRd
    generalize qrun s s.size = q at HRd HE HI ⊢
    have hb0 := kal (kre w) (.cells #[] 3)
    have HO := Lib.hid (own_lit0 (w := w.alloc (.cells #[] 3)) (base := w.heap.size) (e := 3) (size := 1) (heap_alloc_new w _) (Nat.le_refl _))
    clear h HQ
    go_enter Try.func11, Try.ntmps11
    go_wp2_with (first | (go_at_call 23; refine (H1.out _).mono ?_; rintro e w' ⟨rfl, rfl⟩))
    refine HRd.out.mono ?_
    rintro e w1 ⟨rfl, AP, cP, AO, cO, hQ⟩
    have HO1 := Lib.hid (own_kp HO.out hQ.bel)
    have hb1 := ktr hb0 hQ.bel
    have hol := op_le HI.out
    have c1 := hQ.c1
    have hsb := ksz hb1
    have hw0 : w.heap.size < w1.heap.size := by have := ksz (show Kp (w.alloc (.cells #[] 3)) w1 from hQ.bel); simp at this; omega
    rcases AO with _ | ad
    · have hn0 : q.O = [] := by
        rcases hQ.ro.2 with ⟨h9, h8⟩ | ⟨g, cap, cur, h9, _⟩
        · exact List.eq_nil_of_length_eq_zero h8
        · cases h9
      have hc0 : cO = 0 := by
        rcases hQ.ro.2 with ⟨h9, h8⟩ | ⟨g, cap, cur, h9, _⟩
        · exact (Value.slice.inj h9).2.2
        · cases h9
      rw [hn0, hc0] at c1
      simp only [List.length_nil] at c1
      have HE0 := Lib.hid hn0
      clear hQ hn0 hc0 hol
      go_wp2_with fail
      go_ret2
      exact ⟨_, rfl, by rw [HE0.out]; exact HO1.out, hb1⟩
    · obtain ⟨g, hgad⟩ : ∃ g, ad = ⟨g, 0, none⟩ := by
        rcases hQ.ro.2 with ⟨h9, h8⟩ | ⟨g, cap, cur, h9, _⟩
        · cases h9
        · cases h9; exact ⟨g, rfl⟩
      subst hgad
      have hro := hQ.ro
      have hce := hro.cells rfl
      have h1 : ∀ u ∈ ic q.O, u.oneCell' = true := by intro u hu; unfold ic at hu; obtain ⟨x, _, rfl⟩ := List.mem_map.1 hu; rfl
      have HCe := Lib.hid hce
      have HOn := Lib.hid h1
      obtain ⟨n, hn⟩ : ∃ n, q.O.length = n := ⟨_, rfl⟩
      have HNl := Lib.hid hn
      rw [hn] at c1 hol
      clear hQ hro hce h1 hn
      go_wp2_with (at_builtin; refine wpList_append_own _ rfl _ _ 30 rfl w.heap.size 3 i0 _ 1 8 Try.underlying30 hi hz0 hz1 hz2 rfl (by decide) (.slice (some ⟨w.heap.size, 0, none⟩) 0 0) 0 [] rfl HO1.out ⟨g, 0, none⟩ n cO (ic q.O) rfl (by rw [ic_len, HNl.out, Nat.mul_one]) HCe.out HOn.out (by unfold maxLen; omega) (by omega) hsb ?_; intro v8 w8 hown hgrow hne)
      have hv : v8 ≠ .slice none 0 0 := fun e9 => by have := (hne.1 e9).1; cases this
      obtain ⟨g8, c8, rfl, ho⟩ := own_form (m := n) hown hv (by omega)
      rw [List.nil_append, ic_mc] at ho
      have hkf : Kp w w8 := kgr hb1 hgrow (fun j hj => by cases hj; exact Nat.le_refl _)
      have HOf := Lib.hid ho
      rw [HNl.out]
      clear hown hgrow hne ho hv
      go_wp2_with fail
      go_ret2
      exact ⟨_, rfl, HOf.out, hkf⟩

set_option maxRecDepth 100000 in
set_option maxHeartbeats 4000000 in
theorem unpaired_s (s : ByteArray) (w : World) (hs : s.size ≤ 1048576) : Calls Try.prog 13 #[.string s] w (UmPost s w) := by
  have HQ := Lib.hid (fun z w hz => quoted_s s z w hs hz)
  obtain ⟨i0, hi, hz0, hz1, hz2⟩ := info_parts infoInt
  have HO := Lib.hid (own_lit0 (w := w.alloc (.cells #[] 3)) (base := w.heap.size) (e := 3) (size := 1) (heap_alloc_new w _) (Nat.le_refl _))
  have hb0 := kal (kre w) (.cells #[] 3)
  unfold UmPost
  cases h : okQ s with
  | false =>
    have hE : umV s = [] := by unfold umV; rw [if_neg (by rw [h]; simp)]
    have H1 := Lib.hid (fun w => HQ.out false w h)
    rw [hE]
    clear h HQ hE
    go_enter Try.func13, Try.ntmps13
    go_wp2_with (first | (go_at_call 25; refine (H1.out _).mono ?_; rintro e w' ⟨rfl, rfl⟩))
    go_ret2
    exact ⟨_, rfl, HO.out, hb0⟩
  | true =>
    have hsz := okQ_size h
    have H1 := Lib.hid (fun w => HQ.out true w h)
    have HE : Hid (umV s = unp s (qrun s s.size).M s.size) := Lib.hid (by rw [unp_all (inv_run s s.size)]; unfold umV; rw [if_pos h])
    rw [HE.out]
    have HPt := Lib.hid (part_s s (w.alloc (.cells #[] 3)) hsz)
    have HI := Lib.hid (inv_run s s.size)
    unfold PtPost at HPt
    rw [show (w.alloc (.cells #[] 3)).heap.size = w.heap.size + 1 by simp] at HPt
    generalize qrun s s.size = q at HPt HE HI ⊢
    obtain ⟨n, HN⟩ : ∃ n, Hid (n = s.size) := ⟨_, Lib.hid rfl⟩
    rw [← HN.out] at HPt hsz
    clear h HQ hs
    go_enter Try.func13, Try.ntmps13
    go_wp2_with (first | (go_at_call 25; refine (H1.out _).mono ?_; rintro e w' ⟨rfl, rfl⟩))
    refine HPt.out.mono ?_
    rintro e w1 ⟨g, c, rfl, ho, hb1⟩
    have hb1' : Kp w w1 := hb0.trans (Below.mono hb1 (by simp))
    have hk01 : Kp (w.alloc (.cells #[] 3)) w1 := by unfold Kp; simpa using hb1
    have HO1 := Lib.hid (own_kp HO.out hk01)
    have HG := Lib.hid ho
    have hg0 := (ho.lt g rfl).1
    clear ho hb1
    go_wp2_with fail
    go_loopw [4, 6] (fun v i wr => ∃ k : Nat, k ≤ n ∧ i = .int .i64 k ∧ (∃ gA cA m, v = .slice (some ⟨gA, 0, none⟩) m cA ∧ Hid ((unp s q.M k).length = m) ∧ Hid (wr.ownsRow w.heap.size 3 1 (.slice (some ⟨gA, 0, none⟩) m cA) m (ic (unp s q.M k))) ∧ Hid (gA ≠ g)) ∧ Hid (wr.ownsRow (w.heap.size + 1) 3 1 (.slice (some ⟨g, 0, none⟩) n c) n (mc q.M)) ∧ Kp w wr) (fun _ i _ => n - (intOf i).toNat)
    case atStart => exact ⟨0, Nat.zero_le _, rfl, ⟨_, _, 0, rfl, Lib.hid rfl, HO1, Lib.hid (by omega)⟩, HG, hb1'⟩
    case round =>
      obtain ⟨k, hk, rfl, ⟨gA, cA, m, rfl, HM, HA, HNE⟩, HGr, hb⟩ := hrel
      by_cases hlt : k < n
      · have hks : k < s.size := by rw [← HN.out]; exact hlt
        have hkx : k < q.M.length := by rw [HI.out.len]; exact hks
        have hx? := List.getElem?_eq_getElem hkx
        have c0 := (World.ownsRow.cellAt HGr.out k (by omega)).trans (mc_at hx?)
        have HU := Lib.hid (unp_succ s q.M k)
        have hgd : q.M.getD k 0 = q.M[k] := by rw [List.getD_eq_getElem?_getD, hx?, Option.getD_some]
        have hml := unp_le s q.M k
        rw [HM.out] at hml
        rw [hgd] at HU
        generalize q.M[k] = y at *
        have HMk := Lib.hid (fun z w (hz : isMk s k = z) => mark_s k s z w (by rw [← HN.out]; omega) hks hz)
        obtain ⟨z, hz⟩ : ∃ z, isMk s k = z := ⟨_, rfl⟩
        have HMz := Lib.hid (fun w => HMk.out z w hz)
        rw [hz] at HU
        clear hz hx? hgd HMk
        by_cases hc : z = true ∧ y < 0
        · obtain ⟨rfl, hy⟩ := hc
          have HU2 : Hid (unp s q.M (k + 1) = unp s q.M k ++ [k]) := Lib.hid (by rw [HU.out, decide_eq_true hy]; rfl)
          have HR := Lib.hid (HA.out.alloc (.cells #[.int .i64 (k : Int)] 3))
          have HR2 := Lib.hid (HGr.out.alloc (.cells #[.int .i64 (k : Int)] 3))
          have hsw := ksz hb
          have hgl := (HGr.out.lt g rfl).2
          have hAl := HA.out.lt gA rfl
          clear HU
          go_wp2_with (first
            | (go_at_call 34; refine (HMz.out _).mono ?_; rintro e w' ⟨rfl, rfl⟩)
            | (at_builtin; refine wpList_append_lies _ rfl _ _ 30 rfl w.heap.size 3 i0 _ 1 8 Try.underlying30 hi hz0 hz1 hz2 rfl (by decide) (.slice (some ⟨gA, 0, none⟩) m cA) m (ic (unp s q.M k)) rfl HR.out ⟨_, 0, none⟩ 1 1 [.int .i64 (k : Int)] rfl rfl (one_new _ _ _) (by simp [Value.oneCell']) (by decide) (by unfold maxLen; omega) (by omega) (by simp; omega) _ rfl ?_; intro gB cB w8 hown hgrow hat hlt8
               have HB : Hid (w8.ownsRow w.heap.size 3 1 (.slice (some ⟨gB, 0, none⟩) (m + 1) cB) (m + 1) (ic (unp s q.M (k + 1)))) := Lib.hid (by rw [HU2.out]; have := hown; rw [show ic (unp s q.M k) ++ [Value.int .i64 (k : Int)] = ic (unp s q.M k ++ [k]) by unfold ic; rw [List.map_append]; rfl] at this; exact this)
               have HG8 := Lib.hid (own_far HR2.out hgrow (by intro h9; have h8 : g = gA := by (cases h9; rfl)
                                                              exact HNE.out h8.symm))
               have HNE8 : Hid (gB ≠ g) := Lib.hid (by
                 rcases hat with h9 | h9
                 · have h8 : gA = gB := by (cases h9; rfl)
                   rw [← h8]; exact HNE.out
                 · simp at h9; omega)
               have hb8 : Kp w w8 := kgr (kal hb _) hgrow (fun j hj => by cases hj; show w.heap.size ≤ gA; omega)
               have HM8 : Hid ((unp s q.M (k + 1)).length = m + 1) := Lib.hid (by rw [HU2.out, List.length_append, HM.out]; rfl)
               clear hown hgrow hat))
          go_roundw
          case rel => exact ⟨k + 1, by omega, by go_num, ⟨gB, cB, m + 1, rfl, HM8, HB, HNE8⟩, HG8, hb8⟩
          case measure => (simp [intOf] <;> omega)
        · have HU2 : Hid (unp s q.M (k + 1) = unp s q.M k) := Lib.hid (by
            rw [HU.out, if_neg (by rw [Bool.and_eq_true, decide_eq_true_eq]; exact hc), List.append_nil])
          rw [← HU2.out] at HM HA
          clear HU
          cases z with
          | false =>
            clear hc
            go_wp2_with (first | (go_at_call 34; refine (HMz.out _).mono ?_; rintro e w' ⟨rfl, rfl⟩))
            go_roundw
            case rel => exact ⟨k + 1, by omega, by go_num, ⟨gA, cA, m, rfl, HM, HA, HNE⟩, HGr, hb⟩
            case measure => (simp [intOf] <;> omega)
          | true =>
            have hy : ¬ y < 0 := fun h9 => hc ⟨rfl, h9⟩
            clear hc
            go_wp2_with (first | (go_at_call 34; refine (HMz.out _).mono ?_; rintro e w' ⟨rfl, rfl⟩))
            go_roundw
            case rel => exact ⟨k + 1, by omega, by go_num, ⟨gA, cA, m, rfl, HM, HA, HNE⟩, HGr, hb⟩
            case measure => (simp [intOf] <;> omega)
      · obtain rfl : k = n := by omega
        have HF : Hid (wr.ownsRow w.heap.size 3 1 (.slice (some ⟨gA, 0, none⟩) m cA) (unp s q.M s.size).length (mc (toI (unp s q.M s.size)))) := Lib.hid (by
          rw [← ic_mc]
          have h1 := HA.out
          have h2 := HM.out
          rw [HN.out] at h1 h2
          rw [h2]
          exact h1)
        have hks : ¬ k < s.size := by rw [← HN.out]; omega
        clear HM HA
        go_wp2_with fail
        go_ret2
        exact ⟨_, rfl, HF.out, hb⟩
end Go.Proofs.Ytljbbmefemfjpaa.QtH
