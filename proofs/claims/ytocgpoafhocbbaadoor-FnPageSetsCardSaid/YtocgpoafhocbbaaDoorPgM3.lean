/-
  Contract of l7Merge of the model.
-/
import Derived.Test.YtocgpoafhocbbaaDoorPgM2
import Derived.IntWalk
namespace Go.Proofs.YtocgpoafhocbbaaDoor.PgM
open Go.RowKit PgPl NmPl Pg PgMe PgSo PgHit
set_option linter.unusedSimpArgs false
set_option linter.unusedVariables false

set_option maxRecDepth 100000 in
set_option maxHeartbeats 8000000 in
theorem merge_s (A : Option Addr) (c N : Nat) (L : List Pr) (w : World) (h : RdP w A L) (hn : L.length = N) (h8 : N ≤ 8) (hok : ∀ x ∈ L, x.ok = true) :
    Calls Tryd.prog 18 #[.slice A N c] w fun e w' => ∃ v, e = .returned v ∧ w'.ownsRow w.heap.size 34 3 v (mL L).length (pcells (mL L)) ∧ Below w.heap.size w w' := by
  obtain ⟨i0, hi, hz0, hz1, hz2⟩ := info_parts infoPr
  have HR := Lib.hid h
  have HN := Lib.hid hn
  have HK := Lib.hid hok
  have HO1 : Hid ((w.alloc (.cells #[] 34)).ownsRow w.heap.size 34 3 (.slice (some ⟨w.heap.size, 0, none⟩) 0 0) 0 (pcells [])) := Lib.hid (World.ownsRow_lit (base := w.heap.size) (e := 34) (size := 3) w #[] 0 (Nat.le_refl _) (by decide) (by simp))
  have HB1 := Lib.hid (box_below w (.cells #[] 34))
  clear h hn hok
  go_enter Tryd.func18, Tryd.ntmps18
  go_wp2_with fail
  go_loopw [3, 4] (fun v q wr => ∃ (i g3 c3 : Nat) (S : List Pr), i ≤ N ∧ v = .slice (some ⟨g3, 0, none⟩) i c3 ∧ q = .int .i64 i ∧ Hid (S.Perm (L.take i) ∧ Sorted S) ∧ Hid (wr.ownsRow w.heap.size 34 3 (.slice (some ⟨g3, 0, none⟩) i c3) i (pcells S)) ∧ Below w.heap.size w wr) (fun _ q _ => N - (intOf q).toNat)
  case atStart => exact ⟨0, w.heap.size, 0, [], Nat.zero_le _, rfl, rfl, Lib.hid ⟨List.Perm.refl _, List.Pairwise.nil⟩, HO1, HB1.out⟩
  case round =>
    obtain ⟨i, g3, c3, S, hiN, rfl, rfl, HS, HO, hb⟩ := hrel
    rename World => wo
    by_cases hlt : i < N
    · have hix : i < L.length := by rw [HN.out]; exact hlt
      have hx? := List.getElem?_eq_getElem hix
      obtain ⟨g, o, rfl, hg, c0, c1, c2⟩ := (HR.out.below hb) i L[i] hx?
      have HXo := Lib.hid (HK.out _ (List.getElem_mem hix))
      have HTk : Hid (L.take (i + 1) = L.take i ++ [L[i]]) := Lib.hid (List.take_succ_eq_append_getElem hix)
      clear hx?
      generalize L[i] = x at *
      have hSn : S.length = i := by have := HO.out.1; rw [pcells_len] at this; omega
      have HSn := Lib.hid hSn
      have HSo : Hid (∀ y ∈ S, y.ok = true) := Lib.hid (fun y hy => HK.out y (List.mem_of_mem_take (HS.out.1.mem_iff.1 hy)))
      have HRS := Lib.hid (own_rd HO.out)
      have hc3 : i ≤ c3 := by
        rcases HO.out.2 with ⟨hv, _⟩ | ⟨g', cap, cur, hv, _, _, h5, _⟩
        · cases hv
        · cases hv; exact h5
      have hg3 : w.heap.size ≤ g3 := (HO.out.lt g3 rfl).1
      have HX : Hid (∀ w', Kp wo w' → (w'.cell? ⟨g, o + i * 3, none⟩ = some (.string x.l) ∧ w'.cell? ⟨g, o + i * 3 + 1, none⟩ = some (.int .i64 x.f) ∧ w'.cell? ⟨g, o + i * 3 + 2, none⟩ = some (.int .i64 x.t))) := Lib.hid (fun w' h => ⟨(h.cell (p := ⟨g, o + i * 3, none⟩) hg).trans c0, (h.cell (p := ⟨g, o + i * 3 + 1, none⟩) hg).trans c1, (h.cell (p := ⟨g, o + i * 3 + 2, none⟩) hg).trans c2⟩)
      clear hSn c0 c1 c2
      go_wp2_with fail
      go_loopw [5] (fun q wr => ∃ (k : Nat), k ≤ i ∧ q = .int .i64 k ∧ Hid (∀ (j : Nat) (y : Pr), k ≤ j → S[j]? = some y → K x ≤ K y) ∧ Kp wo wr) (fun q _ => (intOf q).toNat)
      case atStart => exact ⟨i, Nat.le_refl _, rfl, Lib.hid (fun j y h1 h2 => by have := (List.getElem?_eq_some_iff.1 h2).1; rw [HSn.out] at this; omega), Kp.refl' _⟩
      case round =>
        obtain ⟨k, hki, rfl, HG, hkp⟩ := hrel
        by_cases hk0 : 0 < k
        · have hkx : k - 1 < S.length := by rw [HSn.out]; omega
          have hy? := List.getElem?_eq_getElem hkx
          obtain ⟨g', o', he, hgy, d0, d1, d2⟩ := HRS.out (k - 1) S[k - 1] hy?
          cases he
          have HYo := Lib.hid (HSo.out _ (List.getElem_mem hkx))
          have HY? := Lib.hid hy?
          clear hy?
          generalize S[k - 1] = y at *
          rw [Nat.zero_add] at d0 d1 d2
          obtain ⟨k1, rfl⟩ : ∃ k1, k = k1 + 1 := ⟨k - 1, by omega⟩
          simp only [Nat.add_sub_cancel] at d0 d1 d2 HY?
          have hX := HX.out wr hkp
          have HSS : Hid (∀ w', Kp wr w' → ((w'.cell? ⟨g, o + i * 3, none⟩ = some (.string x.l) ∧ w'.cell? ⟨g, o + i * 3 + 1, none⟩ = some (.int .i64 x.f) ∧ w'.cell? ⟨g, o + i * 3 + 2, none⟩ = some (.int .i64 x.t)) ∧ (w'.cell? ⟨g3, k1 * 3, none⟩ = some (.string y.l) ∧ w'.cell? ⟨g3, k1 * 3 + 1, none⟩ = some (.int .i64 y.f) ∧ w'.cell? ⟨g3, k1 * 3 + 2, none⟩ = some (.int .i64 y.t)) ∧ Kp wr w')) := Lib.hid (fun w' h => ⟨HX.out w' (Kp.next hkp h), ⟨((Below.trans hkp (h.mono (Below.size hkp))).cell (p := ⟨g3, k1 * 3, none⟩) hgy).trans d0, ((Below.trans hkp (h.mono (Below.size hkp))).cell (p := ⟨g3, k1 * 3 + 1, none⟩) hgy).trans d1, ((Below.trans hkp (h.mono (Below.size hkp))).cell (p := ⟨g3, k1 * 3 + 2, none⟩) hgy).trans d2⟩, h⟩)
          have HK0 := Lib.hid (Kp.drew wr)
          have HX9 := hX
          clear hX HX9 d0 d1 d2
          have hI0 : (0 : Int) ≤ (k1 : Int) := Int.natCast_nonneg _
          have hI1 : (k1 : Int) < (i : Int) := by omega
          have hI2 : (0 : Int) ≤ (i : Int) := Int.natCast_nonneg _
          have hI3 : (i : Int) < (N : Int) := by omega
          have hwd : IntKind.i64.wrap (k1 : Int) = (k1 : Int) := by rw [IntWalk.i64_in _ (by omega)]
          have hkN : k1 < i := by omega
          have hiN : i < N := by omega
          by_cases hlts : K x < K y
          · have HBf := Lib.hid (fun w => before_s x y true w HXo.out HYo.out (decide_eq_true hlts))
            go_wp2_with fail
            go_region_held3 (fun w' => (w'.cell? ⟨g, o + i * 3, none⟩ = some (.string x.l) ∧ w'.cell? ⟨g, o + i * 3 + 1, none⟩ = some (.int .i64 x.f) ∧ w'.cell? ⟨g, o + i * 3 + 2, none⟩ = some (.int .i64 x.t)) ∧ (w'.cell? ⟨g3, k1 * 3, none⟩ = some (.string y.l) ∧ w'.cell? ⟨g3, k1 * 3 + 1, none⟩ = some (.int .i64 y.f) ∧ w'.cell? ⟨g3, k1 * 3 + 2, none⟩ = some (.int .i64 y.t)) ∧ Kp wr w')
              (first | exact HSS.out _ HK0.out | exact HSS.out _ (by assumption))
              (first
                | (go_at_call 32; with_reducible refine (HBf.out _).mono ?_; rintro e w1 ⟨rfl, b1⟩; have hk1 : Kp wr w1 := Kp.next HK0.out b1))
            (try clear hHeld)
            go_wp2_with fail
            go_roundw
            case rel =>
              refine ⟨k1, by omega, by go_num, Lib.hid (fun j z hj hz => ?_), Kp.next hkp hk1⟩
              rcases Nat.lt_or_ge j (k1 + 1) with h9 | h9
              · obtain rfl : j = k1 := by omega
                rw [HY?.out] at hz
                cases hz
                exact Nat.le_of_lt hlts
              · exact HG.out j z h9 hz
            case measure => (simp [intOf] <;> omega)
          · have HBf := Lib.hid (fun w => before_s x y false w HXo.out HYo.out (decide_eq_false hlts))
            go_wp2_with fail
            go_region_held3 (fun w' => (w'.cell? ⟨g, o + i * 3, none⟩ = some (.string x.l) ∧ w'.cell? ⟨g, o + i * 3 + 1, none⟩ = some (.int .i64 x.f) ∧ w'.cell? ⟨g, o + i * 3 + 2, none⟩ = some (.int .i64 x.t)) ∧ (w'.cell? ⟨g3, k1 * 3, none⟩ = some (.string y.l) ∧ w'.cell? ⟨g3, k1 * 3 + 1, none⟩ = some (.int .i64 y.f) ∧ w'.cell? ⟨g3, k1 * 3 + 2, none⟩ = some (.int .i64 y.t)) ∧ Kp wr w')
              (first | exact HSS.out _ HK0.out | exact HSS.out _ (by assumption))
              (first
                | (go_at_call 32; with_reducible refine (HBf.out _).mono ?_; rintro e wz ⟨rfl, b1⟩; have hkz0 : Kp wr wz := Kp.next HK0.out b1))
            (try clear hHeld)
            have hkz : Kp wo wz := Kp.next hkp hkz0
            clear HSS HK0 HBf b1 hkz0 hwd hI0 hI1
            have HIns : Hid (Sorted (S.take (k1 + 1) ++ x :: S.drop (k1 + 1)) ∧ (S.take (k1 + 1) ++ x :: S.drop (k1 + 1)).Perm (L.take (i + 1))) := Lib.hid ⟨ins_sorted HS.out.2 (fun j y h1 h2 => HG.out j y h1 h2) (below_k HS.out.2 (.inr ⟨y, by rw [Nat.add_sub_cancel]; exact HY?.out, Nat.le_of_not_lt hlts⟩)), by rw [HTk.out]; exact ins_perm.trans (HS.out.1.append_right [x])⟩
            have HRz := Lib.hid (HRS.out.below hkz)
            obtain ⟨oo, cc, hcut, hoo⟩ := cut_tail (g := g3) (k := (k1 + 1)) ((k1 : Int) + 1) (by omega) hki hc3
            have hhead := fun w' => cut_head (g := g3) (k := (k1 + 1)) ((k1 : Int) + 1) (by omega) hki hc3 w'
            have HS2 : Hid (∀ w', Kp wz w' → ((w'.cell? ⟨g, o + i * 3, none⟩ = some (.string x.l) ∧ w'.cell? ⟨g, o + i * 3 + 1, none⟩ = some (.int .i64 x.f) ∧ w'.cell? ⟨g, o + i * 3 + 2, none⟩ = some (.int .i64 x.t)) ∧ Kp wz w')) := Lib.hid (fun w' h => ⟨HX.out w' (Kp.next hkz h), h⟩)
            have HN1 : Hid (∀ w', Kp wz w' → ∀ (j : Nat) (u : Value), (pcells (S.take (k1 + 1)))[j]? = some u → w'.cell? ((⟨g3, 0, none⟩ : Addr).add j) = some u) := Lib.hid (fun w' h j u hu => by
              have := rdp_part (HRz.out.below h) 0 (k1 + 1) j u
              rw [List.drop_zero, Nat.zero_mul] at this
              exact this hu)
            have HN3 : Hid (∀ w', Kp wz w' → ∀ (j : Nat) (u : Value), (pcells (S.drop (k1 + 1)))[j]? = some u → w'.cell? ((⟨g3, oo, none⟩ : Addr).add j) = some u) := Lib.hid (fun w' h j u hu => by
              by_cases h0 : 0 < i - (k1 + 1)
              · have := rdp_part (HRz.out.below h) (k1 + 1) (i - (k1 + 1)) j u
                rw [List.take_of_length_le (by rw [List.length_drop, HSn.out]; exact Nat.le_refl _), ← hoo h0] at this
                exact this hu
              · rw [List.drop_eq_nil_of_le (by rw [HSn.out]; omega)] at hu
                simp [pcells] at hu)
            have HL1 : Hid ((pcells (S.take (k1 + 1))).length = (k1 + 1) * 3) := Lib.hid (by rw [pcells_len, List.length_take, HSn.out, Nat.min_eq_left hki])
            have HL3 : Hid ((pcells (S.drop (k1 + 1))).length = (i - (k1 + 1)) * 3) := Lib.hid (by rw [pcells_len, List.length_drop, HSn.out])
            have hI2 : (0 : Int) ≤ (i : Int) := Int.natCast_nonneg _
            have hI3 : (i : Int) < (N : Int) := by omega
            have hbz := hb.trans (Below.mono hkz hb.size)
            clear hoo
            go_wp2_with fail
            go_region_held3 (fun w' => (w'.cell? ⟨g, o + i * 3, none⟩ = some (.string x.l) ∧ w'.cell? ⟨g, o + i * 3 + 1, none⟩ = some (.int .i64 x.f) ∧ w'.cell? ⟨g, o + i * 3 + 2, none⟩ = some (.int .i64 x.t)) ∧ Kp wz w')
              (exact HS2.out _ (by repeat (first | assumption | exact Kp.refl' _ | refine Kp.dr ?_ | refine Kp.al ?_ _)))
              (first
                | (refine step_own (by rfl) _ _ _ (by rfl) wz.heap.size 34 i0 _ 3 32 Tryd.underlying24 hi hz0 hz1 hz2 rfl (by decide) _ 0 [] (by rfl) (own_lit0 (by first | exact heap_alloc_new _ _ | exact heap_at2 _ _ _ | exact heap_at1 _ _ _) (by first | exact Nat.le_refl _ | (simp; done))) ⟨g3, 0, none⟩ (k1 + 1) c3 (pcells (S.take (k1 + 1))) (by rfl) HL1.out (HN1.out _ (by repeat (first | assumption | exact Kp.refl' _ | refine Kp.dr ?_ | refine Kp.al ?_ _))) (pc_one _) (by unfold maxLen; omega) (by omega) (by first | exact Nat.le_refl _ | (simp; done) | (simp; omega)) ?_; intro v1 w1 hown1 hgrow1 hne1; have hk1 : Kp wz w1 := Kp.gr (by repeat (first | assumption | exact Kp.refl' _ | refine Kp.dr ?_ | refine Kp.al ?_ _)) hgrow1 (fun q hq => by cases hq; first | exact Nat.le_refl _ | simp))
                | (refine step_own (by rfl) _ _ _ (by rfl) wz.heap.size 34 i0 _ 3 32 Tryd.underlying24 hi hz0 hz1 hz2 rfl (by decide) v1 (0 + (k1 + 1)) ([] ++ pcells (S.take (k1 + 1))) (by rfl) (by first | exact hown1 | exact hown1.alloc _) ⟨_, 0, none⟩ 1 1 [.string x.l, .int .i64 x.f, .int .i64 x.t] (by rfl) rfl (cells3_heap (t := 34) (fr := (0, 0)) (by first | exact heap_alloc_new _ _ | (refine (hgrow1.block _ (by simp <;> omega) (by simp [Value.ownBlock])).trans ?_; first | exact heap_alloc_new _ _ | exact heap_at2 _ _ _ | exact heap_at1 _ _ _))) (by simp [Value.oneCell']) (by unfold maxLen; omega) (by omega) (by first | exact (Below.size hk1) | (have := Below.size hk1; simp; omega)) ?_; intro v2 w2 hown2 hgrow2 hne2; have hk2 : Kp wz w2 := Kp.gr (by repeat (first | assumption | exact Kp.refl' _ | refine Kp.dr ?_ | refine Kp.al ?_ _)) hgrow2 (fun q hq => (hown1.lt q hq).1))
                | (refine step_own (by rfl) _ _ _ (by rfl) wz.heap.size 34 i0 _ 3 32 Tryd.underlying24 hi hz0 hz1 hz2 rfl (by decide) v2 (0 + (k1 + 1) + 1) (([] ++ pcells (S.take (k1 + 1))) ++ [.string x.l, .int .i64 x.f, .int .i64 x.t]) (by rfl) hown2 ⟨g3, oo, none⟩ (i - (k1 + 1)) cc (pcells (S.drop (k1 + 1))) (by rfl) HL3.out (HN3.out _ (by repeat (first | assumption | exact Kp.refl' _ | refine Kp.dr ?_ | refine Kp.al ?_ _))) (pc_one _) (by unfold maxLen; omega) (by omega) (by first | exact (Below.size hk2) | (have := Below.size hk2; simp; omega)) ?_; intro v3 w3 hown3 hgrow3 hne3; have hk3 : Kp wz w3 := Kp.gr (by repeat (first | assumption | exact Kp.refl' _ | refine Kp.dr ?_ | refine Kp.al ?_ _)) hgrow3 (fun q hq => (hown2.lt q hq).1))
                | fail)
            all_goals
              have hv1 : v1 ≠ .slice none 0 0 := fun e => by have h9 := (hne1.1 e).1; cases h9
              have hv2 : v2 ≠ .slice none 0 0 := fun e => hv1 (hne2.1 e).1
              have hv3 : v3 ≠ .slice none 0 0 := fun e => hv2 (hne3.1 e).1
              obtain ⟨g4, c4, rfl, ho4⟩ := own_form (m := i + 1) hown3 hv3 (by omega)
              rw [pc_mid] at ho4
              clear hown1 hown2 hown3 hgrow1 hgrow2 hgrow3 hne1 hne2 hne3 hv1 hv2 hv3 hcut hhead
              (try clear hHeld)
              go_wp2_with fail
              go_roundw
              case rel => exact ⟨i + 1, g4, c4, _, by omega, rfl, by go_num, Lib.hid ⟨HIns.out.2, HIns.out.1⟩, Lib.hid (row_base' hbz.size ho4), hbz.trans (Below.mono hk3 hbz.size)⟩
              case measure => (simp [intOf] <;> omega)

        · obtain rfl : k = 0 := by omega
          go_wp2_with fail
          go_quiet (fail)
          generalize hwz : wr.drewN _ = wz
          have hkz : Kp wo wz := by rw [← hwz]; exact below_drewN' hkp _
          clear hwz hkp
          have HIns : Hid (Sorted (S.take 0 ++ x :: S.drop 0) ∧ (S.take 0 ++ x :: S.drop 0).Perm (L.take (i + 1))) := Lib.hid ⟨ins_sorted HS.out.2 (fun j y h1 h2 => HG.out j y h1 h2) (below_k HS.out.2 (.inl rfl)), by rw [HTk.out]; exact ins_perm.trans (HS.out.1.append_right [x])⟩
          have HRz := Lib.hid (HRS.out.below hkz)
          obtain ⟨oo, cc, hcut, hoo⟩ := cut_tail (g := g3) (k := 0) (0) (by omega) hki hc3
          have hhead := fun w' => cut_head (g := g3) (k := 0) (0) (by omega) hki hc3 w'
          have HS2 : Hid (∀ w', Kp wz w' → ((w'.cell? ⟨g, o + i * 3, none⟩ = some (.string x.l) ∧ w'.cell? ⟨g, o + i * 3 + 1, none⟩ = some (.int .i64 x.f) ∧ w'.cell? ⟨g, o + i * 3 + 2, none⟩ = some (.int .i64 x.t)) ∧ Kp wz w')) := Lib.hid (fun w' h => ⟨HX.out w' (Kp.next hkz h), h⟩)
          have HN1 : Hid (∀ w', Kp wz w' → ∀ (j : Nat) (u : Value), (pcells (S.take 0))[j]? = some u → w'.cell? ((⟨g3, 0, none⟩ : Addr).add j) = some u) := Lib.hid (fun w' h j u hu => by
            have := rdp_part (HRz.out.below h) 0 0 j u
            rw [List.drop_zero, Nat.zero_mul] at this
            exact this hu)
          have HN3 : Hid (∀ w', Kp wz w' → ∀ (j : Nat) (u : Value), (pcells (S.drop 0))[j]? = some u → w'.cell? ((⟨g3, oo, none⟩ : Addr).add j) = some u) := Lib.hid (fun w' h j u hu => by
            by_cases h0 : 0 < i - 0
            · have := rdp_part (HRz.out.below h) 0 (i - 0) j u
              rw [List.take_of_length_le (by rw [List.length_drop, HSn.out]; exact Nat.le_refl _), ← hoo h0] at this
              exact this hu
            · rw [List.drop_eq_nil_of_le (by rw [HSn.out]; omega)] at hu
              simp [pcells] at hu)
          have HL1 : Hid ((pcells (S.take 0)).length = 0 * 3) := Lib.hid (by rw [pcells_len, List.length_take, HSn.out, Nat.min_eq_left hki])
          have HL3 : Hid ((pcells (S.drop 0)).length = (i - 0) * 3) := Lib.hid (by rw [pcells_len, List.length_drop, HSn.out])
          have hI2 : (0 : Int) ≤ (i : Int) := Int.natCast_nonneg _
          have hI3 : (i : Int) < (N : Int) := by omega
          have hbz := hb.trans (Below.mono hkz hb.size)
          clear hoo
          go_wp2_with fail
          go_region_held3 (fun w' => (w'.cell? ⟨g, o + i * 3, none⟩ = some (.string x.l) ∧ w'.cell? ⟨g, o + i * 3 + 1, none⟩ = some (.int .i64 x.f) ∧ w'.cell? ⟨g, o + i * 3 + 2, none⟩ = some (.int .i64 x.t)) ∧ Kp wz w')
            (exact HS2.out _ (by repeat (first | assumption | exact Kp.refl' _ | refine Kp.dr ?_ | refine Kp.al ?_ _)))
            (first
              | (refine step_own (by rfl) _ _ _ (by rfl) wz.heap.size 34 i0 _ 3 32 Tryd.underlying24 hi hz0 hz1 hz2 rfl (by decide) _ 0 [] (by rfl) (own_lit0 (by first | exact heap_alloc_new _ _ | exact heap_at2 _ _ _ | exact heap_at1 _ _ _) (by first | exact Nat.le_refl _ | (simp; done))) ⟨g3, 0, none⟩ 0 c3 (pcells (S.take 0)) (by rfl) HL1.out (HN1.out _ (by repeat (first | assumption | exact Kp.refl' _ | refine Kp.dr ?_ | refine Kp.al ?_ _))) (pc_one _) (by unfold maxLen; omega) (by omega) (by first | exact Nat.le_refl _ | (simp; done) | (simp; omega)) ?_; intro v1 w1 hown1 hgrow1 hne1; have hk1 : Kp wz w1 := Kp.gr (by repeat (first | assumption | exact Kp.refl' _ | refine Kp.dr ?_ | refine Kp.al ?_ _)) hgrow1 (fun q hq => by cases hq; first | exact Nat.le_refl _ | simp))
              | (refine step_own (by rfl) _ _ _ (by rfl) wz.heap.size 34 i0 _ 3 32 Tryd.underlying24 hi hz0 hz1 hz2 rfl (by decide) v1 (0 + 0) ([] ++ pcells (S.take 0)) (by rfl) (by first | exact hown1 | exact hown1.alloc _) ⟨_, 0, none⟩ 1 1 [.string x.l, .int .i64 x.f, .int .i64 x.t] (by rfl) rfl (cells3_heap (t := 34) (fr := (0, 0)) (by first | exact heap_alloc_new _ _ | (refine (hgrow1.block _ (by simp <;> omega) (by simp [Value.ownBlock])).trans ?_; first | exact heap_alloc_new _ _ | exact heap_at2 _ _ _ | exact heap_at1 _ _ _))) (by simp [Value.oneCell']) (by unfold maxLen; omega) (by omega) (by first | exact (Below.size hk1) | (have := Below.size hk1; simp; omega)) ?_; intro v2 w2 hown2 hgrow2 hne2; have hk2 : Kp wz w2 := Kp.gr (by repeat (first | assumption | exact Kp.refl' _ | refine Kp.dr ?_ | refine Kp.al ?_ _)) hgrow2 (fun q hq => (hown1.lt q hq).1))
              | (refine step_own (by rfl) _ _ _ (by rfl) wz.heap.size 34 i0 _ 3 32 Tryd.underlying24 hi hz0 hz1 hz2 rfl (by decide) v2 (0 + 0 + 1) (([] ++ pcells (S.take 0)) ++ [.string x.l, .int .i64 x.f, .int .i64 x.t]) (by rfl) hown2 ⟨g3, oo, none⟩ (i - 0) cc (pcells (S.drop 0)) (by rfl) HL3.out (HN3.out _ (by repeat (first | assumption | exact Kp.refl' _ | refine Kp.dr ?_ | refine Kp.al ?_ _))) (pc_one _) (by unfold maxLen; omega) (by omega) (by first | exact (Below.size hk2) | (have := Below.size hk2; simp; omega)) ?_; intro v3 w3 hown3 hgrow3 hne3; have hk3 : Kp wz w3 := Kp.gr (by repeat (first | assumption | exact Kp.refl' _ | refine Kp.dr ?_ | refine Kp.al ?_ _)) hgrow3 (fun q hq => (hown2.lt q hq).1))
              | fail)
          all_goals
            have hv1 : v1 ≠ .slice none 0 0 := fun e => by have h9 := (hne1.1 e).1; cases h9
            have hv2 : v2 ≠ .slice none 0 0 := fun e => hv1 (hne2.1 e).1
            have hv3 : v3 ≠ .slice none 0 0 := fun e => hv2 (hne3.1 e).1
            obtain ⟨g4, c4, rfl, ho4⟩ := own_form (m := i + 1) hown3 hv3 (by omega)
            rw [pc_mid] at ho4
            clear hown1 hown2 hown3 hgrow1 hgrow2 hgrow3 hne1 hne2 hne3 hv1 hv2 hv3 hcut hhead
            (try clear hHeld)
            go_wp2_with fail
            go_roundw
            case rel => exact ⟨i + 1, g4, c4, _, by omega, rfl, by go_num, Lib.hid ⟨HIns.out.2, HIns.out.1⟩, Lib.hid (row_base' hbz.size ho4), hbz.trans (Below.mono hk3 hbz.size)⟩
            case measure => (simp [intOf] <;> omega)

    · obtain rfl : i = N := by omega
      have HPm : Hid (S.Perm L) := Lib.hid (by have := HS.out.1; rwa [List.take_of_length_le (by rw [HN.out]; exact Nat.le_refl _)] at this)
      have HSS : Hid (Sorted S ∧ ∀ x ∈ S, x.ok = true) := Lib.hid ⟨HS.out.2, fun x hx => HK.out x (HPm.out.mem_iff.1 hx)⟩
      have HM : Hid (merge S = mL L) := Lib.hid (merge_is HK.out HPm.out HS.out.2)
      have HSn : Hid (S.length = i) := Lib.hid (by rw [← HN.out]; exact HPm.out.length_eq)
      have hlt3 := (HO.out.lt g3 rfl).2
      have hge3 := (HO.out.lt g3 rfl).1
      have HB4 := Lib.hid (hb.alloc hb.size (.cells #[] 34))
      have HO4 := Lib.hid (own_kept HO.out (box_below wo (.cells #[] 34)))
      have HO5 : Hid ((wo.alloc (.cells #[] 34)).ownsRow wo.heap.size 34 3 (.slice (some ⟨wo.heap.size, 0, none⟩) 0 0) 0 (pcells [])) := Lib.hid (World.ownsRow_lit (base := wo.heap.size) (e := 34) (size := 3) wo #[] 0 (Nat.le_refl _) (by decide) (by simp))
      clear HO HS HPm
      go_wp2_with fail
      go_loopw [6, 7] (fun v q wr => ∃ (k : Nat), k ≤ i ∧ q = .int .i64 k ∧ Hid (wr.ownsRow wo.heap.size 34 3 v (merge (S.take k)).length (pcells (merge (S.take k)))) ∧ Hid (wr.ownsRow w.heap.size 34 3 (.slice (some ⟨g3, 0, none⟩) i c3) i (pcells S)) ∧ Below w.heap.size w wr ∧ wo.heap.size ≤ wr.heap.size) (fun _ q _ => i - (intOf q).toNat)
      case atStart => exact ⟨0, Nat.zero_le _, rfl, HO5, HO4, HB4.out, by simp⟩
      case round =>
        obtain ⟨k, hk, rfl, HO, HP, hbr, hsz⟩ := hrel
        by_cases hlt : k < i
        · have hkx : k < S.length := by rw [HSn.out]; exact hlt
          have hx? := List.getElem?_eq_getElem hkx
          obtain ⟨g, o, he, hg, c0, c1, c2⟩ := (own_rd HP.out) k S[k] hx?
          cases he
          have HI := Lib.hid (inv_take HSS.out.1 HSS.out.2 hx?)
          have HMg := Lib.hid (merge_take hx?)
          have HXo := Lib.hid (HSS.out.2 _ (List.getElem_mem hkx))
          have hM8 := merge_len k HSS.out.1 HSS.out.2
          clear hx?
          generalize merge (S.take k) = M at *
          generalize S[k] = x at *
          rw [Nat.zero_add] at c0 c1 c2
          obtain ⟨A2, c2', rfl, _, RM, hc2⟩ := own_rdp HO.out
          have hJ2 : (0 : Int) ≤ (k : Int) := Int.natCast_nonneg _
          have hJ3 : (k : Int) < (i : Int) := by omega
          by_cases hm : M.length = 0
          · obtain rfl : M = [] := List.eq_nil_of_length_eq_zero hm
            clear RM
            go_wp2_with fail
            go_quiet (fail)
            generalize hwz : wr.drewN _ = wz
            have hkz : Kp wr wz := by rw [← hwz]; exact below_drewN' (Kp.refl' _) _
            have HOz := own_kept HO.out hkz
            have HPz := own_kept HP.out hkz
            have HKb := Lib.hid (hbr.trans (Below.mono hkz hbr.size))
            have q0 := (hkz.cell (p := ⟨g3, k * 3, none⟩) hg).trans c0
            have q1 := (hkz.cell (p := ⟨g3, k * 3 + 1, none⟩) hg).trans c1
            have q2 := (hkz.cell (p := ⟨g3, k * 3 + 2, none⟩) hg).trans c2
            clear hwz c0 c1 c2

            go_wp2_with (first
              | (at_builtin; refine wpList_append_own _ rfl _ _ 24 rfl wo.heap.size 34 i0 (.agg #[.string ByteArray.empty, .int .i64 0, .int .i64 0]) 3 32 Tryd.underlying24 hi hz0 hz1 hz2 rfl (by decide) _ _ _ rfl (HOz.alloc _) ⟨wz.heap.size, 0, none⟩ 1 1 [.string x.l, .int .i64 x.f, .int .i64 x.t] rfl rfl (cell_three_new _ _ _ _ _) (by simp [Value.oneCell']) (by unfold maxLen; omega) (by omega) (by have := hkz.size; simp; omega) ?_; intro v' w9 hown' hgrow _))
            go_roundw
            case rel =>
              have hlen : (merge (S.take (k + 1))).length = 0 + 1 := by rw [HMg.out, mg_nil_app, List.length_append]; rfl
              refine ⟨k + 1, by omega, by go_num, Lib.hid ?_, Lib.hid ?_, ?_, ?_⟩
              · rw [hlen, HMg.out, mg_nil_app, pcells_app]
                exact hown'
              · refine own_far (own_kept HPz (box_below wz _)) hgrow (fun e => ?_)
                have h9 := (HOz.lt g3 e.symm).1
                omega
              · exact (HKb.out.alloc HKb.out.size _).grown hgrow (by have := HKb.out.size; simp; omega) (fun g hg => by have := (HOz.lt g hg).1; have := hb.size; omega)
              · have h9 := hgrow.size
                have h8 := hkz.size
                simp at h9
                omega
            case measure => (simp [intOf] <;> omega)

          · obtain ⟨n1, hn1⟩ : ∃ n1, M.length = n1 + 1 := ⟨M.length - 1, by omega⟩
            have hny : n1 < M.length := by omega
            have hy? := List.getElem?_eq_getElem hny
            obtain ⟨g6, o6, he6, hg6, d0, d1, d2⟩ := RM n1 M[n1] hy?
            have HYo := Lib.hid (HI.out.ok _ (List.getElem_mem hny))
            have HY? := Lib.hid hy?
            clear hy? RM hm
            generalize M[n1] = y at *
            subst he6
            obtain rfl : o6 = 0 := by
              rcases HO.out.2 with ⟨hv, _⟩ | ⟨g', cap, cur, hv, _⟩
              · cases hv
              · cases hv; rfl
            rw [Nat.zero_add] at d0 d1 d2
            have HMl := Lib.hid hn1
            have hyb := okR_yes HYo.out
            obtain ⟨_, y1, y2, y3⟩ := hyb
            rw [hn1] at HO hc2 hM8 ⊢
            clear hn1 hny
            have hwd : IntKind.i64.wrap (n1 : Int) = (n1 : Int) := by rw [IntWalk.i64_in _ (by omega)]
            have hI0 : (0 : Int) ≤ (n1 : Int) := Int.natCast_nonneg _
            have hwy : IntKind.i64.wrap (y.t + 1) = y.t + 1 := by rw [IntWalk.i64_in _ (by omega)]
            by_cases hl : x.l = y.l
            · have heq : (y.l.toList == x.l.toList) = true := by rw [hl]; simp
              by_cases hf : x.f ≤ y.t + 1
              · have hfd : decide (x.f ≤ y.t + 1) = true := decide_eq_true hf
                have HMt := Lib.hid (mg_at HI.out HXo.out HY?.out (cont_yes hl hf))
                clear hl
                go_wp2_with fail
                go_quiet (fail)
                generalize hwz : wr.drewN _ = wz
                have hkz : Kp wr wz := by rw [← hwz]; exact below_drewN' (Kp.refl' _) _
                have HOz := own_kept HO.out hkz
                have HPz := own_kept HP.out hkz
                have HKb := Lib.hid (hbr.trans (Below.mono hkz hbr.size))
                have q0 := (hkz.cell (p := ⟨g3, k * 3, none⟩) hg).trans c0
                have q1 := (hkz.cell (p := ⟨g3, k * 3 + 1, none⟩) hg).trans c1
                have q2 := (hkz.cell (p := ⟨g3, k * 3 + 2, none⟩) hg).trans c2
                clear hwz c0 c1 c2

                have e0 := (hkz.cell (p := ⟨g6, n1 * 3, none⟩) hg6).trans d0
                have e1 := (hkz.cell (p := ⟨g6, n1 * 3 + 1, none⟩) hg6).trans d1
                have e2 := (hkz.cell (p := ⟨g6, n1 * 3 + 2, none⟩) hg6).trans d2
                have f2 := q2
                have hgz : g3 < wz.heap.size := Nat.lt_of_lt_of_le hg (Below.size hkz)
                have D9 := Lib.hid (P3.new wz y.l y.f y.t 34)
                have HB9 := Lib.hid (box_below wz (.cells #[.string y.l, .int .i64 y.f, .int .i64 y.t] 34))
                have hz9 : (wz.alloc (.cells #[.string y.l, .int .i64 y.f, .int .i64 y.t] 34)).frozen? ⟨wz.heap.size, 2, none⟩ = false := by simp
                have f9 := (HB9.out.cell (p := ⟨g3, k * 3 + 2, none⟩) hgz).trans f2
                clear q0 q1 q2 d0 d1 d2 heq hfd
                go_upto_region 16 with fail
                generalize hw9 : wz.alloc (.cells #[.string y.l, .int .i64 y.f, .int .i64 y.t] 34) = w9 at HB9 D9 hz9 f9 ⊢
                clear hw9 e0 e1 e2 f2
                obtain ⟨hl9, p0, p1, p2⟩ := D9.out
                have HMs := Lib.hid (fun w => most_s y.t x.t w)
                go_wp2_with fail
                go_region_with (first
                  | (go_at_call 33; with_reducible refine (HMs.out _).mono ?_; rintro e w7 ⟨rfl, rfl⟩)
                  | fail)
                all_goals
                  generalize hw10 : World.setCell _ ⟨wz.heap.size, 2, none⟩ (.int .i64 (max y.t x.t)) = w10
                  have D10 := Lib.hid (show P3 w10 wz.heap.size y.l y.f (max y.t x.t) by rw [← hw10]; exact P3.set2 (show P3 _ _ _ _ _ from D9.out) _)
                  have HK10 : Below wz.heap.size wz w10 := by rw [← hw10]; first | exact Below.setCell HB9.out (p := ⟨wz.heap.size, 2, none⟩) (Nat.le_refl _) _ | exact Below.setCell HB9.out.drew (p := ⟨wz.heap.size, 2, none⟩) (Nat.le_refl _) _
                  clear hw10 p0 p1 p2 hz9 f9
                  obtain ⟨hl10, p0, p1, p2⟩ := D10.out
                  have ho10 := own_kept HOz HK10
                  have hp10 := own_kept HPz HK10
                  have hplen : (pcells M).length = (n1 + 1) * 3 := by rw [pcells_len, HMl.out]
                  have f0 := World.ownsRow.frozenAt ho10 (n1 * 3)
                  have f1 := World.ownsRow.frozenAt ho10 (n1 * 3 + 1)
                  have f2 := World.ownsRow.frozenAt ho10 (n1 * 3 + 2)
                  obtain ⟨u0, v0⟩ : ∃ u, w10.cell? ⟨g6, n1 * 3, none⟩ = some u := by rw [World.ownsRow.cellAt ho10 (n1 * 3) (by omega)]; exact ⟨_, List.getElem?_eq_getElem (by omega)⟩
                  obtain ⟨u1, v1⟩ : ∃ u, w10.cell? ⟨g6, n1 * 3 + 1, none⟩ = some u := by rw [World.ownsRow.cellAt ho10 (n1 * 3 + 1) (by omega)]; exact ⟨_, List.getElem?_eq_getElem (by omega)⟩
                  obtain ⟨u2, v2⟩ : ∃ u, w10.cell? ⟨g6, n1 * 3 + 2, none⟩ = some u := by rw [World.ownsRow.cellAt ho10 (n1 * 3 + 2) (by omega)]; exact ⟨_, List.getElem?_eq_getElem (by omega)⟩
                  have HOs := Lib.hid ((((ho10.stored (n1 * 3) (.string y.l)).1.stored (n1 * 3 + 1) (.int .i64 y.f)).1.stored (n1 * 3 + 2) (.int .i64 (max y.t x.t))).1)
                  have hg6b := (HOz.lt g6 rfl).1
                  have hg36 : g3 ≠ g6 := by omega
                  have hne36 : Value.ownBlock (.slice (some ⟨g3, 0, none⟩) i c3) ≠ some g6 := fun e => hg36 (Option.some.inj e)
                  have s1 := ho10.stored (n1 * 3) (.string y.l)
                  have s2 := s1.1.stored (n1 * 3 + 1) (.int .i64 y.f)
                  have s3 := s2.1.stored (n1 * 3 + 2) (.int .i64 (max y.t x.t))
                  have HPs := Lib.hid (own_far (own_far (own_far hp10 s1.2 hne36) s2.2 hne36) s3.2 hne36)
                  have hKb10 := HKb.out.trans (HK10.mono HKb.out.size)
                  have hs10 : wo.heap.size ≤ w10.heap.size := Nat.le_trans hsz (Nat.le_trans (Below.size hkz) HK10.size)
                  clear ho10 hp10 s1 s2 s3 hplen
                  go_wp2_with fail
                  go_roundw
                  case rel =>
                    have hlen : (merge (S.take (k + 1))).length = n1 + 1 := by rw [HMg.out, HMt.out.2, List.length_set, HMl.out]
                    refine ⟨k + 1, by omega, by go_num, Lib.hid ?_, Lib.hid HPs.out, ?_, by simpa [World.setCell] using hs10⟩
                    · rw [hlen, HMg.out, HMt.out.2, ← pcells_set ⟨y.l, y.f, max y.t x.t⟩ (List.getElem?_eq_some_iff.1 HY?.out).1]
                      exact HOs.out
                    · have hwg : w.heap.size ≤ g6 := by have := hb.size; omega
                      have hfin := ((hKb10.setCell (p := ⟨g6, n1 * 3, none⟩) hwg (.string y.l)).setCell (p := ⟨g6, n1 * 3 + 1, none⟩) hwg (.int .i64 y.f)).setCell (p := ⟨g6, n1 * 3 + 2, none⟩) hwg (.int .i64 (max y.t x.t))
                      first | exact hfin | exact hfin.drew
                  case measure => (simp [intOf] <;> omega)
              · have hfd : decide (x.f ≤ y.t + 1) = false := decide_eq_false hf
                have HMt := Lib.hid (mg_not HMl.out HY?.out (cont_no2 hf))
                clear hl
                go_wp2_with fail
                go_quiet (fail)
                generalize hwz : wr.drewN _ = wz
                have hkz : Kp wr wz := by rw [← hwz]; exact below_drewN' (Kp.refl' _) _
                have HOz := own_kept HO.out hkz
                have HPz := own_kept HP.out hkz
                have HKb := Lib.hid (hbr.trans (Below.mono hkz hbr.size))
                have q0 := (hkz.cell (p := ⟨g3, k * 3, none⟩) hg).trans c0
                have q1 := (hkz.cell (p := ⟨g3, k * 3 + 1, none⟩) hg).trans c1
                have q2 := (hkz.cell (p := ⟨g3, k * 3 + 2, none⟩) hg).trans c2
                clear hwz c0 c1 c2

                go_wp2_with (first
                  | (at_builtin; refine wpList_append_own _ rfl _ _ 24 rfl wo.heap.size 34 i0 (.agg #[.string ByteArray.empty, .int .i64 0, .int .i64 0]) 3 32 Tryd.underlying24 hi hz0 hz1 hz2 rfl (by decide) _ _ _ rfl (HOz.alloc _) ⟨wz.heap.size, 0, none⟩ 1 1 [.string x.l, .int .i64 x.f, .int .i64 x.t] rfl rfl (cell_three_new _ _ _ _ _) (by simp [Value.oneCell']) (by unfold maxLen; omega) (by omega) (by have := hkz.size; simp; omega) ?_; intro v' w9 hown' hgrow _))
                go_roundw
                case rel =>
                  have hlen : (merge (S.take (k + 1))).length = n1 + 1 + 1 := by rw [HMg.out, HMt.out, List.length_append, HMl.out]; rfl
                  refine ⟨k + 1, by omega, by go_num, Lib.hid ?_, Lib.hid ?_, ?_, ?_⟩
                  · rw [hlen, HMg.out, HMt.out, pcells_app]
                    exact hown'
                  · refine own_far (own_kept HPz (box_below wz _)) hgrow (fun e => ?_)
                    have h9 := (HOz.lt g3 e.symm).1
                    omega
                  · exact (HKb.out.alloc HKb.out.size _).grown hgrow (by have := HKb.out.size; simp; omega) (fun g hg => by have := (HOz.lt g hg).1; have := hb.size; omega)
                  · have h9 := hgrow.size
                    have h8 := hkz.size
                    simp at h9
                    omega
                case measure => (simp [intOf] <;> omega)

            · have hne := str_neq (fun e => hl e.symm : y.l ≠ x.l)
              have HMt := Lib.hid (mg_not HMl.out HY?.out (cont_no1 hl))
              go_wp2_with fail
              go_quiet (fail)
              generalize hwz : wr.drewN _ = wz
              have hkz : Kp wr wz := by rw [← hwz]; exact below_drewN' (Kp.refl' _) _
              have HOz := own_kept HO.out hkz
              have HPz := own_kept HP.out hkz
              have HKb := Lib.hid (hbr.trans (Below.mono hkz hbr.size))
              have q0 := (hkz.cell (p := ⟨g3, k * 3, none⟩) hg).trans c0
              have q1 := (hkz.cell (p := ⟨g3, k * 3 + 1, none⟩) hg).trans c1
              have q2 := (hkz.cell (p := ⟨g3, k * 3 + 2, none⟩) hg).trans c2
              clear hwz c0 c1 c2

              go_wp2_with (first
                | (at_builtin; refine wpList_append_own _ rfl _ _ 24 rfl wo.heap.size 34 i0 (.agg #[.string ByteArray.empty, .int .i64 0, .int .i64 0]) 3 32 Tryd.underlying24 hi hz0 hz1 hz2 rfl (by decide) _ _ _ rfl (HOz.alloc _) ⟨wz.heap.size, 0, none⟩ 1 1 [.string x.l, .int .i64 x.f, .int .i64 x.t] rfl rfl (cell_three_new _ _ _ _ _) (by simp [Value.oneCell']) (by unfold maxLen; omega) (by omega) (by have := hkz.size; simp; omega) ?_; intro v' w9 hown' hgrow _))
              go_roundw
              case rel =>
                have hlen : (merge (S.take (k + 1))).length = n1 + 1 + 1 := by rw [HMg.out, HMt.out, List.length_append, HMl.out]; rfl
                refine ⟨k + 1, by omega, by go_num, Lib.hid ?_, Lib.hid ?_, ?_, ?_⟩
                · rw [hlen, HMg.out, HMt.out, pcells_app]
                  exact hown'
                · refine own_far (own_kept HPz (box_below wz _)) hgrow (fun e => ?_)
                  have h9 := (HOz.lt g3 e.symm).1
                  omega
                · exact (HKb.out.alloc HKb.out.size _).grown hgrow (by have := HKb.out.size; simp; omega) (fun g hg => by have := (HOz.lt g hg).1; have := hb.size; omega)
                · have h9 := hgrow.size
                  have h8 := hkz.size
                  simp at h9
                  omega
              case measure => (simp [intOf] <;> omega)

        · obtain rfl : k = i := by omega
          have HE : Hid (merge (S.take k) = mL L) := Lib.hid (by rw [List.take_of_length_le (by rw [HSn.out]; exact Nat.le_refl _), HM.out])
          have hown := HO.out
          rw [HE.out] at hown
          go_wp2_with fail
          go_ret
          exact ⟨_, rfl, row_base' hb.size hown, hbr⟩
end Go.Proofs.YtocgpoafhocbbaaDoor.PgM
