/-
  Several texts of one claim in one file: Lbv, Lbg, Lbz.
-/
import Derived.Test.YteccmlpibbchbaaGreatDoorLb
import Derived.Test.YteccmlpibbchbaaGreatDoorVei
import Derived.Test.YteccmlpibbchbaaGreatDoorHeld
import Derived.Deep.RegionHeld3
import Derived.Deep.DeepCutAuto
import Derived.Laws.Cover1
import Derived.IntWalk
/-
  Contracts of IsValidLibrary and l4Good.
-/
namespace Go.Proofs.YteccmlpibbchbaaGreatDoor.Lbs
open Go.RowKit Pl Strs Help Name Stands SplitPl NmPl Word Part NGood Nms Jn Ens
set_option linter.unusedSimpArgs false
set_option linter.unusedVariables false

set_option maxRecDepth 100000 in
set_option maxHeartbeats 16000000 in
theorem isValidL (A : Option Addr) (c N : Nat) (L : List En) (w : World) (h : RdE w A L) (hn : L.length = N) (hm : N ≤ 1048576) (hz : ∀ x ∈ L, x.sz ≤ 1048576) :
    Calls Tryz.prog 29 #[.agg #[.slice A N c]] w fun e w' => e = .returned (.bool (okLib L)) ∧ Below w.heap.size w w' := by
  have HB := Lib.hid ((Below.refl _ w).alloc (Nat.le_refl _) (.cells #[.slice A N c] 33))
  have hc0 : (w.alloc (.cells #[.slice A N c] 33)).cell? ⟨w.heap.size, 0, none⟩ = some (.slice A N c) := by simp
  have hs0 : w.heap.size < (w.alloc (.cells #[.slice A N c] 33)).heap.size := by simp
  have HC0 := Lib.hid (And.intro hc0 hs0)
  have H := Lib.hid h
  have HN0 := Lib.hid hn
  have HZ := Lib.hid hz
  clear h hn hz hc0 hs0
  by_cases h8 : N ≤ 8
  · have HE : Hid (okLib L = goL none L) := Lib.hid (by unfold okLib; rw [HN0.out, decide_eq_true h8]; rfl)
    go_enter Tryz.func29, Tryz.ntmps29
    go_wp2_with fail
    generalize w.alloc (.cells #[.slice A N c] 33) = w0 at HB HC0 ⊢
    go_loopw [12] (fun i wr => ∃ k : Nat, k ≤ N ∧ i = .int .i64 k ∧ Hid (goL (prevK L k) (L.drop k) = goL none L) ∧ Below w.heap.size w wr ∧ wr.cell? ⟨w.heap.size, 0, none⟩ = some (.slice A N c) ∧ w.heap.size < wr.heap.size) (fun i _ => N - (intOf i).toNat)
    case atStart => exact ⟨0, Nat.zero_le _, rfl, Lib.hid rfl, HB.out, HC0.out.1, HC0.out.2⟩
    case round =>
      obtain ⟨k, hk, rfl, HD, hb, hl0, hsz⟩ := hrel
      by_cases hlt : k < N
      · skip
        have hkx : k < L.length := by rw [HN0.out]; exact hlt
        have hx? := List.getElem?_eq_getElem hkx
        obtain ⟨hr, g, o, rfl, hg, c0, c1, c2, c3, c4, c5, c6, c7, c8, c9, c10, c11, c12, c13⟩ := (H.out.below hb) k L[k] hx?
        have HSz := Lib.hid (HZ.out _ (List.getElem_mem hkx))
        have HGo := Lib.hid (goL_drop (prevK L k) hx?)
        have HPs := Lib.hid (prevK_succ hx?)
        by_cases hk0 : 0 < k
        · have hky : k - 1 < L.length := by omega
          have hy? := List.getElem?_eq_getElem hky
          obtain ⟨_, g', o', e', hg', hy0, _⟩ := (H.out.below hb) (k - 1) L[k - 1] hy?
          cases e'
          have HPp := Lib.hid (prevK_pos hk0 hy?)
          obtain ⟨j, hj⟩ : ∃ j, j + 1 = k := ⟨k - 1, by omega⟩
          have ej : k - 1 = j := by omega
          have hjN : j < N := by rw [HN0.out] at hky; omega
          have hji : (k : Int) - 1 = (j : Int) := by omega
          have hjw : IntKind.i64.wrap (j : Int) = (j : Int) := IntWalk.i64_in _ (by omega)
          have hj0 : (0 : Int) ≤ (j : Int) := by omega
          have hjN' : (j : Int) < (N : Int) := by omega
          have hk0' : (0 : Int) < (k : Int) := by omega
          generalize L[k - 1] = ey at *
          have HPp : Hid (prevK L k = some ey.key) := HPp
          generalize ey.key = yk at *
          rw [ej] at hy0
          clear hy? hg' hky ej
          have HJ := Lib.hid hj
          clear hj
          generalize L[k] = ex at *
          obtain ⟨key, kind, auA, auN, auc, auL, edA, edN, edc, edL, ti, co, pu, y, m, d, ci, vol, pa, cr⟩ := ex
          dsimp only at c0 c1 c2 c3 c4 c5 c6 c7 c8 c9 c10 c11 c12 c13 HPs
          have HR := Lib.hid hr
          clear hr hx?
          cases hok : okE (⟨key, kind, auA, auN, auc, auL, edA, edN, edc, edL, ti, co, pu, y, m, d, ci, vol, pa, cr⟩ : En) with
          | false =>
            have HOK := Lib.hid hok
            have HF : Hid (okLib L = false) := Lib.hid (by rw [HE.out, ← HD.out, HGo.out, hok]; simp)
            clear hok
            go_upto_region 6 with fail
            have B1 := (Below.refl _ wr).alloc (Nat.le_refl _) (.cells #[.string key, .int .i64 kind, .slice auA auN auc, .slice edA edN edc, .string ti, .string co, .string pu, .int .i64 y, .int .i64 m, .int .i64 d, .bool ci, .int .i64 vol, .string pa, .string cr] 58)
            have X1 := Lib.hid (E14.new wr (⟨key, kind, auA, auN, auc, auL, edA, edN, edc, edL, ti, co, pu, y, m, d, ci, vol, pa, cr⟩ : En) 58)
            have k1 := hb.trans (B1.mono hb.size)
            have R1 := Lib.hid (HR.out.below B1)
            have l1 := (B1.cell (p := ⟨w.heap.size, 0, none⟩) hsz).trans hl0
            have y1 := (B1.cell (p := ⟨g, o + j * 14, none⟩) hg).trans hy0
            have s1 : w.heap.size < (wr.alloc (.cells #[.string key, .int .i64 kind, .slice auA auN auc, .slice edA edN edc, .string ti, .string co, .string pu, .int .i64 y, .int .i64 m, .int .i64 d, .bool ci, .int .i64 vol, .string pa, .string cr] 58)).heap.size := Nat.lt_of_lt_of_le hsz B1.size
            have g1 : g < (wr.alloc (.cells #[.string key, .int .i64 kind, .slice auA auN auc, .slice edA edN edc, .string ti, .string co, .string pu, .int .i64 y, .int .i64 m, .int .i64 d, .bool ci, .int .i64 vol, .string pa, .string cr] 58)).heap.size := Nat.lt_of_lt_of_le hg B1.size
            clear B1 HR hl0 hy0 hsz hg hb c0 c1 c2 c3 c4 c5 c6 c7 c8 c9 c10 c11 c12 c13
            generalize wr.alloc (.cells #[.string key, .int .i64 kind, .slice auA auN auc, .slice edA edN edc, .string ti, .string co, .string pu, .int .i64 y, .int .i64 m, .int .i64 d, .bool ci, .int .i64 vol, .string pa, .string cr] 58) = w1 at X1 k1 R1 l1 y1 s1 g1 ⊢
            generalize wr.heap.size = bx at *
            have HV := Lib.hid (fun w' (hk : Below w1.heap.size w1 w') => isValidE_any key kind auA auN auc auL edA edN edc edL ti co pu y m d ci vol pa cr w' (R1.out.below hk) HSz.out)
            rw [HOK.out] at HV
            have HSt : Hid (∀ W, Kept w1 W → (W.cell? ⟨bx, 0, none⟩ = some (.string key) ∧ W.cell? ⟨bx, 1, none⟩ = some (.int .i64 kind) ∧ W.cell? ⟨bx, 2, none⟩ = some (.slice auA auN auc) ∧ W.cell? ⟨bx, 3, none⟩ = some (.slice edA edN edc) ∧ W.cell? ⟨bx, 4, none⟩ = some (.string ti) ∧ W.cell? ⟨bx, 5, none⟩ = some (.string co) ∧ W.cell? ⟨bx, 6, none⟩ = some (.string pu) ∧ W.cell? ⟨bx, 7, none⟩ = some (.int .i64 y) ∧ W.cell? ⟨bx, 8, none⟩ = some (.int .i64 m) ∧ W.cell? ⟨bx, 9, none⟩ = some (.int .i64 d) ∧ W.cell? ⟨bx, 10, none⟩ = some (.bool ci) ∧ W.cell? ⟨bx, 11, none⟩ = some (.int .i64 vol) ∧ W.cell? ⟨bx, 12, none⟩ = some (.string pa) ∧ W.cell? ⟨bx, 13, none⟩ = some (.string cr) ∧ W.cell? ⟨w.heap.size, 0, none⟩ = some (.slice (some ⟨g, o, none⟩) N c) ∧ W.cell? ⟨g, o + j * 14, none⟩ = some (.string yk) ∧ Kept w1 W)) := Lib.hid (fun W h => by
              obtain ⟨_, c0, c1, c2, c3, c4, c5, c6, c7, c8, c9, c10, c11, c12, c13⟩ := X1.out.below h
              exact ⟨c0, c1, c2, c3, c4, c5, c6, c7, c8, c9, c10, c11, c12, c13, (h.cell (p := ⟨w.heap.size, 0, none⟩) s1).trans l1, (h.cell (p := ⟨g, o + j * 14, none⟩) g1).trans y1, h⟩)
            have HK0 := Lib.hid (Kept.drew w1)
            obtain ⟨_, c0, c1, c2, c3, c4, c5, c6, c7, c8, c9, c10, c11, c12, c13⟩ := X1.out
            dsimp only at c0 c1 c2 c3 c4 c5 c6 c7 c8 c9 c10 c11 c12 c13
            go_wp2_with fail
            refine wp_region_held_drew (S := fun W => W.cell? ⟨bx, 0, none⟩ = some (.string key) ∧ W.cell? ⟨bx, 1, none⟩ = some (.int .i64 kind) ∧ W.cell? ⟨bx, 2, none⟩ = some (.slice auA auN auc) ∧ W.cell? ⟨bx, 3, none⟩ = some (.slice edA edN edc) ∧ W.cell? ⟨bx, 4, none⟩ = some (.string ti) ∧ W.cell? ⟨bx, 5, none⟩ = some (.string co) ∧ W.cell? ⟨bx, 6, none⟩ = some (.string pu) ∧ W.cell? ⟨bx, 7, none⟩ = some (.int .i64 y) ∧ W.cell? ⟨bx, 8, none⟩ = some (.int .i64 m) ∧ W.cell? ⟨bx, 9, none⟩ = some (.int .i64 d) ∧ W.cell? ⟨bx, 10, none⟩ = some (.bool ci) ∧ W.cell? ⟨bx, 11, none⟩ = some (.int .i64 vol) ∧ W.cell? ⟨bx, 12, none⟩ = some (.string pa) ∧ W.cell? ⟨bx, 13, none⟩ = some (.string cr) ∧ W.cell? ⟨w.heap.size, 0, none⟩ = some (.slice (some ⟨g, o, none⟩) N c) ∧ W.cell? ⟨g, o + j * 14, none⟩ = some (.string yk) ∧ Kept w1 W) (by kernel_rfl) (HSt.out _ HK0.out) (fun hHeld => ?_)
            refine Held.takeL (i := 0) (v := ?_) rfl (by kernel_rfl) (by kernel_rfl) (by kernel_rfl) (fun _ _ _ h => h) (Or.inl ⟨by rfl, ?_⟩) (by assumption) ?_
            rotate_left
            · intro W hSw
              (try dsimp only at hSw)
              go_simp
              try (with_reducible rfl)
            try simp only [Act.put, List.setIfInBounds_toArray, List.set_cons_zero, List.set_cons_succ]
            refine Held.callL (i := 1) rfl (by kernel_rfl) (by rfl) (fun K hK => ?_)
            try go_simp
            go_at_call 51
            refine (HV.out _ HK0.out).mono ?_
            rintro e w2 ⟨rfl, b2⟩
            have hk2 : Kept w1 w2 := Kept.next HK0.out b2
            try go_wp2_with fail
            refine hK.out _ _ ?_ (fun hHeld => ?_)
            · exact HSt.out _ hk2
            clear hK K
            try simp only [Act.put, List.setIfInBounds_toArray, List.set_cons_zero, List.set_cons_succ]
            refine Held.takeL (i := 2) (v := ?_) rfl (by kernel_rfl) (by kernel_rfl) (by kernel_rfl) (fun _ _ _ h => h) (Or.inl ⟨by rfl, ?_⟩) (by assumption) ?_
            rotate_left
            · intro W hSw
              (try dsimp only at hSw)
              go_simp
              try (with_reducible rfl)
            try simp only [Act.put, List.setIfInBounds_toArray, List.set_cons_zero, List.set_cons_succ]
            refine Held.takeL (i := 3) (v := ?_) rfl (by kernel_rfl) (by kernel_rfl) (by kernel_rfl) (fun _ _ _ h => h) (Or.inl ⟨by rfl, ?_⟩) (by assumption) ?_
            rotate_left
            · intro W hSw
              (try dsimp only at hSw)
              go_simp
              try (with_reducible rfl)
            try simp only [Act.put, List.setIfInBounds_toArray, List.set_cons_zero, List.set_cons_succ]
            refine Held.skipL (i := 4) rfl (by kernel_rfl) (by kernel_rfl) (by kernel_rfl) (fun _ _ _ h => h) (by rfl) (by assumption) ?_
            try simp only [Act.put, List.setIfInBounds_toArray, List.set_cons_zero, List.set_cons_succ]
            refine Held.skipL (i := 5) rfl (by kernel_rfl) (by kernel_rfl) (by kernel_rfl) (fun _ _ _ h => h) (by rfl) (by assumption) ?_
            try simp only [Act.put, List.setIfInBounds_toArray, List.set_cons_zero, List.set_cons_succ]
            refine Held.skipL (i := 6) rfl (by kernel_rfl) (by kernel_rfl) (by kernel_rfl) (fun _ _ _ h => h) (by rfl) (by assumption) ?_
            try simp only [Act.put, List.setIfInBounds_toArray, List.set_cons_zero, List.set_cons_succ]
            refine Held.skipL (i := 7) rfl (by kernel_rfl) (by kernel_rfl) (by kernel_rfl) (fun _ _ _ h => h) (by rfl) (by assumption) ?_
            try simp only [Act.put, List.setIfInBounds_toArray, List.set_cons_zero, List.set_cons_succ]
            refine Held.skipL (i := 8) rfl (by kernel_rfl) (by kernel_rfl) (by kernel_rfl) (fun _ _ _ h => h) (by rfl) (by assumption) ?_
            try simp only [Act.put, List.setIfInBounds_toArray, List.set_cons_zero, List.set_cons_succ]
            refine Held.skipL (i := 9) rfl (by kernel_rfl) (by kernel_rfl) (by kernel_rfl) (fun _ _ _ h => h) (by rfl) (by assumption) ?_
            try simp only [Act.put, List.setIfInBounds_toArray, List.set_cons_zero, List.set_cons_succ]
            refine Held.skipL (i := 10) rfl (by kernel_rfl) (by kernel_rfl) (by kernel_rfl) (fun _ _ _ h => h) (by rfl) (by assumption) ?_
            try simp only [Act.put, List.setIfInBounds_toArray, List.set_cons_zero, List.set_cons_succ]
            refine Held.skipL (i := 11) rfl (by kernel_rfl) (by kernel_rfl) (by kernel_rfl) (fun _ _ _ h => h) (by rfl) (by assumption) ?_
            try simp only [Act.put, List.setIfInBounds_toArray, List.set_cons_zero, List.set_cons_succ]
            refine Held.skipL (i := 12) rfl (by kernel_rfl) (by kernel_rfl) (by kernel_rfl) (fun _ _ _ h => h) (by rfl) (by assumption) ?_
            try simp only [Act.put, List.setIfInBounds_toArray, List.set_cons_zero, List.set_cons_succ]
            refine Held.skipL (i := 13) rfl (by kernel_rfl) (by kernel_rfl) (by kernel_rfl) (fun _ _ _ h => h) (by rfl) (by assumption) ?_
            try simp only [Act.put, List.setIfInBounds_toArray, List.set_cons_zero, List.set_cons_succ]
            refine Held.skipL (i := 14) rfl (by kernel_rfl) (by kernel_rfl) (by kernel_rfl) (fun _ _ _ h => h) (by rfl) (by assumption) ?_
            try simp only [Act.put, List.setIfInBounds_toArray, List.set_cons_zero, List.set_cons_succ]
            refine Held.skipL (i := 15) rfl (by kernel_rfl) (by kernel_rfl) (by kernel_rfl) (fun _ _ _ h => h) (by rfl) (by assumption) ?_
            try simp only [Act.put, List.setIfInBounds_toArray, List.set_cons_zero, List.set_cons_succ]
            refine Held.skipL (i := 16) rfl (by kernel_rfl) (by kernel_rfl) (by kernel_rfl) (fun _ _ _ h => h) (by rfl) (by assumption) ?_
            try simp only [Act.put, List.setIfInBounds_toArray, List.set_cons_zero, List.set_cons_succ]
            refine Held.skipL (i := 17) rfl (by kernel_rfl) (by kernel_rfl) (by kernel_rfl) (fun _ _ _ h => h) (by rfl) (by assumption) ?_
            try simp only [Act.put, List.setIfInBounds_toArray, List.set_cons_zero, List.set_cons_succ]
            refine Held.skipL (i := 18) rfl (by kernel_rfl) (by kernel_rfl) (by kernel_rfl) (fun _ _ _ h => h) (by rfl) (by assumption) ?_
            try simp only [Act.put, List.setIfInBounds_toArray, List.set_cons_zero, List.set_cons_succ]
            refine Held.takeL (i := 19) (v := ?_) rfl (by kernel_rfl) (by kernel_rfl) (by kernel_rfl) (fun _ _ _ h => h) (Or.inl ⟨by rfl, ?_⟩) (by assumption) ?_
            rotate_left
            · intro W hSw
              (try dsimp only at hSw)
              go_simp
              try (with_reducible rfl)
            try simp only [Act.put, List.setIfInBounds_toArray, List.set_cons_zero, List.set_cons_succ]
            refine wpAnyH_done (by kernel_rfl) ?_ _
            have k2 := k1.trans (Below.mono hk2 k1.size)
            have l2 := (hk2.cell (p := ⟨w.heap.size, 0, none⟩) s1).trans l1
            have s2 : w.heap.size < w2.heap.size := Nat.lt_of_lt_of_le s1 hk2.size
            clear HSt HK0 hk2 HV X1 R1 l1 s1 g1 y1 k1 c0 c1 c2 c3 c4 c5 c6 c7 c8 c9 c10 c11 c12 c13
            (try clear hHeld)
            go_wp2_with fail
            go_ret
            exact ⟨by rw [HF.out]; rfl, k2⟩
          | true =>
            have HOK := Lib.hid hok
            cases hlt2 : ltS yk key with
            | false =>
              have HLt := Lib.hid hlt2
              have HF : Hid (okLib L = false) := Lib.hid (by rw [HE.out, ← HD.out, HGo.out, hok, HPp.out]; simp [hlt2])
              clear hok hlt2
              go_upto_region 6 with fail
              have B1 := (Below.refl _ wr).alloc (Nat.le_refl _) (.cells #[.string key, .int .i64 kind, .slice auA auN auc, .slice edA edN edc, .string ti, .string co, .string pu, .int .i64 y, .int .i64 m, .int .i64 d, .bool ci, .int .i64 vol, .string pa, .string cr] 58)
              have X1 := Lib.hid (E14.new wr (⟨key, kind, auA, auN, auc, auL, edA, edN, edc, edL, ti, co, pu, y, m, d, ci, vol, pa, cr⟩ : En) 58)
              have k1 := hb.trans (B1.mono hb.size)
              have R1 := Lib.hid (HR.out.below B1)
              have l1 := (B1.cell (p := ⟨w.heap.size, 0, none⟩) hsz).trans hl0
              have y1 := (B1.cell (p := ⟨g, o + j * 14, none⟩) hg).trans hy0
              have s1 : w.heap.size < (wr.alloc (.cells #[.string key, .int .i64 kind, .slice auA auN auc, .slice edA edN edc, .string ti, .string co, .string pu, .int .i64 y, .int .i64 m, .int .i64 d, .bool ci, .int .i64 vol, .string pa, .string cr] 58)).heap.size := Nat.lt_of_lt_of_le hsz B1.size
              have g1 : g < (wr.alloc (.cells #[.string key, .int .i64 kind, .slice auA auN auc, .slice edA edN edc, .string ti, .string co, .string pu, .int .i64 y, .int .i64 m, .int .i64 d, .bool ci, .int .i64 vol, .string pa, .string cr] 58)).heap.size := Nat.lt_of_lt_of_le hg B1.size
              clear B1 HR hl0 hy0 hsz hg hb c0 c1 c2 c3 c4 c5 c6 c7 c8 c9 c10 c11 c12 c13
              generalize wr.alloc (.cells #[.string key, .int .i64 kind, .slice auA auN auc, .slice edA edN edc, .string ti, .string co, .string pu, .int .i64 y, .int .i64 m, .int .i64 d, .bool ci, .int .i64 vol, .string pa, .string cr] 58) = w1 at X1 k1 R1 l1 y1 s1 g1 ⊢
              generalize wr.heap.size = bx at *
              have HV := Lib.hid (fun w' (hk : Below w1.heap.size w1 w') => isValidE_any key kind auA auN auc auL edA edN edc edL ti co pu y m d ci vol pa cr w' (R1.out.below hk) HSz.out)
              rw [HOK.out] at HV
              have HSt : Hid (∀ W, Kept w1 W → (W.cell? ⟨bx, 0, none⟩ = some (.string key) ∧ W.cell? ⟨bx, 1, none⟩ = some (.int .i64 kind) ∧ W.cell? ⟨bx, 2, none⟩ = some (.slice auA auN auc) ∧ W.cell? ⟨bx, 3, none⟩ = some (.slice edA edN edc) ∧ W.cell? ⟨bx, 4, none⟩ = some (.string ti) ∧ W.cell? ⟨bx, 5, none⟩ = some (.string co) ∧ W.cell? ⟨bx, 6, none⟩ = some (.string pu) ∧ W.cell? ⟨bx, 7, none⟩ = some (.int .i64 y) ∧ W.cell? ⟨bx, 8, none⟩ = some (.int .i64 m) ∧ W.cell? ⟨bx, 9, none⟩ = some (.int .i64 d) ∧ W.cell? ⟨bx, 10, none⟩ = some (.bool ci) ∧ W.cell? ⟨bx, 11, none⟩ = some (.int .i64 vol) ∧ W.cell? ⟨bx, 12, none⟩ = some (.string pa) ∧ W.cell? ⟨bx, 13, none⟩ = some (.string cr) ∧ W.cell? ⟨w.heap.size, 0, none⟩ = some (.slice (some ⟨g, o, none⟩) N c) ∧ W.cell? ⟨g, o + j * 14, none⟩ = some (.string yk) ∧ Kept w1 W)) := Lib.hid (fun W h => by
                obtain ⟨_, c0, c1, c2, c3, c4, c5, c6, c7, c8, c9, c10, c11, c12, c13⟩ := X1.out.below h
                exact ⟨c0, c1, c2, c3, c4, c5, c6, c7, c8, c9, c10, c11, c12, c13, (h.cell (p := ⟨w.heap.size, 0, none⟩) s1).trans l1, (h.cell (p := ⟨g, o + j * 14, none⟩) g1).trans y1, h⟩)
              have HK0 := Lib.hid (Kept.drew w1)
              obtain ⟨_, c0, c1, c2, c3, c4, c5, c6, c7, c8, c9, c10, c11, c12, c13⟩ := X1.out
              dsimp only at c0 c1 c2 c3 c4 c5 c6 c7 c8 c9 c10 c11 c12 c13
              go_wp2_with fail
              refine wp_region_held_drew (S := fun W => W.cell? ⟨bx, 0, none⟩ = some (.string key) ∧ W.cell? ⟨bx, 1, none⟩ = some (.int .i64 kind) ∧ W.cell? ⟨bx, 2, none⟩ = some (.slice auA auN auc) ∧ W.cell? ⟨bx, 3, none⟩ = some (.slice edA edN edc) ∧ W.cell? ⟨bx, 4, none⟩ = some (.string ti) ∧ W.cell? ⟨bx, 5, none⟩ = some (.string co) ∧ W.cell? ⟨bx, 6, none⟩ = some (.string pu) ∧ W.cell? ⟨bx, 7, none⟩ = some (.int .i64 y) ∧ W.cell? ⟨bx, 8, none⟩ = some (.int .i64 m) ∧ W.cell? ⟨bx, 9, none⟩ = some (.int .i64 d) ∧ W.cell? ⟨bx, 10, none⟩ = some (.bool ci) ∧ W.cell? ⟨bx, 11, none⟩ = some (.int .i64 vol) ∧ W.cell? ⟨bx, 12, none⟩ = some (.string pa) ∧ W.cell? ⟨bx, 13, none⟩ = some (.string cr) ∧ W.cell? ⟨w.heap.size, 0, none⟩ = some (.slice (some ⟨g, o, none⟩) N c) ∧ W.cell? ⟨g, o + j * 14, none⟩ = some (.string yk) ∧ Kept w1 W) (by kernel_rfl) (HSt.out _ HK0.out) (fun hHeld => ?_)
              refine Held.takeL (i := 0) (v := ?_) rfl (by kernel_rfl) (by kernel_rfl) (by kernel_rfl) (fun _ _ _ h => h) (Or.inl ⟨by rfl, ?_⟩) (by assumption) ?_
              rotate_left
              · intro W hSw
                (try dsimp only at hSw)
                go_simp
                try (with_reducible rfl)
              try simp only [Act.put, List.setIfInBounds_toArray, List.set_cons_zero, List.set_cons_succ]
              refine Held.callL (i := 1) rfl (by kernel_rfl) (by rfl) (fun K hK => ?_)
              try go_simp
              go_at_call 51
              refine (HV.out _ HK0.out).mono ?_
              rintro e w2 ⟨rfl, b2⟩
              have hk2 : Kept w1 w2 := Kept.next HK0.out b2
              try go_wp2_with fail
              refine hK.out _ _ ?_ (fun hHeld => ?_)
              · exact HSt.out _ hk2
              clear hK K
              try simp only [Act.put, List.setIfInBounds_toArray, List.set_cons_zero, List.set_cons_succ]
              refine Held.takeL (i := 2) (v := ?_) rfl (by kernel_rfl) (by kernel_rfl) (by kernel_rfl) (fun _ _ _ h => h) (Or.inl ⟨by rfl, ?_⟩) (by assumption) ?_
              rotate_left
              · intro W hSw
                (try dsimp only at hSw)
                go_simp
                try (with_reducible rfl)
              try simp only [Act.put, List.setIfInBounds_toArray, List.set_cons_zero, List.set_cons_succ]
              refine Held.takeL (i := 3) (v := ?_) rfl (by kernel_rfl) (by kernel_rfl) (by kernel_rfl) (fun _ _ _ h => h) (Or.inl ⟨by rfl, ?_⟩) (by assumption) ?_
              rotate_left
              · intro W hSw
                (try dsimp only at hSw)
                go_simp
                try (with_reducible rfl)
              try simp only [Act.put, List.setIfInBounds_toArray, List.set_cons_zero, List.set_cons_succ]
              refine Held.takeL (i := 4) (v := ?_) rfl (by kernel_rfl) (by kernel_rfl) (by kernel_rfl) (fun _ _ _ h => h) (Or.inl ⟨by rfl, ?_⟩) (by assumption) ?_
              rotate_left
              · intro W hSw
                (try dsimp only at hSw)
                go_simp
                try (with_reducible rfl)
              try simp only [Act.put, List.setIfInBounds_toArray, List.set_cons_zero, List.set_cons_succ]
              refine Held.takeL (i := 5) (v := ?_) rfl (by kernel_rfl) (by kernel_rfl) (by kernel_rfl) (fun _ _ _ h => h) (Or.inl ⟨by rfl, ?_⟩) (by assumption) ?_
              rotate_left
              · intro W hSw
                (try dsimp only at hSw)
                go_simp
                try (with_reducible rfl)
              try simp only [Act.put, List.setIfInBounds_toArray, List.set_cons_zero, List.set_cons_succ]
              refine Held.takeL (i := 6) (v := ?_) rfl (by kernel_rfl) (by kernel_rfl) (by kernel_rfl) (fun _ _ _ h => h) (Or.inl ⟨by rfl, ?_⟩) (by assumption) ?_
              rotate_left
              · intro W hSw
                (try dsimp only at hSw)
                go_simp
                try (with_reducible rfl)
              try simp only [Act.put, List.setIfInBounds_toArray, List.set_cons_zero, List.set_cons_succ]
              refine Held.takeL (i := 7) (v := ?_) rfl (by kernel_rfl) (by kernel_rfl) (by kernel_rfl) (fun _ _ _ h => h) (Or.inl ⟨by rfl, ?_⟩) (by assumption) ?_
              rotate_left
              · intro W hSw
                (try dsimp only at hSw)
                go_simp
                try (with_reducible rfl)
              try simp only [Act.put, List.setIfInBounds_toArray, List.set_cons_zero, List.set_cons_succ]
              refine Held.takeL (i := 8) (v := ?_) rfl (by kernel_rfl) (by kernel_rfl) (by kernel_rfl) (fun _ _ _ h => h) (Or.inl ⟨by rfl, ?_⟩) (by assumption) ?_
              rotate_left
              · intro W hSw
                (try dsimp only at hSw)
                go_simp
                try (with_reducible rfl)
              try simp only [Act.put, List.setIfInBounds_toArray, List.set_cons_zero, List.set_cons_succ]
              refine Held.takeL (i := 9) (v := ?_) rfl (by kernel_rfl) (by kernel_rfl) (by kernel_rfl) (fun _ _ _ h => h) (Or.inl ⟨by rfl, ?_⟩) (by assumption) ?_
              rotate_left
              · intro W hSw
                (try dsimp only at hSw)
                go_simp
                try (with_reducible rfl)
              try simp only [Act.put, List.setIfInBounds_toArray, List.set_cons_zero, List.set_cons_succ]
              refine Held.takeL (i := 10) (v := ?_) rfl (by kernel_rfl) (by kernel_rfl) (by kernel_rfl) (fun _ _ _ h => h) (Or.inl ⟨by rfl, ?_⟩) (by assumption) ?_
              rotate_left
              · intro W hSw
                (try dsimp only at hSw)
                go_simp
                try (with_reducible rfl)
              try simp only [Act.put, List.setIfInBounds_toArray, List.set_cons_zero, List.set_cons_succ]
              refine Held.takeL (i := 11) (v := ?_) rfl (by kernel_rfl) (by kernel_rfl) (by kernel_rfl) (fun _ _ _ h => h) (Or.inl ⟨by rfl, ?_⟩) (by assumption) ?_
              rotate_left
              · intro W hSw
                (try dsimp only at hSw)
                go_simp
                try (with_reducible rfl)
              try simp only [Act.put, List.setIfInBounds_toArray, List.set_cons_zero, List.set_cons_succ]
              refine Held.takeL (i := 12) (v := ?_) rfl (by kernel_rfl) (by kernel_rfl) (by kernel_rfl) (fun _ _ _ h => h) (Or.inl ⟨by rfl, ?_⟩) (by assumption) ?_
              rotate_left
              · intro W hSw
                (try dsimp only at hSw)
                go_simp
                try (with_reducible rfl)
              try simp only [Act.put, List.setIfInBounds_toArray, List.set_cons_zero, List.set_cons_succ]
              refine Held.takeL (i := 13) (v := ?_) rfl (by kernel_rfl) (by kernel_rfl) (by kernel_rfl) (fun _ _ _ h => h) (Or.inl ⟨by rfl, ?_⟩) (by assumption) ?_
              rotate_left
              · intro W hSw
                (try dsimp only at hSw)
                go_simp
                try (with_reducible rfl)
              try simp only [Act.put, List.setIfInBounds_toArray, List.set_cons_zero, List.set_cons_succ]
              refine Held.takeL (i := 14) (v := ?_) rfl (by kernel_rfl) (by kernel_rfl) (by kernel_rfl) (fun _ _ _ h => h) (Or.inl ⟨by rfl, ?_⟩) (by assumption) ?_
              rotate_left
              · intro W hSw
                (try dsimp only at hSw)
                go_simp
                try (with_reducible rfl)
              try simp only [Act.put, List.setIfInBounds_toArray, List.set_cons_zero, List.set_cons_succ]
              refine Held.takeL (i := 15) (v := ?_) rfl (by kernel_rfl) (by kernel_rfl) (by kernel_rfl) (fun _ _ _ h => h) (Or.inl ⟨by rfl, ?_⟩) (by assumption) ?_
              rotate_left
              · intro W hSw
                (try dsimp only at hSw)
                go_simp
                try (with_reducible rfl)
              try simp only [Act.put, List.setIfInBounds_toArray, List.set_cons_zero, List.set_cons_succ]
              refine Held.callL (i := 16) rfl (by kernel_rfl) (by rfl) (fun K hK => ?_)
              try go_simp
              go_at_call 52
              refine (less_b yk key false _ HLt.out).mono ?_
              rintro e w3 ⟨rfl, rfl⟩
              try go_wp2_with fail
              refine hK.out _ _ ?_ (fun hHeld => ?_)
              · exact HSt.out _ hk2
              clear hK K
              try simp only [Act.put, List.setIfInBounds_toArray, List.set_cons_zero, List.set_cons_succ]
              refine Held.takeL (i := 17) (v := ?_) rfl (by kernel_rfl) (by kernel_rfl) (by kernel_rfl) (fun _ _ _ h => h) (Or.inl ⟨by rfl, ?_⟩) (by assumption) ?_
              rotate_left
              · intro W hSw
                (try dsimp only at hSw)
                go_simp
                try (with_reducible rfl)
              try simp only [Act.put, List.setIfInBounds_toArray, List.set_cons_zero, List.set_cons_succ]
              refine Held.takeL (i := 18) (v := ?_) rfl (by kernel_rfl) (by kernel_rfl) (by kernel_rfl) (fun _ _ _ h => h) (Or.inl ⟨by rfl, ?_⟩) (by assumption) ?_
              rotate_left
              · intro W hSw
                (try dsimp only at hSw)
                go_simp
                try (with_reducible rfl)
              try simp only [Act.put, List.setIfInBounds_toArray, List.set_cons_zero, List.set_cons_succ]
              refine Held.takeL (i := 19) (v := ?_) rfl (by kernel_rfl) (by kernel_rfl) (by kernel_rfl) (fun _ _ _ h => h) (Or.inl ⟨by rfl, ?_⟩) (by assumption) ?_
              rotate_left
              · intro W hSw
                (try dsimp only at hSw)
                go_simp
                try (with_reducible rfl)
              try simp only [Act.put, List.setIfInBounds_toArray, List.set_cons_zero, List.set_cons_succ]
              refine wpAnyH_done (by kernel_rfl) ?_ _
              have k2 := k1.trans (Below.mono hk2 k1.size)
              have l2 := (hk2.cell (p := ⟨w.heap.size, 0, none⟩) s1).trans l1
              have s2 : w.heap.size < w2.heap.size := Nat.lt_of_lt_of_le s1 hk2.size
              clear HSt HK0 hk2 HV X1 R1 l1 s1 g1 y1 k1 c0 c1 c2 c3 c4 c5 c6 c7 c8 c9 c10 c11 c12 c13
              (try clear hHeld)
              go_wp2_with fail
              go_ret
              exact ⟨by rw [HF.out]; rfl, k2⟩
            | true =>
              have HLt := Lib.hid hlt2
              have HN : Hid (goL (prevK L (k + 1)) (L.drop (k + 1)) = goL none L) := Lib.hid (by rw [← HD.out, HGo.out, hok, HPp.out, HPs.out]; simp [hlt2])
              clear hok hlt2
              go_upto_region 6 with fail
              have B1 := (Below.refl _ wr).alloc (Nat.le_refl _) (.cells #[.string key, .int .i64 kind, .slice auA auN auc, .slice edA edN edc, .string ti, .string co, .string pu, .int .i64 y, .int .i64 m, .int .i64 d, .bool ci, .int .i64 vol, .string pa, .string cr] 58)
              have X1 := Lib.hid (E14.new wr (⟨key, kind, auA, auN, auc, auL, edA, edN, edc, edL, ti, co, pu, y, m, d, ci, vol, pa, cr⟩ : En) 58)
              have k1 := hb.trans (B1.mono hb.size)
              have R1 := Lib.hid (HR.out.below B1)
              have l1 := (B1.cell (p := ⟨w.heap.size, 0, none⟩) hsz).trans hl0
              have y1 := (B1.cell (p := ⟨g, o + j * 14, none⟩) hg).trans hy0
              have s1 : w.heap.size < (wr.alloc (.cells #[.string key, .int .i64 kind, .slice auA auN auc, .slice edA edN edc, .string ti, .string co, .string pu, .int .i64 y, .int .i64 m, .int .i64 d, .bool ci, .int .i64 vol, .string pa, .string cr] 58)).heap.size := Nat.lt_of_lt_of_le hsz B1.size
              have g1 : g < (wr.alloc (.cells #[.string key, .int .i64 kind, .slice auA auN auc, .slice edA edN edc, .string ti, .string co, .string pu, .int .i64 y, .int .i64 m, .int .i64 d, .bool ci, .int .i64 vol, .string pa, .string cr] 58)).heap.size := Nat.lt_of_lt_of_le hg B1.size
              clear B1 HR hl0 hy0 hsz hg hb c0 c1 c2 c3 c4 c5 c6 c7 c8 c9 c10 c11 c12 c13
              generalize wr.alloc (.cells #[.string key, .int .i64 kind, .slice auA auN auc, .slice edA edN edc, .string ti, .string co, .string pu, .int .i64 y, .int .i64 m, .int .i64 d, .bool ci, .int .i64 vol, .string pa, .string cr] 58) = w1 at X1 k1 R1 l1 y1 s1 g1 ⊢
              generalize wr.heap.size = bx at *
              have HV := Lib.hid (fun w' (hk : Below w1.heap.size w1 w') => isValidE_any key kind auA auN auc auL edA edN edc edL ti co pu y m d ci vol pa cr w' (R1.out.below hk) HSz.out)
              rw [HOK.out] at HV
              have HSt : Hid (∀ W, Kept w1 W → (W.cell? ⟨bx, 0, none⟩ = some (.string key) ∧ W.cell? ⟨bx, 1, none⟩ = some (.int .i64 kind) ∧ W.cell? ⟨bx, 2, none⟩ = some (.slice auA auN auc) ∧ W.cell? ⟨bx, 3, none⟩ = some (.slice edA edN edc) ∧ W.cell? ⟨bx, 4, none⟩ = some (.string ti) ∧ W.cell? ⟨bx, 5, none⟩ = some (.string co) ∧ W.cell? ⟨bx, 6, none⟩ = some (.string pu) ∧ W.cell? ⟨bx, 7, none⟩ = some (.int .i64 y) ∧ W.cell? ⟨bx, 8, none⟩ = some (.int .i64 m) ∧ W.cell? ⟨bx, 9, none⟩ = some (.int .i64 d) ∧ W.cell? ⟨bx, 10, none⟩ = some (.bool ci) ∧ W.cell? ⟨bx, 11, none⟩ = some (.int .i64 vol) ∧ W.cell? ⟨bx, 12, none⟩ = some (.string pa) ∧ W.cell? ⟨bx, 13, none⟩ = some (.string cr) ∧ W.cell? ⟨w.heap.size, 0, none⟩ = some (.slice (some ⟨g, o, none⟩) N c) ∧ W.cell? ⟨g, o + j * 14, none⟩ = some (.string yk) ∧ Kept w1 W)) := Lib.hid (fun W h => by
                obtain ⟨_, c0, c1, c2, c3, c4, c5, c6, c7, c8, c9, c10, c11, c12, c13⟩ := X1.out.below h
                exact ⟨c0, c1, c2, c3, c4, c5, c6, c7, c8, c9, c10, c11, c12, c13, (h.cell (p := ⟨w.heap.size, 0, none⟩) s1).trans l1, (h.cell (p := ⟨g, o + j * 14, none⟩) g1).trans y1, h⟩)
              have HK0 := Lib.hid (Kept.drew w1)
              obtain ⟨_, c0, c1, c2, c3, c4, c5, c6, c7, c8, c9, c10, c11, c12, c13⟩ := X1.out
              dsimp only at c0 c1 c2 c3 c4 c5 c6 c7 c8 c9 c10 c11 c12 c13
              go_wp2_with fail
              refine wp_region_held_drew (S := fun W => W.cell? ⟨bx, 0, none⟩ = some (.string key) ∧ W.cell? ⟨bx, 1, none⟩ = some (.int .i64 kind) ∧ W.cell? ⟨bx, 2, none⟩ = some (.slice auA auN auc) ∧ W.cell? ⟨bx, 3, none⟩ = some (.slice edA edN edc) ∧ W.cell? ⟨bx, 4, none⟩ = some (.string ti) ∧ W.cell? ⟨bx, 5, none⟩ = some (.string co) ∧ W.cell? ⟨bx, 6, none⟩ = some (.string pu) ∧ W.cell? ⟨bx, 7, none⟩ = some (.int .i64 y) ∧ W.cell? ⟨bx, 8, none⟩ = some (.int .i64 m) ∧ W.cell? ⟨bx, 9, none⟩ = some (.int .i64 d) ∧ W.cell? ⟨bx, 10, none⟩ = some (.bool ci) ∧ W.cell? ⟨bx, 11, none⟩ = some (.int .i64 vol) ∧ W.cell? ⟨bx, 12, none⟩ = some (.string pa) ∧ W.cell? ⟨bx, 13, none⟩ = some (.string cr) ∧ W.cell? ⟨w.heap.size, 0, none⟩ = some (.slice (some ⟨g, o, none⟩) N c) ∧ W.cell? ⟨g, o + j * 14, none⟩ = some (.string yk) ∧ Kept w1 W) (by kernel_rfl) (HSt.out _ HK0.out) (fun hHeld => ?_)
              refine Held.takeL (i := 0) (v := ?_) rfl (by kernel_rfl) (by kernel_rfl) (by kernel_rfl) (fun _ _ _ h => h) (Or.inl ⟨by rfl, ?_⟩) (by assumption) ?_
              rotate_left
              · intro W hSw
                (try dsimp only at hSw)
                go_simp
                try (with_reducible rfl)
              try simp only [Act.put, List.setIfInBounds_toArray, List.set_cons_zero, List.set_cons_succ]
              refine Held.callL (i := 1) rfl (by kernel_rfl) (by rfl) (fun K hK => ?_)
              try go_simp
              go_at_call 51
              refine (HV.out _ HK0.out).mono ?_
              rintro e w2 ⟨rfl, b2⟩
              have hk2 : Kept w1 w2 := Kept.next HK0.out b2
              try go_wp2_with fail
              refine hK.out _ _ ?_ (fun hHeld => ?_)
              · exact HSt.out _ hk2
              clear hK K
              try simp only [Act.put, List.setIfInBounds_toArray, List.set_cons_zero, List.set_cons_succ]
              refine Held.takeL (i := 2) (v := ?_) rfl (by kernel_rfl) (by kernel_rfl) (by kernel_rfl) (fun _ _ _ h => h) (Or.inl ⟨by rfl, ?_⟩) (by assumption) ?_
              rotate_left
              · intro W hSw
                (try dsimp only at hSw)
                go_simp
                try (with_reducible rfl)
              try simp only [Act.put, List.setIfInBounds_toArray, List.set_cons_zero, List.set_cons_succ]
              refine Held.takeL (i := 3) (v := ?_) rfl (by kernel_rfl) (by kernel_rfl) (by kernel_rfl) (fun _ _ _ h => h) (Or.inl ⟨by rfl, ?_⟩) (by assumption) ?_
              rotate_left
              · intro W hSw
                (try dsimp only at hSw)
                go_simp
                try (with_reducible rfl)
              try simp only [Act.put, List.setIfInBounds_toArray, List.set_cons_zero, List.set_cons_succ]
              refine Held.takeL (i := 4) (v := ?_) rfl (by kernel_rfl) (by kernel_rfl) (by kernel_rfl) (fun _ _ _ h => h) (Or.inl ⟨by rfl, ?_⟩) (by assumption) ?_
              rotate_left
              · intro W hSw
                (try dsimp only at hSw)
                go_simp
                try (with_reducible rfl)
              try simp only [Act.put, List.setIfInBounds_toArray, List.set_cons_zero, List.set_cons_succ]
              refine Held.takeL (i := 5) (v := ?_) rfl (by kernel_rfl) (by kernel_rfl) (by kernel_rfl) (fun _ _ _ h => h) (Or.inl ⟨by rfl, ?_⟩) (by assumption) ?_
              rotate_left
              · intro W hSw
                (try dsimp only at hSw)
                go_simp
                try (with_reducible rfl)
              try simp only [Act.put, List.setIfInBounds_toArray, List.set_cons_zero, List.set_cons_succ]
              refine Held.takeL (i := 6) (v := ?_) rfl (by kernel_rfl) (by kernel_rfl) (by kernel_rfl) (fun _ _ _ h => h) (Or.inl ⟨by rfl, ?_⟩) (by assumption) ?_
              rotate_left
              · intro W hSw
                (try dsimp only at hSw)
                go_simp
                try (with_reducible rfl)
              try simp only [Act.put, List.setIfInBounds_toArray, List.set_cons_zero, List.set_cons_succ]
              refine Held.takeL (i := 7) (v := ?_) rfl (by kernel_rfl) (by kernel_rfl) (by kernel_rfl) (fun _ _ _ h => h) (Or.inl ⟨by rfl, ?_⟩) (by assumption) ?_
              rotate_left
              · intro W hSw
                (try dsimp only at hSw)
                go_simp
                try (with_reducible rfl)
              try simp only [Act.put, List.setIfInBounds_toArray, List.set_cons_zero, List.set_cons_succ]
              refine Held.takeL (i := 8) (v := ?_) rfl (by kernel_rfl) (by kernel_rfl) (by kernel_rfl) (fun _ _ _ h => h) (Or.inl ⟨by rfl, ?_⟩) (by assumption) ?_
              rotate_left
              · intro W hSw
                (try dsimp only at hSw)
                go_simp
                try (with_reducible rfl)
              try simp only [Act.put, List.setIfInBounds_toArray, List.set_cons_zero, List.set_cons_succ]
              refine Held.takeL (i := 9) (v := ?_) rfl (by kernel_rfl) (by kernel_rfl) (by kernel_rfl) (fun _ _ _ h => h) (Or.inl ⟨by rfl, ?_⟩) (by assumption) ?_
              rotate_left
              · intro W hSw
                (try dsimp only at hSw)
                go_simp
                try (with_reducible rfl)
              try simp only [Act.put, List.setIfInBounds_toArray, List.set_cons_zero, List.set_cons_succ]
              refine Held.takeL (i := 10) (v := ?_) rfl (by kernel_rfl) (by kernel_rfl) (by kernel_rfl) (fun _ _ _ h => h) (Or.inl ⟨by rfl, ?_⟩) (by assumption) ?_
              rotate_left
              · intro W hSw
                (try dsimp only at hSw)
                go_simp
                try (with_reducible rfl)
              try simp only [Act.put, List.setIfInBounds_toArray, List.set_cons_zero, List.set_cons_succ]
              refine Held.takeL (i := 11) (v := ?_) rfl (by kernel_rfl) (by kernel_rfl) (by kernel_rfl) (fun _ _ _ h => h) (Or.inl ⟨by rfl, ?_⟩) (by assumption) ?_
              rotate_left
              · intro W hSw
                (try dsimp only at hSw)
                go_simp
                try (with_reducible rfl)
              try simp only [Act.put, List.setIfInBounds_toArray, List.set_cons_zero, List.set_cons_succ]
              refine Held.takeL (i := 12) (v := ?_) rfl (by kernel_rfl) (by kernel_rfl) (by kernel_rfl) (fun _ _ _ h => h) (Or.inl ⟨by rfl, ?_⟩) (by assumption) ?_
              rotate_left
              · intro W hSw
                (try dsimp only at hSw)
                go_simp
                try (with_reducible rfl)
              try simp only [Act.put, List.setIfInBounds_toArray, List.set_cons_zero, List.set_cons_succ]
              refine Held.takeL (i := 13) (v := ?_) rfl (by kernel_rfl) (by kernel_rfl) (by kernel_rfl) (fun _ _ _ h => h) (Or.inl ⟨by rfl, ?_⟩) (by assumption) ?_
              rotate_left
              · intro W hSw
                (try dsimp only at hSw)
                go_simp
                try (with_reducible rfl)
              try simp only [Act.put, List.setIfInBounds_toArray, List.set_cons_zero, List.set_cons_succ]
              refine Held.takeL (i := 14) (v := ?_) rfl (by kernel_rfl) (by kernel_rfl) (by kernel_rfl) (fun _ _ _ h => h) (Or.inl ⟨by rfl, ?_⟩) (by assumption) ?_
              rotate_left
              · intro W hSw
                (try dsimp only at hSw)
                go_simp
                try (with_reducible rfl)
              try simp only [Act.put, List.setIfInBounds_toArray, List.set_cons_zero, List.set_cons_succ]
              refine Held.takeL (i := 15) (v := ?_) rfl (by kernel_rfl) (by kernel_rfl) (by kernel_rfl) (fun _ _ _ h => h) (Or.inl ⟨by rfl, ?_⟩) (by assumption) ?_
              rotate_left
              · intro W hSw
                (try dsimp only at hSw)
                go_simp
                try (with_reducible rfl)
              try simp only [Act.put, List.setIfInBounds_toArray, List.set_cons_zero, List.set_cons_succ]
              refine Held.callL (i := 16) rfl (by kernel_rfl) (by rfl) (fun K hK => ?_)
              try go_simp
              go_at_call 52
              refine (less_b yk key true _ HLt.out).mono ?_
              rintro e w3 ⟨rfl, rfl⟩
              try go_wp2_with fail
              refine hK.out _ _ ?_ (fun hHeld => ?_)
              · exact HSt.out _ hk2
              clear hK K
              try simp only [Act.put, List.setIfInBounds_toArray, List.set_cons_zero, List.set_cons_succ]
              refine Held.takeL (i := 17) (v := ?_) rfl (by kernel_rfl) (by kernel_rfl) (by kernel_rfl) (fun _ _ _ h => h) (Or.inl ⟨by rfl, ?_⟩) (by assumption) ?_
              rotate_left
              · intro W hSw
                (try dsimp only at hSw)
                go_simp
                try (with_reducible rfl)
              try simp only [Act.put, List.setIfInBounds_toArray, List.set_cons_zero, List.set_cons_succ]
              refine Held.takeL (i := 18) (v := ?_) rfl (by kernel_rfl) (by kernel_rfl) (by kernel_rfl) (fun _ _ _ h => h) (Or.inl ⟨by rfl, ?_⟩) (by assumption) ?_
              rotate_left
              · intro W hSw
                (try dsimp only at hSw)
                go_simp
                try (with_reducible rfl)
              try simp only [Act.put, List.setIfInBounds_toArray, List.set_cons_zero, List.set_cons_succ]
              refine Held.takeL (i := 19) (v := ?_) rfl (by kernel_rfl) (by kernel_rfl) (by kernel_rfl) (fun _ _ _ h => h) (Or.inl ⟨by rfl, ?_⟩) (by assumption) ?_
              rotate_left
              · intro W hSw
                (try dsimp only at hSw)
                go_simp
                try (with_reducible rfl)
              try simp only [Act.put, List.setIfInBounds_toArray, List.set_cons_zero, List.set_cons_succ]
              refine wpAnyH_done (by kernel_rfl) ?_ _
              have k2 := k1.trans (Below.mono hk2 k1.size)
              have l2 := (hk2.cell (p := ⟨w.heap.size, 0, none⟩) s1).trans l1
              have s2 : w.heap.size < w2.heap.size := Nat.lt_of_lt_of_le s1 hk2.size
              clear HSt HK0 hk2 HV X1 R1 l1 s1 g1 y1 k1 c0 c1 c2 c3 c4 c5 c6 c7 c8 c9 c10 c11 c12 c13
              (try clear hHeld)
              go_wp2_with fail
              go_roundw
              case rel => exact ⟨k + 1, by omega, by go_num, HN, k2, l2, s2⟩
              case measure => simp [intOf]; omega
        · have hkd : decide (0 < (k : Int)) = false := by simp; omega
          have HPz : Hid (prevK L k = none) := Lib.hid (by have e : k = 0 := by omega
                                                           rw [e]; rfl)
          generalize L[k] = ex at *
          obtain ⟨key, kind, auA, auN, auc, auL, edA, edN, edc, edL, ti, co, pu, y, m, d, ci, vol, pa, cr⟩ := ex
          dsimp only at c0 c1 c2 c3 c4 c5 c6 c7 c8 c9 c10 c11 c12 c13 HPs
          have HR := Lib.hid hr
          clear hr hx?
          cases hok : okE (⟨key, kind, auA, auN, auc, auL, edA, edN, edc, edL, ti, co, pu, y, m, d, ci, vol, pa, cr⟩ : En) with
          | false =>
            have HOK := Lib.hid hok
            have HF : Hid (okLib L = false) := Lib.hid (by rw [HE.out, ← HD.out, HGo.out, hok]; simp)
            clear hok
            go_upto_region 6 with fail
            have B1 := (Below.refl _ wr).alloc (Nat.le_refl _) (.cells #[.string key, .int .i64 kind, .slice auA auN auc, .slice edA edN edc, .string ti, .string co, .string pu, .int .i64 y, .int .i64 m, .int .i64 d, .bool ci, .int .i64 vol, .string pa, .string cr] 58)
            have X1 := Lib.hid (E14.new wr (⟨key, kind, auA, auN, auc, auL, edA, edN, edc, edL, ti, co, pu, y, m, d, ci, vol, pa, cr⟩ : En) 58)
            have k1 := hb.trans (B1.mono hb.size)
            have R1 := Lib.hid (HR.out.below B1)
            have l1 := (B1.cell (p := ⟨w.heap.size, 0, none⟩) hsz).trans hl0

            have s1 : w.heap.size < (wr.alloc (.cells #[.string key, .int .i64 kind, .slice auA auN auc, .slice edA edN edc, .string ti, .string co, .string pu, .int .i64 y, .int .i64 m, .int .i64 d, .bool ci, .int .i64 vol, .string pa, .string cr] 58)).heap.size := Nat.lt_of_lt_of_le hsz B1.size
            have g1 : g < (wr.alloc (.cells #[.string key, .int .i64 kind, .slice auA auN auc, .slice edA edN edc, .string ti, .string co, .string pu, .int .i64 y, .int .i64 m, .int .i64 d, .bool ci, .int .i64 vol, .string pa, .string cr] 58)).heap.size := Nat.lt_of_lt_of_le hg B1.size
            clear B1 HR hl0  hsz hg hb c0 c1 c2 c3 c4 c5 c6 c7 c8 c9 c10 c11 c12 c13
            generalize wr.alloc (.cells #[.string key, .int .i64 kind, .slice auA auN auc, .slice edA edN edc, .string ti, .string co, .string pu, .int .i64 y, .int .i64 m, .int .i64 d, .bool ci, .int .i64 vol, .string pa, .string cr] 58) = w1 at X1 k1 R1 l1  s1 g1 ⊢
            generalize wr.heap.size = bx at *
            have HV := Lib.hid (fun w' (hk : Below w1.heap.size w1 w') => isValidE_any key kind auA auN auc auL edA edN edc edL ti co pu y m d ci vol pa cr w' (R1.out.below hk) HSz.out)
            rw [HOK.out] at HV
            have HSt : Hid (∀ W, Kept w1 W → (W.cell? ⟨bx, 0, none⟩ = some (.string key) ∧ W.cell? ⟨bx, 1, none⟩ = some (.int .i64 kind) ∧ W.cell? ⟨bx, 2, none⟩ = some (.slice auA auN auc) ∧ W.cell? ⟨bx, 3, none⟩ = some (.slice edA edN edc) ∧ W.cell? ⟨bx, 4, none⟩ = some (.string ti) ∧ W.cell? ⟨bx, 5, none⟩ = some (.string co) ∧ W.cell? ⟨bx, 6, none⟩ = some (.string pu) ∧ W.cell? ⟨bx, 7, none⟩ = some (.int .i64 y) ∧ W.cell? ⟨bx, 8, none⟩ = some (.int .i64 m) ∧ W.cell? ⟨bx, 9, none⟩ = some (.int .i64 d) ∧ W.cell? ⟨bx, 10, none⟩ = some (.bool ci) ∧ W.cell? ⟨bx, 11, none⟩ = some (.int .i64 vol) ∧ W.cell? ⟨bx, 12, none⟩ = some (.string pa) ∧ W.cell? ⟨bx, 13, none⟩ = some (.string cr) ∧ W.cell? ⟨w.heap.size, 0, none⟩ = some (.slice (some ⟨g, o, none⟩) N c) ∧ Kept w1 W)) := Lib.hid (fun W h => by
              obtain ⟨_, c0, c1, c2, c3, c4, c5, c6, c7, c8, c9, c10, c11, c12, c13⟩ := X1.out.below h
              exact ⟨c0, c1, c2, c3, c4, c5, c6, c7, c8, c9, c10, c11, c12, c13, (h.cell (p := ⟨w.heap.size, 0, none⟩) s1).trans l1, h⟩)
            have HK0 := Lib.hid (Kept.drew w1)
            obtain ⟨_, c0, c1, c2, c3, c4, c5, c6, c7, c8, c9, c10, c11, c12, c13⟩ := X1.out
            dsimp only at c0 c1 c2 c3 c4 c5 c6 c7 c8 c9 c10 c11 c12 c13
            go_wp2_with fail
            refine wp_region_held_drew (S := fun W => W.cell? ⟨bx, 0, none⟩ = some (.string key) ∧ W.cell? ⟨bx, 1, none⟩ = some (.int .i64 kind) ∧ W.cell? ⟨bx, 2, none⟩ = some (.slice auA auN auc) ∧ W.cell? ⟨bx, 3, none⟩ = some (.slice edA edN edc) ∧ W.cell? ⟨bx, 4, none⟩ = some (.string ti) ∧ W.cell? ⟨bx, 5, none⟩ = some (.string co) ∧ W.cell? ⟨bx, 6, none⟩ = some (.string pu) ∧ W.cell? ⟨bx, 7, none⟩ = some (.int .i64 y) ∧ W.cell? ⟨bx, 8, none⟩ = some (.int .i64 m) ∧ W.cell? ⟨bx, 9, none⟩ = some (.int .i64 d) ∧ W.cell? ⟨bx, 10, none⟩ = some (.bool ci) ∧ W.cell? ⟨bx, 11, none⟩ = some (.int .i64 vol) ∧ W.cell? ⟨bx, 12, none⟩ = some (.string pa) ∧ W.cell? ⟨bx, 13, none⟩ = some (.string cr) ∧ W.cell? ⟨w.heap.size, 0, none⟩ = some (.slice (some ⟨g, o, none⟩) N c) ∧ Kept w1 W) (by kernel_rfl) (HSt.out _ HK0.out) (fun hHeld => ?_)
            refine Held.takeL (i := 0) (v := ?_) rfl (by kernel_rfl) (by kernel_rfl) (by kernel_rfl) (fun _ _ _ h => h) (Or.inl ⟨by rfl, ?_⟩) (by assumption) ?_
            rotate_left
            · intro W hSw
              (try dsimp only at hSw)
              go_simp
              try (with_reducible rfl)
            try simp only [Act.put, List.setIfInBounds_toArray, List.set_cons_zero, List.set_cons_succ]
            refine Held.callL (i := 1) rfl (by kernel_rfl) (by rfl) (fun K hK => ?_)
            try go_simp
            go_at_call 51
            refine (HV.out _ HK0.out).mono ?_
            rintro e w2 ⟨rfl, b2⟩
            have hk2 : Kept w1 w2 := Kept.next HK0.out b2
            try go_wp2_with fail
            refine hK.out _ _ ?_ (fun hHeld => ?_)
            · exact HSt.out _ hk2
            clear hK K
            try simp only [Act.put, List.setIfInBounds_toArray, List.set_cons_zero, List.set_cons_succ]
            refine Held.takeL (i := 2) (v := ?_) rfl (by kernel_rfl) (by kernel_rfl) (by kernel_rfl) (fun _ _ _ h => h) (Or.inl ⟨by rfl, ?_⟩) (by assumption) ?_
            rotate_left
            · intro W hSw
              (try dsimp only at hSw)
              go_simp
              try (with_reducible rfl)
            try simp only [Act.put, List.setIfInBounds_toArray, List.set_cons_zero, List.set_cons_succ]
            refine Held.takeL (i := 3) (v := ?_) rfl (by kernel_rfl) (by kernel_rfl) (by kernel_rfl) (fun _ _ _ h => h) (Or.inl ⟨by rfl, ?_⟩) (by assumption) ?_
            rotate_left
            · intro W hSw
              (try dsimp only at hSw)
              go_simp
              try (with_reducible rfl)
            try simp only [Act.put, List.setIfInBounds_toArray, List.set_cons_zero, List.set_cons_succ]
            refine Held.skipL (i := 4) rfl (by kernel_rfl) (by kernel_rfl) (by kernel_rfl) (fun _ _ _ h => h) (by rfl) (by assumption) ?_
            try simp only [Act.put, List.setIfInBounds_toArray, List.set_cons_zero, List.set_cons_succ]
            refine Held.skipL (i := 5) rfl (by kernel_rfl) (by kernel_rfl) (by kernel_rfl) (fun _ _ _ h => h) (by rfl) (by assumption) ?_
            try simp only [Act.put, List.setIfInBounds_toArray, List.set_cons_zero, List.set_cons_succ]
            refine Held.skipL (i := 6) rfl (by kernel_rfl) (by kernel_rfl) (by kernel_rfl) (fun _ _ _ h => h) (by rfl) (by assumption) ?_
            try simp only [Act.put, List.setIfInBounds_toArray, List.set_cons_zero, List.set_cons_succ]
            refine Held.skipL (i := 7) rfl (by kernel_rfl) (by kernel_rfl) (by kernel_rfl) (fun _ _ _ h => h) (by rfl) (by assumption) ?_
            try simp only [Act.put, List.setIfInBounds_toArray, List.set_cons_zero, List.set_cons_succ]
            refine Held.skipL (i := 8) rfl (by kernel_rfl) (by kernel_rfl) (by kernel_rfl) (fun _ _ _ h => h) (by rfl) (by assumption) ?_
            try simp only [Act.put, List.setIfInBounds_toArray, List.set_cons_zero, List.set_cons_succ]
            refine Held.skipL (i := 9) rfl (by kernel_rfl) (by kernel_rfl) (by kernel_rfl) (fun _ _ _ h => h) (by rfl) (by assumption) ?_
            try simp only [Act.put, List.setIfInBounds_toArray, List.set_cons_zero, List.set_cons_succ]
            refine Held.skipL (i := 10) rfl (by kernel_rfl) (by kernel_rfl) (by kernel_rfl) (fun _ _ _ h => h) (by rfl) (by assumption) ?_
            try simp only [Act.put, List.setIfInBounds_toArray, List.set_cons_zero, List.set_cons_succ]
            refine Held.skipL (i := 11) rfl (by kernel_rfl) (by kernel_rfl) (by kernel_rfl) (fun _ _ _ h => h) (by rfl) (by assumption) ?_
            try simp only [Act.put, List.setIfInBounds_toArray, List.set_cons_zero, List.set_cons_succ]
            refine Held.skipL (i := 12) rfl (by kernel_rfl) (by kernel_rfl) (by kernel_rfl) (fun _ _ _ h => h) (by rfl) (by assumption) ?_
            try simp only [Act.put, List.setIfInBounds_toArray, List.set_cons_zero, List.set_cons_succ]
            refine Held.skipL (i := 13) rfl (by kernel_rfl) (by kernel_rfl) (by kernel_rfl) (fun _ _ _ h => h) (by rfl) (by assumption) ?_
            try simp only [Act.put, List.setIfInBounds_toArray, List.set_cons_zero, List.set_cons_succ]
            refine Held.skipL (i := 14) rfl (by kernel_rfl) (by kernel_rfl) (by kernel_rfl) (fun _ _ _ h => h) (by rfl) (by assumption) ?_
            try simp only [Act.put, List.setIfInBounds_toArray, List.set_cons_zero, List.set_cons_succ]
            refine Held.skipL (i := 15) rfl (by kernel_rfl) (by kernel_rfl) (by kernel_rfl) (fun _ _ _ h => h) (by rfl) (by assumption) ?_
            try simp only [Act.put, List.setIfInBounds_toArray, List.set_cons_zero, List.set_cons_succ]
            refine Held.skipL (i := 16) rfl (by kernel_rfl) (by kernel_rfl) (by kernel_rfl) (fun _ _ _ h => h) (by rfl) (by assumption) ?_
            try simp only [Act.put, List.setIfInBounds_toArray, List.set_cons_zero, List.set_cons_succ]
            refine Held.skipL (i := 17) rfl (by kernel_rfl) (by kernel_rfl) (by kernel_rfl) (fun _ _ _ h => h) (by rfl) (by assumption) ?_
            try simp only [Act.put, List.setIfInBounds_toArray, List.set_cons_zero, List.set_cons_succ]
            refine Held.skipL (i := 18) rfl (by kernel_rfl) (by kernel_rfl) (by kernel_rfl) (fun _ _ _ h => h) (by rfl) (by assumption) ?_
            try simp only [Act.put, List.setIfInBounds_toArray, List.set_cons_zero, List.set_cons_succ]
            refine Held.takeL (i := 19) (v := ?_) rfl (by kernel_rfl) (by kernel_rfl) (by kernel_rfl) (fun _ _ _ h => h) (Or.inl ⟨by rfl, ?_⟩) (by assumption) ?_
            rotate_left
            · intro W hSw
              (try dsimp only at hSw)
              go_simp
              try (with_reducible rfl)
            try simp only [Act.put, List.setIfInBounds_toArray, List.set_cons_zero, List.set_cons_succ]
            refine wpAnyH_done (by kernel_rfl) ?_ _
            have k2 := k1.trans (Below.mono hk2 k1.size)
            have l2 := (hk2.cell (p := ⟨w.heap.size, 0, none⟩) s1).trans l1
            have s2 : w.heap.size < w2.heap.size := Nat.lt_of_lt_of_le s1 hk2.size
            clear HSt HK0 hk2 HV X1 R1 l1 s1 g1  k1 c0 c1 c2 c3 c4 c5 c6 c7 c8 c9 c10 c11 c12 c13
            (try clear hHeld)
            go_wp2_with fail
            go_ret
            exact ⟨by rw [HF.out]; rfl, k2⟩
          | true =>
            have HOK := Lib.hid hok
            have HN : Hid (goL (prevK L (k + 1)) (L.drop (k + 1)) = goL none L) := Lib.hid (by rw [← HD.out, HGo.out, hok, HPz.out, HPs.out]; simp)
            clear hok
            go_upto_region 6 with fail
            have B1 := (Below.refl _ wr).alloc (Nat.le_refl _) (.cells #[.string key, .int .i64 kind, .slice auA auN auc, .slice edA edN edc, .string ti, .string co, .string pu, .int .i64 y, .int .i64 m, .int .i64 d, .bool ci, .int .i64 vol, .string pa, .string cr] 58)
            have X1 := Lib.hid (E14.new wr (⟨key, kind, auA, auN, auc, auL, edA, edN, edc, edL, ti, co, pu, y, m, d, ci, vol, pa, cr⟩ : En) 58)
            have k1 := hb.trans (B1.mono hb.size)
            have R1 := Lib.hid (HR.out.below B1)
            have l1 := (B1.cell (p := ⟨w.heap.size, 0, none⟩) hsz).trans hl0

            have s1 : w.heap.size < (wr.alloc (.cells #[.string key, .int .i64 kind, .slice auA auN auc, .slice edA edN edc, .string ti, .string co, .string pu, .int .i64 y, .int .i64 m, .int .i64 d, .bool ci, .int .i64 vol, .string pa, .string cr] 58)).heap.size := Nat.lt_of_lt_of_le hsz B1.size
            have g1 : g < (wr.alloc (.cells #[.string key, .int .i64 kind, .slice auA auN auc, .slice edA edN edc, .string ti, .string co, .string pu, .int .i64 y, .int .i64 m, .int .i64 d, .bool ci, .int .i64 vol, .string pa, .string cr] 58)).heap.size := Nat.lt_of_lt_of_le hg B1.size
            clear B1 HR hl0  hsz hg hb c0 c1 c2 c3 c4 c5 c6 c7 c8 c9 c10 c11 c12 c13
            generalize wr.alloc (.cells #[.string key, .int .i64 kind, .slice auA auN auc, .slice edA edN edc, .string ti, .string co, .string pu, .int .i64 y, .int .i64 m, .int .i64 d, .bool ci, .int .i64 vol, .string pa, .string cr] 58) = w1 at X1 k1 R1 l1  s1 g1 ⊢
            generalize wr.heap.size = bx at *
            have HV := Lib.hid (fun w' (hk : Below w1.heap.size w1 w') => isValidE_any key kind auA auN auc auL edA edN edc edL ti co pu y m d ci vol pa cr w' (R1.out.below hk) HSz.out)
            rw [HOK.out] at HV
            have HSt : Hid (∀ W, Kept w1 W → (W.cell? ⟨bx, 0, none⟩ = some (.string key) ∧ W.cell? ⟨bx, 1, none⟩ = some (.int .i64 kind) ∧ W.cell? ⟨bx, 2, none⟩ = some (.slice auA auN auc) ∧ W.cell? ⟨bx, 3, none⟩ = some (.slice edA edN edc) ∧ W.cell? ⟨bx, 4, none⟩ = some (.string ti) ∧ W.cell? ⟨bx, 5, none⟩ = some (.string co) ∧ W.cell? ⟨bx, 6, none⟩ = some (.string pu) ∧ W.cell? ⟨bx, 7, none⟩ = some (.int .i64 y) ∧ W.cell? ⟨bx, 8, none⟩ = some (.int .i64 m) ∧ W.cell? ⟨bx, 9, none⟩ = some (.int .i64 d) ∧ W.cell? ⟨bx, 10, none⟩ = some (.bool ci) ∧ W.cell? ⟨bx, 11, none⟩ = some (.int .i64 vol) ∧ W.cell? ⟨bx, 12, none⟩ = some (.string pa) ∧ W.cell? ⟨bx, 13, none⟩ = some (.string cr) ∧ W.cell? ⟨w.heap.size, 0, none⟩ = some (.slice (some ⟨g, o, none⟩) N c) ∧ Kept w1 W)) := Lib.hid (fun W h => by
              obtain ⟨_, c0, c1, c2, c3, c4, c5, c6, c7, c8, c9, c10, c11, c12, c13⟩ := X1.out.below h
              exact ⟨c0, c1, c2, c3, c4, c5, c6, c7, c8, c9, c10, c11, c12, c13, (h.cell (p := ⟨w.heap.size, 0, none⟩) s1).trans l1, h⟩)
            have HK0 := Lib.hid (Kept.drew w1)
            obtain ⟨_, c0, c1, c2, c3, c4, c5, c6, c7, c8, c9, c10, c11, c12, c13⟩ := X1.out
            dsimp only at c0 c1 c2 c3 c4 c5 c6 c7 c8 c9 c10 c11 c12 c13
            go_wp2_with fail
            refine wp_region_held_drew (S := fun W => W.cell? ⟨bx, 0, none⟩ = some (.string key) ∧ W.cell? ⟨bx, 1, none⟩ = some (.int .i64 kind) ∧ W.cell? ⟨bx, 2, none⟩ = some (.slice auA auN auc) ∧ W.cell? ⟨bx, 3, none⟩ = some (.slice edA edN edc) ∧ W.cell? ⟨bx, 4, none⟩ = some (.string ti) ∧ W.cell? ⟨bx, 5, none⟩ = some (.string co) ∧ W.cell? ⟨bx, 6, none⟩ = some (.string pu) ∧ W.cell? ⟨bx, 7, none⟩ = some (.int .i64 y) ∧ W.cell? ⟨bx, 8, none⟩ = some (.int .i64 m) ∧ W.cell? ⟨bx, 9, none⟩ = some (.int .i64 d) ∧ W.cell? ⟨bx, 10, none⟩ = some (.bool ci) ∧ W.cell? ⟨bx, 11, none⟩ = some (.int .i64 vol) ∧ W.cell? ⟨bx, 12, none⟩ = some (.string pa) ∧ W.cell? ⟨bx, 13, none⟩ = some (.string cr) ∧ W.cell? ⟨w.heap.size, 0, none⟩ = some (.slice (some ⟨g, o, none⟩) N c) ∧ Kept w1 W) (by kernel_rfl) (HSt.out _ HK0.out) (fun hHeld => ?_)
            refine Held.takeL (i := 0) (v := ?_) rfl (by kernel_rfl) (by kernel_rfl) (by kernel_rfl) (fun _ _ _ h => h) (Or.inl ⟨by rfl, ?_⟩) (by assumption) ?_
            rotate_left
            · intro W hSw
              (try dsimp only at hSw)
              go_simp
              try (with_reducible rfl)
            try simp only [Act.put, List.setIfInBounds_toArray, List.set_cons_zero, List.set_cons_succ]
            refine Held.callL (i := 1) rfl (by kernel_rfl) (by rfl) (fun K hK => ?_)
            try go_simp
            go_at_call 51
            refine (HV.out _ HK0.out).mono ?_
            rintro e w2 ⟨rfl, b2⟩
            have hk2 : Kept w1 w2 := Kept.next HK0.out b2
            try go_wp2_with fail
            refine hK.out _ _ ?_ (fun hHeld => ?_)
            · exact HSt.out _ hk2
            clear hK K
            try simp only [Act.put, List.setIfInBounds_toArray, List.set_cons_zero, List.set_cons_succ]
            refine Held.takeL (i := 2) (v := ?_) rfl (by kernel_rfl) (by kernel_rfl) (by kernel_rfl) (fun _ _ _ h => h) (Or.inl ⟨by rfl, ?_⟩) (by assumption) ?_
            rotate_left
            · intro W hSw
              (try dsimp only at hSw)
              go_simp
              try (with_reducible rfl)
            try simp only [Act.put, List.setIfInBounds_toArray, List.set_cons_zero, List.set_cons_succ]
            refine Held.takeL (i := 3) (v := ?_) rfl (by kernel_rfl) (by kernel_rfl) (by kernel_rfl) (fun _ _ _ h => h) (Or.inl ⟨by rfl, ?_⟩) (by assumption) ?_
            rotate_left
            · intro W hSw
              (try dsimp only at hSw)
              go_simp
              try (with_reducible rfl)
            try simp only [Act.put, List.setIfInBounds_toArray, List.set_cons_zero, List.set_cons_succ]
            refine Held.takeL (i := 4) (v := ?_) rfl (by kernel_rfl) (by kernel_rfl) (by kernel_rfl) (fun _ _ _ h => h) (Or.inl ⟨by rfl, ?_⟩) (by assumption) ?_
            rotate_left
            · intro W hSw
              (try dsimp only at hSw)
              go_simp
              try (with_reducible rfl)
            try simp only [Act.put, List.setIfInBounds_toArray, List.set_cons_zero, List.set_cons_succ]
            refine Held.takeL (i := 5) (v := ?_) rfl (by kernel_rfl) (by kernel_rfl) (by kernel_rfl) (fun _ _ _ h => h) (Or.inl ⟨by rfl, ?_⟩) (by assumption) ?_
            rotate_left
            · intro W hSw
              (try dsimp only at hSw)
              go_simp
              try (with_reducible rfl)
            try simp only [Act.put, List.setIfInBounds_toArray, List.set_cons_zero, List.set_cons_succ]
            refine Held.takeL (i := 6) (v := ?_) rfl (by kernel_rfl) (by kernel_rfl) (by kernel_rfl) (fun _ _ _ h => h) (Or.inl ⟨by rfl, ?_⟩) (by assumption) ?_
            rotate_left
            · intro W hSw
              (try dsimp only at hSw)
              go_simp
              try (with_reducible rfl)
            try simp only [Act.put, List.setIfInBounds_toArray, List.set_cons_zero, List.set_cons_succ]
            refine Held.skipL (i := 7) rfl (by kernel_rfl) (by kernel_rfl) (by kernel_rfl) (fun _ _ _ h => h) (by rfl) (by assumption) ?_
            try simp only [Act.put, List.setIfInBounds_toArray, List.set_cons_zero, List.set_cons_succ]
            refine Held.skipL (i := 8) rfl (by kernel_rfl) (by kernel_rfl) (by kernel_rfl) (fun _ _ _ h => h) (by rfl) (by assumption) ?_
            try simp only [Act.put, List.setIfInBounds_toArray, List.set_cons_zero, List.set_cons_succ]
            refine Held.skipL (i := 9) rfl (by kernel_rfl) (by kernel_rfl) (by kernel_rfl) (fun _ _ _ h => h) (by rfl) (by assumption) ?_
            try simp only [Act.put, List.setIfInBounds_toArray, List.set_cons_zero, List.set_cons_succ]
            refine Held.skipL (i := 10) rfl (by kernel_rfl) (by kernel_rfl) (by kernel_rfl) (fun _ _ _ h => h) (by rfl) (by assumption) ?_
            try simp only [Act.put, List.setIfInBounds_toArray, List.set_cons_zero, List.set_cons_succ]
            refine Held.skipL (i := 11) rfl (by kernel_rfl) (by kernel_rfl) (by kernel_rfl) (fun _ _ _ h => h) (by rfl) (by assumption) ?_
            try simp only [Act.put, List.setIfInBounds_toArray, List.set_cons_zero, List.set_cons_succ]
            refine Held.skipL (i := 12) rfl (by kernel_rfl) (by kernel_rfl) (by kernel_rfl) (fun _ _ _ h => h) (by rfl) (by assumption) ?_
            try simp only [Act.put, List.setIfInBounds_toArray, List.set_cons_zero, List.set_cons_succ]
            refine Held.skipL (i := 13) rfl (by kernel_rfl) (by kernel_rfl) (by kernel_rfl) (fun _ _ _ h => h) (by rfl) (by assumption) ?_
            try simp only [Act.put, List.setIfInBounds_toArray, List.set_cons_zero, List.set_cons_succ]
            refine Held.skipL (i := 14) rfl (by kernel_rfl) (by kernel_rfl) (by kernel_rfl) (fun _ _ _ h => h) (by rfl) (by assumption) ?_
            try simp only [Act.put, List.setIfInBounds_toArray, List.set_cons_zero, List.set_cons_succ]
            refine Held.skipL (i := 15) rfl (by kernel_rfl) (by kernel_rfl) (by kernel_rfl) (fun _ _ _ h => h) (by rfl) (by assumption) ?_
            try simp only [Act.put, List.setIfInBounds_toArray, List.set_cons_zero, List.set_cons_succ]
            refine Held.skipL (i := 16) rfl (by kernel_rfl) (by kernel_rfl) (by kernel_rfl) (fun _ _ _ h => h) (by rfl) (by assumption) ?_
            try simp only [Act.put, List.setIfInBounds_toArray, List.set_cons_zero, List.set_cons_succ]
            refine Held.skipL (i := 17) rfl (by kernel_rfl) (by kernel_rfl) (by kernel_rfl) (fun _ _ _ h => h) (by rfl) (by assumption) ?_
            try simp only [Act.put, List.setIfInBounds_toArray, List.set_cons_zero, List.set_cons_succ]
            refine Held.takeL (i := 18) (v := ?_) rfl (by kernel_rfl) (by kernel_rfl) (by kernel_rfl) (fun _ _ _ h => h) (Or.inl ⟨by rfl, ?_⟩) (by assumption) ?_
            rotate_left
            · intro W hSw
              (try dsimp only at hSw)
              go_simp
              try (with_reducible rfl)
            try simp only [Act.put, List.setIfInBounds_toArray, List.set_cons_zero, List.set_cons_succ]
            refine Held.takeL (i := 19) (v := ?_) rfl (by kernel_rfl) (by kernel_rfl) (by kernel_rfl) (fun _ _ _ h => h) (Or.inl ⟨by rfl, ?_⟩) (by assumption) ?_
            rotate_left
            · intro W hSw
              (try dsimp only at hSw)
              go_simp
              try (with_reducible rfl)
            try simp only [Act.put, List.setIfInBounds_toArray, List.set_cons_zero, List.set_cons_succ]
            refine wpAnyH_done (by kernel_rfl) ?_ _
            have k2 := k1.trans (Below.mono hk2 k1.size)
            have l2 := (hk2.cell (p := ⟨w.heap.size, 0, none⟩) s1).trans l1
            have s2 : w.heap.size < w2.heap.size := Nat.lt_of_lt_of_le s1 hk2.size
            clear HSt HK0 hk2 HV X1 R1 l1 s1 g1  k1 c0 c1 c2 c3 c4 c5 c6 c7 c8 c9 c10 c11 c12 c13
            (try clear hHeld)
            go_wp2_with fail
            go_roundw
            case rel => exact ⟨k + 1, by omega, by go_num, HN, k2, l2, s2⟩
            case measure => simp [intOf]; omega
      · have HF : Hid (okLib L = true) := Lib.hid (by rw [HE.out, ← HD.out, List.drop_eq_nil_of_le (by rw [HN0.out]; omega)]; rfl)
        go_wp2_with fail
        go_ret
        exact ⟨by rw [HF.out]; rfl, hb⟩
  · have HF : Hid (okLib L = false) := Lib.hid (by unfold okLib; rw [HN0.out, decide_eq_false h8]; rfl)
    go_enter Tryz.func29, Tryz.ntmps29
    go_wp2_with fail
    go_ret
    exact ⟨by rw [HF.out]; rfl, HB.out⟩

end Go.Proofs.YteccmlpibbchbaaGreatDoor.Lbs
/-
  Contract of l4Good.
-/
namespace Go.Proofs.YteccmlpibbchbaaGreatDoor.Lbs
open Go.RowKit Pl Strs Help Name Stands SplitPl NmPl Word Part NGood Nms Jn Ens
set_option linter.unusedSimpArgs false
set_option linter.unusedVariables false

set_option maxRecDepth 100000 in
set_option maxHeartbeats 16000000 in
theorem l4Good_any (A : Option Addr) (c N : Nat) (L : List En) (w : World) (h : RdE w A L) (hn : L.length = N) (hm : N ≤ 1048576) (hz : ∀ x ∈ L, x.sz ≤ 1048576) :
    Calls Tryz.prog 23 #[.agg #[.slice A N c]] w fun e w' => e = .returned (.bool (okLib L)) ∧ Below w.heap.size w w' := by
  have HB := Lib.hid ((Below.refl _ w).alloc (Nat.le_refl _) (.cells #[.slice A N c] 33))
  have hc0 : (w.alloc (.cells #[.slice A N c] 33)).cell? ⟨w.heap.size, 0, none⟩ = some (.slice A N c) := by simp
  have hs0 : w.heap.size < (w.alloc (.cells #[.slice A N c] 33)).heap.size := by simp
  have HC0 := Lib.hid (And.intro hc0 hs0)
  have H := Lib.hid h
  have HN0 := Lib.hid hn
  have HZ := Lib.hid hz
  clear h hn hz hc0 hs0
  by_cases h8 : N ≤ 8
  · have HE : Hid (okLib L = goL none L) := Lib.hid (by unfold okLib; rw [HN0.out, decide_eq_true h8]; rfl)
    go_enter Tryz.func23, Tryz.ntmps23
    go_wp2_with fail
    generalize w.alloc (.cells #[.slice A N c] 33) = w0 at HB HC0 ⊢
    go_loopw [3] (fun i wr => ∃ k : Nat, k ≤ N ∧ i = .int .i64 k ∧ Hid (goL (prevK L k) (L.drop k) = goL none L) ∧ Below w.heap.size w wr ∧ wr.cell? ⟨w.heap.size, 0, none⟩ = some (.slice A N c) ∧ w.heap.size < wr.heap.size) (fun i _ => N - (intOf i).toNat)
    case atStart => exact ⟨0, Nat.zero_le _, rfl, Lib.hid rfl, HB.out, HC0.out.1, HC0.out.2⟩
    case round =>
      obtain ⟨k, hk, rfl, HD, hb, hl0, hsz⟩ := hrel
      by_cases hlt : k < N
      · skip
        have hkx : k < L.length := by rw [HN0.out]; exact hlt
        have hx? := List.getElem?_eq_getElem hkx
        obtain ⟨hr, g, o, rfl, hg, c0, c1, c2, c3, c4, c5, c6, c7, c8, c9, c10, c11, c12, c13⟩ := (H.out.below hb) k L[k] hx?
        have HSz := Lib.hid (HZ.out _ (List.getElem_mem hkx))
        have HGo := Lib.hid (goL_drop (prevK L k) hx?)
        have HPs := Lib.hid (prevK_succ hx?)
        by_cases hk0 : 0 < k
        · have hky : k - 1 < L.length := by omega
          have hy? := List.getElem?_eq_getElem hky
          obtain ⟨_, g', o', e', hg', hy0, _⟩ := (H.out.below hb) (k - 1) L[k - 1] hy?
          cases e'
          have HPp := Lib.hid (prevK_pos hk0 hy?)
          obtain ⟨j, hj⟩ : ∃ j, j + 1 = k := ⟨k - 1, by omega⟩
          have ej : k - 1 = j := by omega
          have hjN : j < N := by rw [HN0.out] at hky; omega
          have hji : (k : Int) - 1 = (j : Int) := by omega
          have hjw : IntKind.i64.wrap (j : Int) = (j : Int) := IntWalk.i64_in _ (by omega)
          have hj0 : (0 : Int) ≤ (j : Int) := by omega
          have hjN' : (j : Int) < (N : Int) := by omega
          have hk0' : (0 : Int) < (k : Int) := by omega
          generalize L[k - 1] = ey at *
          have HPp : Hid (prevK L k = some ey.key) := HPp
          generalize ey.key = yk at *
          rw [ej] at hy0
          clear hy? hg' hky ej
          have HJ := Lib.hid hj
          clear hj
          generalize L[k] = ex at *
          obtain ⟨key, kind, auA, auN, auc, auL, edA, edN, edc, edL, ti, co, pu, y, m, d, ci, vol, pa, cr⟩ := ex
          dsimp only at c0 c1 c2 c3 c4 c5 c6 c7 c8 c9 c10 c11 c12 c13 HPs
          have HR := Lib.hid hr
          clear hr hx?
          cases hok : okE (⟨key, kind, auA, auN, auc, auL, edA, edN, edc, edL, ti, co, pu, y, m, d, ci, vol, pa, cr⟩ : En) with
          | false =>
            have HOK := Lib.hid hok
            have HF : Hid (okLib L = false) := Lib.hid (by rw [HE.out, ← HD.out, HGo.out, hok]; simp)
            clear hok
            have HV := Lib.hid (fun w' (hk : Below wr.heap.size wr w') => l4Entry_any key kind auA auN auc auL edA edN edc edL ti co pu y m d ci vol pa cr w' (HR.out.below hk) HSz.out)
            rw [HOK.out] at HV
            have HSt : Hid (∀ W, Kept wr W → (W.cell? ⟨g, o + k * 14, none⟩ = some (.string key) ∧ W.cell? ⟨g, o + k * 14 + 1, none⟩ = some (.int .i64 kind) ∧ W.cell? ⟨g, o + k * 14 + 2, none⟩ = some (.slice auA auN auc) ∧ W.cell? ⟨g, o + k * 14 + 3, none⟩ = some (.slice edA edN edc) ∧ W.cell? ⟨g, o + k * 14 + 4, none⟩ = some (.string ti) ∧ W.cell? ⟨g, o + k * 14 + 5, none⟩ = some (.string co) ∧ W.cell? ⟨g, o + k * 14 + 6, none⟩ = some (.string pu) ∧ W.cell? ⟨g, o + k * 14 + 7, none⟩ = some (.int .i64 y) ∧ W.cell? ⟨g, o + k * 14 + 8, none⟩ = some (.int .i64 m) ∧ W.cell? ⟨g, o + k * 14 + 9, none⟩ = some (.int .i64 d) ∧ W.cell? ⟨g, o + k * 14 + 10, none⟩ = some (.bool ci) ∧ W.cell? ⟨g, o + k * 14 + 11, none⟩ = some (.int .i64 vol) ∧ W.cell? ⟨g, o + k * 14 + 12, none⟩ = some (.string pa) ∧ W.cell? ⟨g, o + k * 14 + 13, none⟩ = some (.string cr) ∧ W.cell? ⟨w.heap.size, 0, none⟩ = some (.slice (some ⟨g, o, none⟩) N c) ∧ W.cell? ⟨g, o + j * 14, none⟩ = some (.string yk) ∧ Kept wr W)) := Lib.hid (fun W h => ⟨(h.cell (p := ⟨g, o + k * 14, none⟩) hg).trans c0, (h.cell (p := ⟨g, o + k * 14 + 1, none⟩) hg).trans c1, (h.cell (p := ⟨g, o + k * 14 + 2, none⟩) hg).trans c2, (h.cell (p := ⟨g, o + k * 14 + 3, none⟩) hg).trans c3, (h.cell (p := ⟨g, o + k * 14 + 4, none⟩) hg).trans c4, (h.cell (p := ⟨g, o + k * 14 + 5, none⟩) hg).trans c5, (h.cell (p := ⟨g, o + k * 14 + 6, none⟩) hg).trans c6, (h.cell (p := ⟨g, o + k * 14 + 7, none⟩) hg).trans c7, (h.cell (p := ⟨g, o + k * 14 + 8, none⟩) hg).trans c8, (h.cell (p := ⟨g, o + k * 14 + 9, none⟩) hg).trans c9, (h.cell (p := ⟨g, o + k * 14 + 10, none⟩) hg).trans c10, (h.cell (p := ⟨g, o + k * 14 + 11, none⟩) hg).trans c11, (h.cell (p := ⟨g, o + k * 14 + 12, none⟩) hg).trans c12, (h.cell (p := ⟨g, o + k * 14 + 13, none⟩) hg).trans c13, (h.cell (p := ⟨w.heap.size, 0, none⟩) hsz).trans hl0, (h.cell (p := ⟨g, o + j * 14, none⟩) hg).trans hy0, h⟩)
            have HK0 := Lib.hid (Kept.drew wr)

            go_wp2_with fail
            refine wp_region_held_drew (S := fun W => W.cell? ⟨g, o + k * 14, none⟩ = some (.string key) ∧ W.cell? ⟨g, o + k * 14 + 1, none⟩ = some (.int .i64 kind) ∧ W.cell? ⟨g, o + k * 14 + 2, none⟩ = some (.slice auA auN auc) ∧ W.cell? ⟨g, o + k * 14 + 3, none⟩ = some (.slice edA edN edc) ∧ W.cell? ⟨g, o + k * 14 + 4, none⟩ = some (.string ti) ∧ W.cell? ⟨g, o + k * 14 + 5, none⟩ = some (.string co) ∧ W.cell? ⟨g, o + k * 14 + 6, none⟩ = some (.string pu) ∧ W.cell? ⟨g, o + k * 14 + 7, none⟩ = some (.int .i64 y) ∧ W.cell? ⟨g, o + k * 14 + 8, none⟩ = some (.int .i64 m) ∧ W.cell? ⟨g, o + k * 14 + 9, none⟩ = some (.int .i64 d) ∧ W.cell? ⟨g, o + k * 14 + 10, none⟩ = some (.bool ci) ∧ W.cell? ⟨g, o + k * 14 + 11, none⟩ = some (.int .i64 vol) ∧ W.cell? ⟨g, o + k * 14 + 12, none⟩ = some (.string pa) ∧ W.cell? ⟨g, o + k * 14 + 13, none⟩ = some (.string cr) ∧ W.cell? ⟨w.heap.size, 0, none⟩ = some (.slice (some ⟨g, o, none⟩) N c) ∧ W.cell? ⟨g, o + j * 14, none⟩ = some (.string yk) ∧ Kept wr W) (by kernel_rfl) (HSt.out _ HK0.out) (fun hHeld => ?_)
            refine Held.takeL (i := 0) (v := ?_) rfl (by kernel_rfl) (by kernel_rfl) (by kernel_rfl) (fun _ _ _ h => h) (Or.inl ⟨by rfl, ?_⟩) (by assumption) ?_
            rotate_left
            · intro W hSw
              (try dsimp only at hSw)
              go_simp
              try (with_reducible rfl)
            try simp only [Act.put, List.setIfInBounds_toArray, List.set_cons_zero, List.set_cons_succ]
            refine Held.takeL (i := 1) (v := ?_) rfl (by kernel_rfl) (by kernel_rfl) (by kernel_rfl) (fun _ _ _ h => h) (Or.inl ⟨by rfl, ?_⟩) (by assumption) ?_
            rotate_left
            · intro W hSw
              (try dsimp only at hSw)
              go_simp
              try (with_reducible rfl)
            try simp only [Act.put, List.setIfInBounds_toArray, List.set_cons_zero, List.set_cons_succ]
            refine Held.takeL (i := 2) (v := ?_) rfl (by kernel_rfl) (by kernel_rfl) (by kernel_rfl) (fun _ _ _ h => h) (Or.inl ⟨by rfl, ?_⟩) (by assumption) ?_
            rotate_left
            · intro W hSw
              (try dsimp only at hSw)
              go_simp
              try (with_reducible rfl)
            try simp only [Act.put, List.setIfInBounds_toArray, List.set_cons_zero, List.set_cons_succ]
            refine Held.takeL (i := 3) (v := ?_) rfl (by kernel_rfl) (by kernel_rfl) (by kernel_rfl) (fun _ _ _ h => h) (Or.inl ⟨by rfl, ?_⟩) (by assumption) ?_
            rotate_left
            · intro W hSw
              (try dsimp only at hSw)
              go_simp
              try (with_reducible rfl)
            try simp only [Act.put, List.setIfInBounds_toArray, List.set_cons_zero, List.set_cons_succ]
            refine Held.takeL (i := 4) (v := ?_) rfl (by kernel_rfl) (by kernel_rfl) (by kernel_rfl) (fun _ _ _ h => h) (Or.inl ⟨by rfl, ?_⟩) (by assumption) ?_
            rotate_left
            · intro W hSw
              (try dsimp only at hSw)
              go_simp
              try (with_reducible rfl)
            try simp only [Act.put, List.setIfInBounds_toArray, List.set_cons_zero, List.set_cons_succ]
            refine Held.callL (i := 5) rfl (by kernel_rfl) (by rfl) (fun K hK => ?_)
            try go_simp
            go_at_call 46
            refine (HV.out _ HK0.out).mono ?_
            rintro e w2 ⟨rfl, b2⟩
            have hk2 : Kept wr w2 := Kept.next HK0.out b2
            try go_wp2_with fail
            refine hK.out _ _ ?_ (fun hHeld => ?_)
            · exact HSt.out _ hk2
            clear hK K
            try simp only [Act.put, List.setIfInBounds_toArray, List.set_cons_zero, List.set_cons_succ]
            refine Held.takeL (i := 6) (v := ?_) rfl (by kernel_rfl) (by kernel_rfl) (by kernel_rfl) (fun _ _ _ h => h) (Or.inl ⟨by rfl, ?_⟩) (by assumption) ?_
            rotate_left
            · intro W hSw
              (try dsimp only at hSw)
              go_simp
              try (with_reducible rfl)
            try simp only [Act.put, List.setIfInBounds_toArray, List.set_cons_zero, List.set_cons_succ]
            refine Held.takeL (i := 7) (v := ?_) rfl (by kernel_rfl) (by kernel_rfl) (by kernel_rfl) (fun _ _ _ h => h) (Or.inl ⟨by rfl, ?_⟩) (by assumption) ?_
            rotate_left
            · intro W hSw
              (try dsimp only at hSw)
              go_simp
              try (with_reducible rfl)
            try simp only [Act.put, List.setIfInBounds_toArray, List.set_cons_zero, List.set_cons_succ]
            refine Held.skipL (i := 8) rfl (by kernel_rfl) (by kernel_rfl) (by kernel_rfl) (fun _ _ _ h => h) (by rfl) (by assumption) ?_
            try simp only [Act.put, List.setIfInBounds_toArray, List.set_cons_zero, List.set_cons_succ]
            refine Held.skipL (i := 9) rfl (by kernel_rfl) (by kernel_rfl) (by kernel_rfl) (fun _ _ _ h => h) (by rfl) (by assumption) ?_
            try simp only [Act.put, List.setIfInBounds_toArray, List.set_cons_zero, List.set_cons_succ]
            refine Held.skipL (i := 10) rfl (by kernel_rfl) (by kernel_rfl) (by kernel_rfl) (fun _ _ _ h => h) (by rfl) (by assumption) ?_
            try simp only [Act.put, List.setIfInBounds_toArray, List.set_cons_zero, List.set_cons_succ]
            refine Held.skipL (i := 11) rfl (by kernel_rfl) (by kernel_rfl) (by kernel_rfl) (fun _ _ _ h => h) (by rfl) (by assumption) ?_
            try simp only [Act.put, List.setIfInBounds_toArray, List.set_cons_zero, List.set_cons_succ]
            refine Held.skipL (i := 12) rfl (by kernel_rfl) (by kernel_rfl) (by kernel_rfl) (fun _ _ _ h => h) (by rfl) (by assumption) ?_
            try simp only [Act.put, List.setIfInBounds_toArray, List.set_cons_zero, List.set_cons_succ]
            refine Held.skipL (i := 13) rfl (by kernel_rfl) (by kernel_rfl) (by kernel_rfl) (fun _ _ _ h => h) (by rfl) (by assumption) ?_
            try simp only [Act.put, List.setIfInBounds_toArray, List.set_cons_zero, List.set_cons_succ]
            refine Held.skipL (i := 14) rfl (by kernel_rfl) (by kernel_rfl) (by kernel_rfl) (fun _ _ _ h => h) (by rfl) (by assumption) ?_
            try simp only [Act.put, List.setIfInBounds_toArray, List.set_cons_zero, List.set_cons_succ]
            refine Held.skipL (i := 15) rfl (by kernel_rfl) (by kernel_rfl) (by kernel_rfl) (fun _ _ _ h => h) (by rfl) (by assumption) ?_
            try simp only [Act.put, List.setIfInBounds_toArray, List.set_cons_zero, List.set_cons_succ]
            refine Held.skipL (i := 16) rfl (by kernel_rfl) (by kernel_rfl) (by kernel_rfl) (fun _ _ _ h => h) (by rfl) (by assumption) ?_
            try simp only [Act.put, List.setIfInBounds_toArray, List.set_cons_zero, List.set_cons_succ]
            refine Held.skipL (i := 17) rfl (by kernel_rfl) (by kernel_rfl) (by kernel_rfl) (fun _ _ _ h => h) (by rfl) (by assumption) ?_
            try simp only [Act.put, List.setIfInBounds_toArray, List.set_cons_zero, List.set_cons_succ]
            refine Held.skipL (i := 18) rfl (by kernel_rfl) (by kernel_rfl) (by kernel_rfl) (fun _ _ _ h => h) (by rfl) (by assumption) ?_
            try simp only [Act.put, List.setIfInBounds_toArray, List.set_cons_zero, List.set_cons_succ]
            refine Held.skipL (i := 19) rfl (by kernel_rfl) (by kernel_rfl) (by kernel_rfl) (fun _ _ _ h => h) (by rfl) (by assumption) ?_
            try simp only [Act.put, List.setIfInBounds_toArray, List.set_cons_zero, List.set_cons_succ]
            refine Held.skipL (i := 20) rfl (by kernel_rfl) (by kernel_rfl) (by kernel_rfl) (fun _ _ _ h => h) (by rfl) (by assumption) ?_
            try simp only [Act.put, List.setIfInBounds_toArray, List.set_cons_zero, List.set_cons_succ]
            refine Held.skipL (i := 21) rfl (by kernel_rfl) (by kernel_rfl) (by kernel_rfl) (fun _ _ _ h => h) (by rfl) (by assumption) ?_
            try simp only [Act.put, List.setIfInBounds_toArray, List.set_cons_zero, List.set_cons_succ]
            refine Held.skipL (i := 22) rfl (by kernel_rfl) (by kernel_rfl) (by kernel_rfl) (fun _ _ _ h => h) (by rfl) (by assumption) ?_
            try simp only [Act.put, List.setIfInBounds_toArray, List.set_cons_zero, List.set_cons_succ]
            refine Held.skipL (i := 23) rfl (by kernel_rfl) (by kernel_rfl) (by kernel_rfl) (fun _ _ _ h => h) (by rfl) (by assumption) ?_
            try simp only [Act.put, List.setIfInBounds_toArray, List.set_cons_zero, List.set_cons_succ]
            refine Held.skipL (i := 24) rfl (by kernel_rfl) (by kernel_rfl) (by kernel_rfl) (fun _ _ _ h => h) (by rfl) (by assumption) ?_
            try simp only [Act.put, List.setIfInBounds_toArray, List.set_cons_zero, List.set_cons_succ]
            refine Held.skipL (i := 25) rfl (by kernel_rfl) (by kernel_rfl) (by kernel_rfl) (fun _ _ _ h => h) (by rfl) (by assumption) ?_
            try simp only [Act.put, List.setIfInBounds_toArray, List.set_cons_zero, List.set_cons_succ]
            refine Held.takeL (i := 26) (v := ?_) rfl (by kernel_rfl) (by kernel_rfl) (by kernel_rfl) (fun _ _ _ h => h) (Or.inl ⟨by rfl, ?_⟩) (by assumption) ?_
            rotate_left
            · intro W hSw
              (try dsimp only at hSw)
              go_simp
              try (with_reducible rfl)
            try simp only [Act.put, List.setIfInBounds_toArray, List.set_cons_zero, List.set_cons_succ]
            refine wpAnyH_done (by kernel_rfl) ?_ _
            have k2 := hb.trans (Below.mono hk2 hb.size)
            have l2 := (hk2.cell (p := ⟨w.heap.size, 0, none⟩) hsz).trans hl0
            have s2 : w.heap.size < w2.heap.size := Nat.lt_of_lt_of_le hsz hk2.size
            clear HSt HK0 hk2 HV c0 c1 c2 c3 c4 c5 c6 c7 c8 c9 c10 c11 c12 c13
            (try clear hHeld)
            go_wp2_with fail
            go_ret
            exact ⟨by rw [HF.out]; rfl, k2⟩
          | true =>
            have HOK := Lib.hid hok
            cases hlt2 : ltS yk key with
            | false =>
              have HLt := Lib.hid hlt2
              have HF : Hid (okLib L = false) := Lib.hid (by rw [HE.out, ← HD.out, HGo.out, hok, HPp.out]; simp [hlt2])
              clear hok hlt2
              have HV := Lib.hid (fun w' (hk : Below wr.heap.size wr w') => l4Entry_any key kind auA auN auc auL edA edN edc edL ti co pu y m d ci vol pa cr w' (HR.out.below hk) HSz.out)
              rw [HOK.out] at HV
              have HSt : Hid (∀ W, Kept wr W → (W.cell? ⟨g, o + k * 14, none⟩ = some (.string key) ∧ W.cell? ⟨g, o + k * 14 + 1, none⟩ = some (.int .i64 kind) ∧ W.cell? ⟨g, o + k * 14 + 2, none⟩ = some (.slice auA auN auc) ∧ W.cell? ⟨g, o + k * 14 + 3, none⟩ = some (.slice edA edN edc) ∧ W.cell? ⟨g, o + k * 14 + 4, none⟩ = some (.string ti) ∧ W.cell? ⟨g, o + k * 14 + 5, none⟩ = some (.string co) ∧ W.cell? ⟨g, o + k * 14 + 6, none⟩ = some (.string pu) ∧ W.cell? ⟨g, o + k * 14 + 7, none⟩ = some (.int .i64 y) ∧ W.cell? ⟨g, o + k * 14 + 8, none⟩ = some (.int .i64 m) ∧ W.cell? ⟨g, o + k * 14 + 9, none⟩ = some (.int .i64 d) ∧ W.cell? ⟨g, o + k * 14 + 10, none⟩ = some (.bool ci) ∧ W.cell? ⟨g, o + k * 14 + 11, none⟩ = some (.int .i64 vol) ∧ W.cell? ⟨g, o + k * 14 + 12, none⟩ = some (.string pa) ∧ W.cell? ⟨g, o + k * 14 + 13, none⟩ = some (.string cr) ∧ W.cell? ⟨w.heap.size, 0, none⟩ = some (.slice (some ⟨g, o, none⟩) N c) ∧ W.cell? ⟨g, o + j * 14, none⟩ = some (.string yk) ∧ Kept wr W)) := Lib.hid (fun W h => ⟨(h.cell (p := ⟨g, o + k * 14, none⟩) hg).trans c0, (h.cell (p := ⟨g, o + k * 14 + 1, none⟩) hg).trans c1, (h.cell (p := ⟨g, o + k * 14 + 2, none⟩) hg).trans c2, (h.cell (p := ⟨g, o + k * 14 + 3, none⟩) hg).trans c3, (h.cell (p := ⟨g, o + k * 14 + 4, none⟩) hg).trans c4, (h.cell (p := ⟨g, o + k * 14 + 5, none⟩) hg).trans c5, (h.cell (p := ⟨g, o + k * 14 + 6, none⟩) hg).trans c6, (h.cell (p := ⟨g, o + k * 14 + 7, none⟩) hg).trans c7, (h.cell (p := ⟨g, o + k * 14 + 8, none⟩) hg).trans c8, (h.cell (p := ⟨g, o + k * 14 + 9, none⟩) hg).trans c9, (h.cell (p := ⟨g, o + k * 14 + 10, none⟩) hg).trans c10, (h.cell (p := ⟨g, o + k * 14 + 11, none⟩) hg).trans c11, (h.cell (p := ⟨g, o + k * 14 + 12, none⟩) hg).trans c12, (h.cell (p := ⟨g, o + k * 14 + 13, none⟩) hg).trans c13, (h.cell (p := ⟨w.heap.size, 0, none⟩) hsz).trans hl0, (h.cell (p := ⟨g, o + j * 14, none⟩) hg).trans hy0, h⟩)
              have HK0 := Lib.hid (Kept.drew wr)
              have hbl : Op.bytesLess yk.toList key.toList = false := HLt.out
              go_wp2_with fail
              refine wp_region_held_drew (S := fun W => W.cell? ⟨g, o + k * 14, none⟩ = some (.string key) ∧ W.cell? ⟨g, o + k * 14 + 1, none⟩ = some (.int .i64 kind) ∧ W.cell? ⟨g, o + k * 14 + 2, none⟩ = some (.slice auA auN auc) ∧ W.cell? ⟨g, o + k * 14 + 3, none⟩ = some (.slice edA edN edc) ∧ W.cell? ⟨g, o + k * 14 + 4, none⟩ = some (.string ti) ∧ W.cell? ⟨g, o + k * 14 + 5, none⟩ = some (.string co) ∧ W.cell? ⟨g, o + k * 14 + 6, none⟩ = some (.string pu) ∧ W.cell? ⟨g, o + k * 14 + 7, none⟩ = some (.int .i64 y) ∧ W.cell? ⟨g, o + k * 14 + 8, none⟩ = some (.int .i64 m) ∧ W.cell? ⟨g, o + k * 14 + 9, none⟩ = some (.int .i64 d) ∧ W.cell? ⟨g, o + k * 14 + 10, none⟩ = some (.bool ci) ∧ W.cell? ⟨g, o + k * 14 + 11, none⟩ = some (.int .i64 vol) ∧ W.cell? ⟨g, o + k * 14 + 12, none⟩ = some (.string pa) ∧ W.cell? ⟨g, o + k * 14 + 13, none⟩ = some (.string cr) ∧ W.cell? ⟨w.heap.size, 0, none⟩ = some (.slice (some ⟨g, o, none⟩) N c) ∧ W.cell? ⟨g, o + j * 14, none⟩ = some (.string yk) ∧ Kept wr W) (by kernel_rfl) (HSt.out _ HK0.out) (fun hHeld => ?_)
              refine Held.takeL (i := 0) (v := ?_) rfl (by kernel_rfl) (by kernel_rfl) (by kernel_rfl) (fun _ _ _ h => h) (Or.inl ⟨by rfl, ?_⟩) (by assumption) ?_
              rotate_left
              · intro W hSw
                (try dsimp only at hSw)
                go_simp
                try (with_reducible rfl)
              try simp only [Act.put, List.setIfInBounds_toArray, List.set_cons_zero, List.set_cons_succ]
              refine Held.takeL (i := 1) (v := ?_) rfl (by kernel_rfl) (by kernel_rfl) (by kernel_rfl) (fun _ _ _ h => h) (Or.inl ⟨by rfl, ?_⟩) (by assumption) ?_
              rotate_left
              · intro W hSw
                (try dsimp only at hSw)
                go_simp
                try (with_reducible rfl)
              try simp only [Act.put, List.setIfInBounds_toArray, List.set_cons_zero, List.set_cons_succ]
              refine Held.takeL (i := 2) (v := ?_) rfl (by kernel_rfl) (by kernel_rfl) (by kernel_rfl) (fun _ _ _ h => h) (Or.inl ⟨by rfl, ?_⟩) (by assumption) ?_
              rotate_left
              · intro W hSw
                (try dsimp only at hSw)
                go_simp
                try (with_reducible rfl)
              try simp only [Act.put, List.setIfInBounds_toArray, List.set_cons_zero, List.set_cons_succ]
              refine Held.takeL (i := 3) (v := ?_) rfl (by kernel_rfl) (by kernel_rfl) (by kernel_rfl) (fun _ _ _ h => h) (Or.inl ⟨by rfl, ?_⟩) (by assumption) ?_
              rotate_left
              · intro W hSw
                (try dsimp only at hSw)
                go_simp
                try (with_reducible rfl)
              try simp only [Act.put, List.setIfInBounds_toArray, List.set_cons_zero, List.set_cons_succ]
              refine Held.takeL (i := 4) (v := ?_) rfl (by kernel_rfl) (by kernel_rfl) (by kernel_rfl) (fun _ _ _ h => h) (Or.inl ⟨by rfl, ?_⟩) (by assumption) ?_
              rotate_left
              · intro W hSw
                (try dsimp only at hSw)
                go_simp
                try (with_reducible rfl)
              try simp only [Act.put, List.setIfInBounds_toArray, List.set_cons_zero, List.set_cons_succ]
              refine Held.callL (i := 5) rfl (by kernel_rfl) (by rfl) (fun K hK => ?_)
              try go_simp
              go_at_call 46
              refine (HV.out _ HK0.out).mono ?_
              rintro e w2 ⟨rfl, b2⟩
              have hk2 : Kept wr w2 := Kept.next HK0.out b2
              try go_wp2_with fail
              refine hK.out _ _ ?_ (fun hHeld => ?_)
              · exact HSt.out _ hk2
              clear hK K
              try simp only [Act.put, List.setIfInBounds_toArray, List.set_cons_zero, List.set_cons_succ]
              refine Held.takeL (i := 6) (v := ?_) rfl (by kernel_rfl) (by kernel_rfl) (by kernel_rfl) (fun _ _ _ h => h) (Or.inl ⟨by rfl, ?_⟩) (by assumption) ?_
              rotate_left
              · intro W hSw
                (try dsimp only at hSw)
                go_simp
                try (with_reducible rfl)
              try simp only [Act.put, List.setIfInBounds_toArray, List.set_cons_zero, List.set_cons_succ]
              refine Held.takeL (i := 7) (v := ?_) rfl (by kernel_rfl) (by kernel_rfl) (by kernel_rfl) (fun _ _ _ h => h) (Or.inl ⟨by rfl, ?_⟩) (by assumption) ?_
              rotate_left
              · intro W hSw
                (try dsimp only at hSw)
                go_simp
                try (with_reducible rfl)
              try simp only [Act.put, List.setIfInBounds_toArray, List.set_cons_zero, List.set_cons_succ]
              refine Held.takeL (i := 8) (v := ?_) rfl (by kernel_rfl) (by kernel_rfl) (by kernel_rfl) (fun _ _ _ h => h) (Or.inl ⟨by rfl, ?_⟩) (by assumption) ?_
              rotate_left
              · intro W hSw
                (try dsimp only at hSw)
                go_simp
                try (with_reducible rfl)
              try simp only [Act.put, List.setIfInBounds_toArray, List.set_cons_zero, List.set_cons_succ]
              refine Held.takeL (i := 9) (v := ?_) rfl (by kernel_rfl) (by kernel_rfl) (by kernel_rfl) (fun _ _ _ h => h) (Or.inl ⟨by rfl, ?_⟩) (by assumption) ?_
              rotate_left
              · intro W hSw
                (try dsimp only at hSw)
                go_simp
                try (with_reducible rfl)
              try simp only [Act.put, List.setIfInBounds_toArray, List.set_cons_zero, List.set_cons_succ]
              refine Held.takeL (i := 10) (v := ?_) rfl (by kernel_rfl) (by kernel_rfl) (by kernel_rfl) (fun _ _ _ h => h) (Or.inl ⟨by rfl, ?_⟩) (by assumption) ?_
              rotate_left
              · intro W hSw
                (try dsimp only at hSw)
                go_simp
                try (with_reducible rfl)
              try simp only [Act.put, List.setIfInBounds_toArray, List.set_cons_zero, List.set_cons_succ]
              refine Held.takeL (i := 11) (v := ?_) rfl (by kernel_rfl) (by kernel_rfl) (by kernel_rfl) (fun _ _ _ h => h) (Or.inl ⟨by rfl, ?_⟩) (by assumption) ?_
              rotate_left
              · intro W hSw
                (try dsimp only at hSw)
                go_simp
                try (with_reducible rfl)
              try simp only [Act.put, List.setIfInBounds_toArray, List.set_cons_zero, List.set_cons_succ]
              refine Held.takeL (i := 12) (v := ?_) rfl (by kernel_rfl) (by kernel_rfl) (by kernel_rfl) (fun _ _ _ h => h) (Or.inl ⟨by rfl, ?_⟩) (by assumption) ?_
              rotate_left
              · intro W hSw
                (try dsimp only at hSw)
                go_simp
                try (with_reducible rfl)
              try simp only [Act.put, List.setIfInBounds_toArray, List.set_cons_zero, List.set_cons_succ]
              refine Held.takeL (i := 13) (v := ?_) rfl (by kernel_rfl) (by kernel_rfl) (by kernel_rfl) (fun _ _ _ h => h) (Or.inl ⟨by rfl, ?_⟩) (by assumption) ?_
              rotate_left
              · intro W hSw
                (try dsimp only at hSw)
                go_simp
                try (with_reducible rfl)
              try simp only [Act.put, List.setIfInBounds_toArray, List.set_cons_zero, List.set_cons_succ]
              refine Held.takeL (i := 14) (v := ?_) rfl (by kernel_rfl) (by kernel_rfl) (by kernel_rfl) (fun _ _ _ h => h) (Or.inl ⟨by rfl, ?_⟩) (by assumption) ?_
              rotate_left
              · intro W hSw
                (try dsimp only at hSw)
                go_simp
                try (with_reducible rfl)
              try simp only [Act.put, List.setIfInBounds_toArray, List.set_cons_zero, List.set_cons_succ]
              refine Held.takeL (i := 15) (v := ?_) rfl (by kernel_rfl) (by kernel_rfl) (by kernel_rfl) (fun _ _ _ h => h) (Or.inl ⟨by rfl, ?_⟩) (by assumption) ?_
              rotate_left
              · intro W hSw
                (try dsimp only at hSw)
                go_simp
                try (with_reducible rfl)
              try simp only [Act.put, List.setIfInBounds_toArray, List.set_cons_zero, List.set_cons_succ]
              refine Held.takeL (i := 16) (v := ?_) rfl (by kernel_rfl) (by kernel_rfl) (by kernel_rfl) (fun _ _ _ h => h) (Or.inl ⟨by rfl, ?_⟩) (by assumption) ?_
              rotate_left
              · intro W hSw
                (try dsimp only at hSw)
                go_simp
                try (with_reducible rfl)
              try simp only [Act.put, List.setIfInBounds_toArray, List.set_cons_zero, List.set_cons_succ]
              refine Held.takeL (i := 17) (v := ?_) rfl (by kernel_rfl) (by kernel_rfl) (by kernel_rfl) (fun _ _ _ h => h) (Or.inl ⟨by rfl, ?_⟩) (by assumption) ?_
              rotate_left
              · intro W hSw
                (try dsimp only at hSw)
                go_simp
                try (with_reducible rfl)
              try simp only [Act.put, List.setIfInBounds_toArray, List.set_cons_zero, List.set_cons_succ]
              refine Held.takeL (i := 18) (v := ?_) rfl (by kernel_rfl) (by kernel_rfl) (by kernel_rfl) (fun _ _ _ h => h) (Or.inl ⟨by rfl, ?_⟩) (by assumption) ?_
              rotate_left
              · intro W hSw
                (try dsimp only at hSw)
                go_simp
                try (with_reducible rfl)
              try simp only [Act.put, List.setIfInBounds_toArray, List.set_cons_zero, List.set_cons_succ]
              refine Held.takeL (i := 19) (v := ?_) rfl (by kernel_rfl) (by kernel_rfl) (by kernel_rfl) (fun _ _ _ h => h) (Or.inl ⟨by rfl, ?_⟩) (by assumption) ?_
              rotate_left
              · intro W hSw
                (try dsimp only at hSw)
                go_simp
                try (with_reducible rfl)
              try simp only [Act.put, List.setIfInBounds_toArray, List.set_cons_zero, List.set_cons_succ]
              refine Held.takeL (i := 20) (v := ?_) rfl (by kernel_rfl) (by kernel_rfl) (by kernel_rfl) (fun _ _ _ h => h) (Or.inl ⟨by rfl, ?_⟩) (by assumption) ?_
              rotate_left
              · intro W hSw
                (try dsimp only at hSw)
                go_simp
                try (with_reducible rfl)
              try simp only [Act.put, List.setIfInBounds_toArray, List.set_cons_zero, List.set_cons_succ]
              refine Held.takeL (i := 21) (v := ?_) rfl (by kernel_rfl) (by kernel_rfl) (by kernel_rfl) (fun _ _ _ h => h) (Or.inl ⟨by rfl, ?_⟩) (by assumption) ?_
              rotate_left
              · intro W hSw
                (try dsimp only at hSw)
                go_simp
                try (with_reducible rfl)
              try simp only [Act.put, List.setIfInBounds_toArray, List.set_cons_zero, List.set_cons_succ]
              refine Held.takeL (i := 22) (v := ?_) rfl (by kernel_rfl) (by kernel_rfl) (by kernel_rfl) (fun _ _ _ h => h) (Or.inl ⟨by rfl, ?_⟩) (by assumption) ?_
              rotate_left
              · intro W hSw
                (try dsimp only at hSw)
                go_simp
                try (with_reducible rfl)
              try simp only [Act.put, List.setIfInBounds_toArray, List.set_cons_zero, List.set_cons_succ]
              refine Held.takeL (i := 23) (v := ?_) rfl (by kernel_rfl) (by kernel_rfl) (by kernel_rfl) (fun _ _ _ h => h) (Or.inl ⟨by rfl, ?_⟩) (by assumption) ?_
              rotate_left
              · intro W hSw
                (try dsimp only at hSw)
                go_simp
                try (with_reducible rfl)
              try simp only [Act.put, List.setIfInBounds_toArray, List.set_cons_zero, List.set_cons_succ]
              refine Held.takeL (i := 24) (v := ?_) rfl (by kernel_rfl) (by kernel_rfl) (by kernel_rfl) (fun _ _ _ h => h) (Or.inl ⟨by rfl, ?_⟩) (by assumption) ?_
              rotate_left
              · intro W hSw
                (try dsimp only at hSw)
                go_simp
                try (with_reducible rfl)
              try simp only [Act.put, List.setIfInBounds_toArray, List.set_cons_zero, List.set_cons_succ]
              refine Held.takeL (i := 25) (v := ?_) rfl (by kernel_rfl) (by kernel_rfl) (by kernel_rfl) (fun _ _ _ h => h) (Or.inl ⟨by rfl, ?_⟩) (by assumption) ?_
              rotate_left
              · intro W hSw
                (try dsimp only at hSw)
                go_simp
                try (with_reducible rfl)
              try simp only [Act.put, List.setIfInBounds_toArray, List.set_cons_zero, List.set_cons_succ]
              refine Held.takeL (i := 26) (v := ?_) rfl (by kernel_rfl) (by kernel_rfl) (by kernel_rfl) (fun _ _ _ h => h) (Or.inl ⟨by rfl, ?_⟩) (by assumption) ?_
              rotate_left
              · intro W hSw
                (try dsimp only at hSw)
                go_simp
                try (with_reducible rfl)
              try simp only [Act.put, List.setIfInBounds_toArray, List.set_cons_zero, List.set_cons_succ]
              refine wpAnyH_done (by kernel_rfl) ?_ _
              have k2 := hb.trans (Below.mono hk2 hb.size)
              have l2 := (hk2.cell (p := ⟨w.heap.size, 0, none⟩) hsz).trans hl0
              have s2 : w.heap.size < w2.heap.size := Nat.lt_of_lt_of_le hsz hk2.size
              clear HSt HK0 hk2 HV c0 c1 c2 c3 c4 c5 c6 c7 c8 c9 c10 c11 c12 c13
              (try clear hHeld)
              go_wp2_with fail
              go_ret
              exact ⟨by rw [HF.out]; rfl, k2⟩
            | true =>
              have HLt := Lib.hid hlt2
              have HN : Hid (goL (prevK L (k + 1)) (L.drop (k + 1)) = goL none L) := Lib.hid (by rw [← HD.out, HGo.out, hok, HPp.out, HPs.out]; simp [hlt2])
              clear hok hlt2
              have HV := Lib.hid (fun w' (hk : Below wr.heap.size wr w') => l4Entry_any key kind auA auN auc auL edA edN edc edL ti co pu y m d ci vol pa cr w' (HR.out.below hk) HSz.out)
              rw [HOK.out] at HV
              have HSt : Hid (∀ W, Kept wr W → (W.cell? ⟨g, o + k * 14, none⟩ = some (.string key) ∧ W.cell? ⟨g, o + k * 14 + 1, none⟩ = some (.int .i64 kind) ∧ W.cell? ⟨g, o + k * 14 + 2, none⟩ = some (.slice auA auN auc) ∧ W.cell? ⟨g, o + k * 14 + 3, none⟩ = some (.slice edA edN edc) ∧ W.cell? ⟨g, o + k * 14 + 4, none⟩ = some (.string ti) ∧ W.cell? ⟨g, o + k * 14 + 5, none⟩ = some (.string co) ∧ W.cell? ⟨g, o + k * 14 + 6, none⟩ = some (.string pu) ∧ W.cell? ⟨g, o + k * 14 + 7, none⟩ = some (.int .i64 y) ∧ W.cell? ⟨g, o + k * 14 + 8, none⟩ = some (.int .i64 m) ∧ W.cell? ⟨g, o + k * 14 + 9, none⟩ = some (.int .i64 d) ∧ W.cell? ⟨g, o + k * 14 + 10, none⟩ = some (.bool ci) ∧ W.cell? ⟨g, o + k * 14 + 11, none⟩ = some (.int .i64 vol) ∧ W.cell? ⟨g, o + k * 14 + 12, none⟩ = some (.string pa) ∧ W.cell? ⟨g, o + k * 14 + 13, none⟩ = some (.string cr) ∧ W.cell? ⟨w.heap.size, 0, none⟩ = some (.slice (some ⟨g, o, none⟩) N c) ∧ W.cell? ⟨g, o + j * 14, none⟩ = some (.string yk) ∧ Kept wr W)) := Lib.hid (fun W h => ⟨(h.cell (p := ⟨g, o + k * 14, none⟩) hg).trans c0, (h.cell (p := ⟨g, o + k * 14 + 1, none⟩) hg).trans c1, (h.cell (p := ⟨g, o + k * 14 + 2, none⟩) hg).trans c2, (h.cell (p := ⟨g, o + k * 14 + 3, none⟩) hg).trans c3, (h.cell (p := ⟨g, o + k * 14 + 4, none⟩) hg).trans c4, (h.cell (p := ⟨g, o + k * 14 + 5, none⟩) hg).trans c5, (h.cell (p := ⟨g, o + k * 14 + 6, none⟩) hg).trans c6, (h.cell (p := ⟨g, o + k * 14 + 7, none⟩) hg).trans c7, (h.cell (p := ⟨g, o + k * 14 + 8, none⟩) hg).trans c8, (h.cell (p := ⟨g, o + k * 14 + 9, none⟩) hg).trans c9, (h.cell (p := ⟨g, o + k * 14 + 10, none⟩) hg).trans c10, (h.cell (p := ⟨g, o + k * 14 + 11, none⟩) hg).trans c11, (h.cell (p := ⟨g, o + k * 14 + 12, none⟩) hg).trans c12, (h.cell (p := ⟨g, o + k * 14 + 13, none⟩) hg).trans c13, (h.cell (p := ⟨w.heap.size, 0, none⟩) hsz).trans hl0, (h.cell (p := ⟨g, o + j * 14, none⟩) hg).trans hy0, h⟩)
              have HK0 := Lib.hid (Kept.drew wr)
              have hbl : Op.bytesLess yk.toList key.toList = true := HLt.out
              go_wp2_with fail
              refine wp_region_held_drew (S := fun W => W.cell? ⟨g, o + k * 14, none⟩ = some (.string key) ∧ W.cell? ⟨g, o + k * 14 + 1, none⟩ = some (.int .i64 kind) ∧ W.cell? ⟨g, o + k * 14 + 2, none⟩ = some (.slice auA auN auc) ∧ W.cell? ⟨g, o + k * 14 + 3, none⟩ = some (.slice edA edN edc) ∧ W.cell? ⟨g, o + k * 14 + 4, none⟩ = some (.string ti) ∧ W.cell? ⟨g, o + k * 14 + 5, none⟩ = some (.string co) ∧ W.cell? ⟨g, o + k * 14 + 6, none⟩ = some (.string pu) ∧ W.cell? ⟨g, o + k * 14 + 7, none⟩ = some (.int .i64 y) ∧ W.cell? ⟨g, o + k * 14 + 8, none⟩ = some (.int .i64 m) ∧ W.cell? ⟨g, o + k * 14 + 9, none⟩ = some (.int .i64 d) ∧ W.cell? ⟨g, o + k * 14 + 10, none⟩ = some (.bool ci) ∧ W.cell? ⟨g, o + k * 14 + 11, none⟩ = some (.int .i64 vol) ∧ W.cell? ⟨g, o + k * 14 + 12, none⟩ = some (.string pa) ∧ W.cell? ⟨g, o + k * 14 + 13, none⟩ = some (.string cr) ∧ W.cell? ⟨w.heap.size, 0, none⟩ = some (.slice (some ⟨g, o, none⟩) N c) ∧ W.cell? ⟨g, o + j * 14, none⟩ = some (.string yk) ∧ Kept wr W) (by kernel_rfl) (HSt.out _ HK0.out) (fun hHeld => ?_)
              refine Held.takeL (i := 0) (v := ?_) rfl (by kernel_rfl) (by kernel_rfl) (by kernel_rfl) (fun _ _ _ h => h) (Or.inl ⟨by rfl, ?_⟩) (by assumption) ?_
              rotate_left
              · intro W hSw
                (try dsimp only at hSw)
                go_simp
                try (with_reducible rfl)
              try simp only [Act.put, List.setIfInBounds_toArray, List.set_cons_zero, List.set_cons_succ]
              refine Held.takeL (i := 1) (v := ?_) rfl (by kernel_rfl) (by kernel_rfl) (by kernel_rfl) (fun _ _ _ h => h) (Or.inl ⟨by rfl, ?_⟩) (by assumption) ?_
              rotate_left
              · intro W hSw
                (try dsimp only at hSw)
                go_simp
                try (with_reducible rfl)
              try simp only [Act.put, List.setIfInBounds_toArray, List.set_cons_zero, List.set_cons_succ]
              refine Held.takeL (i := 2) (v := ?_) rfl (by kernel_rfl) (by kernel_rfl) (by kernel_rfl) (fun _ _ _ h => h) (Or.inl ⟨by rfl, ?_⟩) (by assumption) ?_
              rotate_left
              · intro W hSw
                (try dsimp only at hSw)
                go_simp
                try (with_reducible rfl)
              try simp only [Act.put, List.setIfInBounds_toArray, List.set_cons_zero, List.set_cons_succ]
              refine Held.takeL (i := 3) (v := ?_) rfl (by kernel_rfl) (by kernel_rfl) (by kernel_rfl) (fun _ _ _ h => h) (Or.inl ⟨by rfl, ?_⟩) (by assumption) ?_
              rotate_left
              · intro W hSw
                (try dsimp only at hSw)
                go_simp
                try (with_reducible rfl)
              try simp only [Act.put, List.setIfInBounds_toArray, List.set_cons_zero, List.set_cons_succ]
              refine Held.takeL (i := 4) (v := ?_) rfl (by kernel_rfl) (by kernel_rfl) (by kernel_rfl) (fun _ _ _ h => h) (Or.inl ⟨by rfl, ?_⟩) (by assumption) ?_
              rotate_left
              · intro W hSw
                (try dsimp only at hSw)
                go_simp
                try (with_reducible rfl)
              try simp only [Act.put, List.setIfInBounds_toArray, List.set_cons_zero, List.set_cons_succ]
              refine Held.callL (i := 5) rfl (by kernel_rfl) (by rfl) (fun K hK => ?_)
              try go_simp
              go_at_call 46
              refine (HV.out _ HK0.out).mono ?_
              rintro e w2 ⟨rfl, b2⟩
              have hk2 : Kept wr w2 := Kept.next HK0.out b2
              try go_wp2_with fail
              refine hK.out _ _ ?_ (fun hHeld => ?_)
              · exact HSt.out _ hk2
              clear hK K
              try simp only [Act.put, List.setIfInBounds_toArray, List.set_cons_zero, List.set_cons_succ]
              refine Held.takeL (i := 6) (v := ?_) rfl (by kernel_rfl) (by kernel_rfl) (by kernel_rfl) (fun _ _ _ h => h) (Or.inl ⟨by rfl, ?_⟩) (by assumption) ?_
              rotate_left
              · intro W hSw
                (try dsimp only at hSw)
                go_simp
                try (with_reducible rfl)
              try simp only [Act.put, List.setIfInBounds_toArray, List.set_cons_zero, List.set_cons_succ]
              refine Held.takeL (i := 7) (v := ?_) rfl (by kernel_rfl) (by kernel_rfl) (by kernel_rfl) (fun _ _ _ h => h) (Or.inl ⟨by rfl, ?_⟩) (by assumption) ?_
              rotate_left
              · intro W hSw
                (try dsimp only at hSw)
                go_simp
                try (with_reducible rfl)
              try simp only [Act.put, List.setIfInBounds_toArray, List.set_cons_zero, List.set_cons_succ]
              refine Held.takeL (i := 8) (v := ?_) rfl (by kernel_rfl) (by kernel_rfl) (by kernel_rfl) (fun _ _ _ h => h) (Or.inl ⟨by rfl, ?_⟩) (by assumption) ?_
              rotate_left
              · intro W hSw
                (try dsimp only at hSw)
                go_simp
                try (with_reducible rfl)
              try simp only [Act.put, List.setIfInBounds_toArray, List.set_cons_zero, List.set_cons_succ]
              refine Held.takeL (i := 9) (v := ?_) rfl (by kernel_rfl) (by kernel_rfl) (by kernel_rfl) (fun _ _ _ h => h) (Or.inl ⟨by rfl, ?_⟩) (by assumption) ?_
              rotate_left
              · intro W hSw
                (try dsimp only at hSw)
                go_simp
                try (with_reducible rfl)
              try simp only [Act.put, List.setIfInBounds_toArray, List.set_cons_zero, List.set_cons_succ]
              refine Held.takeL (i := 10) (v := ?_) rfl (by kernel_rfl) (by kernel_rfl) (by kernel_rfl) (fun _ _ _ h => h) (Or.inl ⟨by rfl, ?_⟩) (by assumption) ?_
              rotate_left
              · intro W hSw
                (try dsimp only at hSw)
                go_simp
                try (with_reducible rfl)
              try simp only [Act.put, List.setIfInBounds_toArray, List.set_cons_zero, List.set_cons_succ]
              refine Held.takeL (i := 11) (v := ?_) rfl (by kernel_rfl) (by kernel_rfl) (by kernel_rfl) (fun _ _ _ h => h) (Or.inl ⟨by rfl, ?_⟩) (by assumption) ?_
              rotate_left
              · intro W hSw
                (try dsimp only at hSw)
                go_simp
                try (with_reducible rfl)
              try simp only [Act.put, List.setIfInBounds_toArray, List.set_cons_zero, List.set_cons_succ]
              refine Held.takeL (i := 12) (v := ?_) rfl (by kernel_rfl) (by kernel_rfl) (by kernel_rfl) (fun _ _ _ h => h) (Or.inl ⟨by rfl, ?_⟩) (by assumption) ?_
              rotate_left
              · intro W hSw
                (try dsimp only at hSw)
                go_simp
                try (with_reducible rfl)
              try simp only [Act.put, List.setIfInBounds_toArray, List.set_cons_zero, List.set_cons_succ]
              refine Held.takeL (i := 13) (v := ?_) rfl (by kernel_rfl) (by kernel_rfl) (by kernel_rfl) (fun _ _ _ h => h) (Or.inl ⟨by rfl, ?_⟩) (by assumption) ?_
              rotate_left
              · intro W hSw
                (try dsimp only at hSw)
                go_simp
                try (with_reducible rfl)
              try simp only [Act.put, List.setIfInBounds_toArray, List.set_cons_zero, List.set_cons_succ]
              refine Held.takeL (i := 14) (v := ?_) rfl (by kernel_rfl) (by kernel_rfl) (by kernel_rfl) (fun _ _ _ h => h) (Or.inl ⟨by rfl, ?_⟩) (by assumption) ?_
              rotate_left
              · intro W hSw
                (try dsimp only at hSw)
                go_simp
                try (with_reducible rfl)
              try simp only [Act.put, List.setIfInBounds_toArray, List.set_cons_zero, List.set_cons_succ]
              refine Held.takeL (i := 15) (v := ?_) rfl (by kernel_rfl) (by kernel_rfl) (by kernel_rfl) (fun _ _ _ h => h) (Or.inl ⟨by rfl, ?_⟩) (by assumption) ?_
              rotate_left
              · intro W hSw
                (try dsimp only at hSw)
                go_simp
                try (with_reducible rfl)
              try simp only [Act.put, List.setIfInBounds_toArray, List.set_cons_zero, List.set_cons_succ]
              refine Held.takeL (i := 16) (v := ?_) rfl (by kernel_rfl) (by kernel_rfl) (by kernel_rfl) (fun _ _ _ h => h) (Or.inl ⟨by rfl, ?_⟩) (by assumption) ?_
              rotate_left
              · intro W hSw
                (try dsimp only at hSw)
                go_simp
                try (with_reducible rfl)
              try simp only [Act.put, List.setIfInBounds_toArray, List.set_cons_zero, List.set_cons_succ]
              refine Held.takeL (i := 17) (v := ?_) rfl (by kernel_rfl) (by kernel_rfl) (by kernel_rfl) (fun _ _ _ h => h) (Or.inl ⟨by rfl, ?_⟩) (by assumption) ?_
              rotate_left
              · intro W hSw
                (try dsimp only at hSw)
                go_simp
                try (with_reducible rfl)
              try simp only [Act.put, List.setIfInBounds_toArray, List.set_cons_zero, List.set_cons_succ]
              refine Held.takeL (i := 18) (v := ?_) rfl (by kernel_rfl) (by kernel_rfl) (by kernel_rfl) (fun _ _ _ h => h) (Or.inl ⟨by rfl, ?_⟩) (by assumption) ?_
              rotate_left
              · intro W hSw
                (try dsimp only at hSw)
                go_simp
                try (with_reducible rfl)
              try simp only [Act.put, List.setIfInBounds_toArray, List.set_cons_zero, List.set_cons_succ]
              refine Held.takeL (i := 19) (v := ?_) rfl (by kernel_rfl) (by kernel_rfl) (by kernel_rfl) (fun _ _ _ h => h) (Or.inl ⟨by rfl, ?_⟩) (by assumption) ?_
              rotate_left
              · intro W hSw
                (try dsimp only at hSw)
                go_simp
                try (with_reducible rfl)
              try simp only [Act.put, List.setIfInBounds_toArray, List.set_cons_zero, List.set_cons_succ]
              refine Held.takeL (i := 20) (v := ?_) rfl (by kernel_rfl) (by kernel_rfl) (by kernel_rfl) (fun _ _ _ h => h) (Or.inl ⟨by rfl, ?_⟩) (by assumption) ?_
              rotate_left
              · intro W hSw
                (try dsimp only at hSw)
                go_simp
                try (with_reducible rfl)
              try simp only [Act.put, List.setIfInBounds_toArray, List.set_cons_zero, List.set_cons_succ]
              refine Held.takeL (i := 21) (v := ?_) rfl (by kernel_rfl) (by kernel_rfl) (by kernel_rfl) (fun _ _ _ h => h) (Or.inl ⟨by rfl, ?_⟩) (by assumption) ?_
              rotate_left
              · intro W hSw
                (try dsimp only at hSw)
                go_simp
                try (with_reducible rfl)
              try simp only [Act.put, List.setIfInBounds_toArray, List.set_cons_zero, List.set_cons_succ]
              refine Held.takeL (i := 22) (v := ?_) rfl (by kernel_rfl) (by kernel_rfl) (by kernel_rfl) (fun _ _ _ h => h) (Or.inl ⟨by rfl, ?_⟩) (by assumption) ?_
              rotate_left
              · intro W hSw
                (try dsimp only at hSw)
                go_simp
                try (with_reducible rfl)
              try simp only [Act.put, List.setIfInBounds_toArray, List.set_cons_zero, List.set_cons_succ]
              refine Held.takeL (i := 23) (v := ?_) rfl (by kernel_rfl) (by kernel_rfl) (by kernel_rfl) (fun _ _ _ h => h) (Or.inl ⟨by rfl, ?_⟩) (by assumption) ?_
              rotate_left
              · intro W hSw
                (try dsimp only at hSw)
                go_simp
                try (with_reducible rfl)
              try simp only [Act.put, List.setIfInBounds_toArray, List.set_cons_zero, List.set_cons_succ]
              refine Held.takeL (i := 24) (v := ?_) rfl (by kernel_rfl) (by kernel_rfl) (by kernel_rfl) (fun _ _ _ h => h) (Or.inl ⟨by rfl, ?_⟩) (by assumption) ?_
              rotate_left
              · intro W hSw
                (try dsimp only at hSw)
                go_simp
                try (with_reducible rfl)
              try simp only [Act.put, List.setIfInBounds_toArray, List.set_cons_zero, List.set_cons_succ]
              refine Held.takeL (i := 25) (v := ?_) rfl (by kernel_rfl) (by kernel_rfl) (by kernel_rfl) (fun _ _ _ h => h) (Or.inl ⟨by rfl, ?_⟩) (by assumption) ?_
              rotate_left
              · intro W hSw
                (try dsimp only at hSw)
                go_simp
                try (with_reducible rfl)
              try simp only [Act.put, List.setIfInBounds_toArray, List.set_cons_zero, List.set_cons_succ]
              refine Held.takeL (i := 26) (v := ?_) rfl (by kernel_rfl) (by kernel_rfl) (by kernel_rfl) (fun _ _ _ h => h) (Or.inl ⟨by rfl, ?_⟩) (by assumption) ?_
              rotate_left
              · intro W hSw
                (try dsimp only at hSw)
                go_simp
                try (with_reducible rfl)
              try simp only [Act.put, List.setIfInBounds_toArray, List.set_cons_zero, List.set_cons_succ]
              refine wpAnyH_done (by kernel_rfl) ?_ _
              have k2 := hb.trans (Below.mono hk2 hb.size)
              have l2 := (hk2.cell (p := ⟨w.heap.size, 0, none⟩) hsz).trans hl0
              have s2 : w.heap.size < w2.heap.size := Nat.lt_of_lt_of_le hsz hk2.size
              clear HSt HK0 hk2 HV c0 c1 c2 c3 c4 c5 c6 c7 c8 c9 c10 c11 c12 c13
              (try clear hHeld)
              go_wp2_with fail
              go_roundw
              case rel => exact ⟨k + 1, by omega, by go_num, HN, k2, l2, s2⟩
              case measure => simp [intOf]; omega
        · have hkd : decide (0 < (k : Int)) = false := by simp; omega
          have HPz : Hid (prevK L k = none) := Lib.hid (by have e : k = 0 := by omega
                                                           rw [e]; rfl)
          generalize L[k] = ex at *
          obtain ⟨key, kind, auA, auN, auc, auL, edA, edN, edc, edL, ti, co, pu, y, m, d, ci, vol, pa, cr⟩ := ex
          dsimp only at c0 c1 c2 c3 c4 c5 c6 c7 c8 c9 c10 c11 c12 c13 HPs
          have HR := Lib.hid hr
          clear hr hx?
          cases hok : okE (⟨key, kind, auA, auN, auc, auL, edA, edN, edc, edL, ti, co, pu, y, m, d, ci, vol, pa, cr⟩ : En) with
          | false =>
            have HOK := Lib.hid hok
            have HF : Hid (okLib L = false) := Lib.hid (by rw [HE.out, ← HD.out, HGo.out, hok]; simp)
            clear hok
            have HV := Lib.hid (fun w' (hk : Below wr.heap.size wr w') => l4Entry_any key kind auA auN auc auL edA edN edc edL ti co pu y m d ci vol pa cr w' (HR.out.below hk) HSz.out)
            rw [HOK.out] at HV
            have HSt : Hid (∀ W, Kept wr W → (W.cell? ⟨g, o + k * 14, none⟩ = some (.string key) ∧ W.cell? ⟨g, o + k * 14 + 1, none⟩ = some (.int .i64 kind) ∧ W.cell? ⟨g, o + k * 14 + 2, none⟩ = some (.slice auA auN auc) ∧ W.cell? ⟨g, o + k * 14 + 3, none⟩ = some (.slice edA edN edc) ∧ W.cell? ⟨g, o + k * 14 + 4, none⟩ = some (.string ti) ∧ W.cell? ⟨g, o + k * 14 + 5, none⟩ = some (.string co) ∧ W.cell? ⟨g, o + k * 14 + 6, none⟩ = some (.string pu) ∧ W.cell? ⟨g, o + k * 14 + 7, none⟩ = some (.int .i64 y) ∧ W.cell? ⟨g, o + k * 14 + 8, none⟩ = some (.int .i64 m) ∧ W.cell? ⟨g, o + k * 14 + 9, none⟩ = some (.int .i64 d) ∧ W.cell? ⟨g, o + k * 14 + 10, none⟩ = some (.bool ci) ∧ W.cell? ⟨g, o + k * 14 + 11, none⟩ = some (.int .i64 vol) ∧ W.cell? ⟨g, o + k * 14 + 12, none⟩ = some (.string pa) ∧ W.cell? ⟨g, o + k * 14 + 13, none⟩ = some (.string cr) ∧ W.cell? ⟨w.heap.size, 0, none⟩ = some (.slice (some ⟨g, o, none⟩) N c) ∧ Kept wr W)) := Lib.hid (fun W h => ⟨(h.cell (p := ⟨g, o + k * 14, none⟩) hg).trans c0, (h.cell (p := ⟨g, o + k * 14 + 1, none⟩) hg).trans c1, (h.cell (p := ⟨g, o + k * 14 + 2, none⟩) hg).trans c2, (h.cell (p := ⟨g, o + k * 14 + 3, none⟩) hg).trans c3, (h.cell (p := ⟨g, o + k * 14 + 4, none⟩) hg).trans c4, (h.cell (p := ⟨g, o + k * 14 + 5, none⟩) hg).trans c5, (h.cell (p := ⟨g, o + k * 14 + 6, none⟩) hg).trans c6, (h.cell (p := ⟨g, o + k * 14 + 7, none⟩) hg).trans c7, (h.cell (p := ⟨g, o + k * 14 + 8, none⟩) hg).trans c8, (h.cell (p := ⟨g, o + k * 14 + 9, none⟩) hg).trans c9, (h.cell (p := ⟨g, o + k * 14 + 10, none⟩) hg).trans c10, (h.cell (p := ⟨g, o + k * 14 + 11, none⟩) hg).trans c11, (h.cell (p := ⟨g, o + k * 14 + 12, none⟩) hg).trans c12, (h.cell (p := ⟨g, o + k * 14 + 13, none⟩) hg).trans c13, (h.cell (p := ⟨w.heap.size, 0, none⟩) hsz).trans hl0, h⟩)
            have HK0 := Lib.hid (Kept.drew wr)

            go_wp2_with fail
            refine wp_region_held_drew (S := fun W => W.cell? ⟨g, o + k * 14, none⟩ = some (.string key) ∧ W.cell? ⟨g, o + k * 14 + 1, none⟩ = some (.int .i64 kind) ∧ W.cell? ⟨g, o + k * 14 + 2, none⟩ = some (.slice auA auN auc) ∧ W.cell? ⟨g, o + k * 14 + 3, none⟩ = some (.slice edA edN edc) ∧ W.cell? ⟨g, o + k * 14 + 4, none⟩ = some (.string ti) ∧ W.cell? ⟨g, o + k * 14 + 5, none⟩ = some (.string co) ∧ W.cell? ⟨g, o + k * 14 + 6, none⟩ = some (.string pu) ∧ W.cell? ⟨g, o + k * 14 + 7, none⟩ = some (.int .i64 y) ∧ W.cell? ⟨g, o + k * 14 + 8, none⟩ = some (.int .i64 m) ∧ W.cell? ⟨g, o + k * 14 + 9, none⟩ = some (.int .i64 d) ∧ W.cell? ⟨g, o + k * 14 + 10, none⟩ = some (.bool ci) ∧ W.cell? ⟨g, o + k * 14 + 11, none⟩ = some (.int .i64 vol) ∧ W.cell? ⟨g, o + k * 14 + 12, none⟩ = some (.string pa) ∧ W.cell? ⟨g, o + k * 14 + 13, none⟩ = some (.string cr) ∧ W.cell? ⟨w.heap.size, 0, none⟩ = some (.slice (some ⟨g, o, none⟩) N c) ∧ Kept wr W) (by kernel_rfl) (HSt.out _ HK0.out) (fun hHeld => ?_)
            refine Held.takeL (i := 0) (v := ?_) rfl (by kernel_rfl) (by kernel_rfl) (by kernel_rfl) (fun _ _ _ h => h) (Or.inl ⟨by rfl, ?_⟩) (by assumption) ?_
            rotate_left
            · intro W hSw
              (try dsimp only at hSw)
              go_simp
              try (with_reducible rfl)
            try simp only [Act.put, List.setIfInBounds_toArray, List.set_cons_zero, List.set_cons_succ]
            refine Held.takeL (i := 1) (v := ?_) rfl (by kernel_rfl) (by kernel_rfl) (by kernel_rfl) (fun _ _ _ h => h) (Or.inl ⟨by rfl, ?_⟩) (by assumption) ?_
            rotate_left
            · intro W hSw
              (try dsimp only at hSw)
              go_simp
              try (with_reducible rfl)
            try simp only [Act.put, List.setIfInBounds_toArray, List.set_cons_zero, List.set_cons_succ]
            refine Held.takeL (i := 2) (v := ?_) rfl (by kernel_rfl) (by kernel_rfl) (by kernel_rfl) (fun _ _ _ h => h) (Or.inl ⟨by rfl, ?_⟩) (by assumption) ?_
            rotate_left
            · intro W hSw
              (try dsimp only at hSw)
              go_simp
              try (with_reducible rfl)
            try simp only [Act.put, List.setIfInBounds_toArray, List.set_cons_zero, List.set_cons_succ]
            refine Held.takeL (i := 3) (v := ?_) rfl (by kernel_rfl) (by kernel_rfl) (by kernel_rfl) (fun _ _ _ h => h) (Or.inl ⟨by rfl, ?_⟩) (by assumption) ?_
            rotate_left
            · intro W hSw
              (try dsimp only at hSw)
              go_simp
              try (with_reducible rfl)
            try simp only [Act.put, List.setIfInBounds_toArray, List.set_cons_zero, List.set_cons_succ]
            refine Held.takeL (i := 4) (v := ?_) rfl (by kernel_rfl) (by kernel_rfl) (by kernel_rfl) (fun _ _ _ h => h) (Or.inl ⟨by rfl, ?_⟩) (by assumption) ?_
            rotate_left
            · intro W hSw
              (try dsimp only at hSw)
              go_simp
              try (with_reducible rfl)
            try simp only [Act.put, List.setIfInBounds_toArray, List.set_cons_zero, List.set_cons_succ]
            refine Held.callL (i := 5) rfl (by kernel_rfl) (by rfl) (fun K hK => ?_)
            try go_simp
            go_at_call 46
            refine (HV.out _ HK0.out).mono ?_
            rintro e w2 ⟨rfl, b2⟩
            have hk2 : Kept wr w2 := Kept.next HK0.out b2
            try go_wp2_with fail
            refine hK.out _ _ ?_ (fun hHeld => ?_)
            · exact HSt.out _ hk2
            clear hK K
            try simp only [Act.put, List.setIfInBounds_toArray, List.set_cons_zero, List.set_cons_succ]
            refine Held.takeL (i := 6) (v := ?_) rfl (by kernel_rfl) (by kernel_rfl) (by kernel_rfl) (fun _ _ _ h => h) (Or.inl ⟨by rfl, ?_⟩) (by assumption) ?_
            rotate_left
            · intro W hSw
              (try dsimp only at hSw)
              go_simp
              try (with_reducible rfl)
            try simp only [Act.put, List.setIfInBounds_toArray, List.set_cons_zero, List.set_cons_succ]
            refine Held.takeL (i := 7) (v := ?_) rfl (by kernel_rfl) (by kernel_rfl) (by kernel_rfl) (fun _ _ _ h => h) (Or.inl ⟨by rfl, ?_⟩) (by assumption) ?_
            rotate_left
            · intro W hSw
              (try dsimp only at hSw)
              go_simp
              try (with_reducible rfl)
            try simp only [Act.put, List.setIfInBounds_toArray, List.set_cons_zero, List.set_cons_succ]
            refine Held.skipL (i := 8) rfl (by kernel_rfl) (by kernel_rfl) (by kernel_rfl) (fun _ _ _ h => h) (by rfl) (by assumption) ?_
            try simp only [Act.put, List.setIfInBounds_toArray, List.set_cons_zero, List.set_cons_succ]
            refine Held.skipL (i := 9) rfl (by kernel_rfl) (by kernel_rfl) (by kernel_rfl) (fun _ _ _ h => h) (by rfl) (by assumption) ?_
            try simp only [Act.put, List.setIfInBounds_toArray, List.set_cons_zero, List.set_cons_succ]
            refine Held.skipL (i := 10) rfl (by kernel_rfl) (by kernel_rfl) (by kernel_rfl) (fun _ _ _ h => h) (by rfl) (by assumption) ?_
            try simp only [Act.put, List.setIfInBounds_toArray, List.set_cons_zero, List.set_cons_succ]
            refine Held.skipL (i := 11) rfl (by kernel_rfl) (by kernel_rfl) (by kernel_rfl) (fun _ _ _ h => h) (by rfl) (by assumption) ?_
            try simp only [Act.put, List.setIfInBounds_toArray, List.set_cons_zero, List.set_cons_succ]
            refine Held.skipL (i := 12) rfl (by kernel_rfl) (by kernel_rfl) (by kernel_rfl) (fun _ _ _ h => h) (by rfl) (by assumption) ?_
            try simp only [Act.put, List.setIfInBounds_toArray, List.set_cons_zero, List.set_cons_succ]
            refine Held.skipL (i := 13) rfl (by kernel_rfl) (by kernel_rfl) (by kernel_rfl) (fun _ _ _ h => h) (by rfl) (by assumption) ?_
            try simp only [Act.put, List.setIfInBounds_toArray, List.set_cons_zero, List.set_cons_succ]
            refine Held.skipL (i := 14) rfl (by kernel_rfl) (by kernel_rfl) (by kernel_rfl) (fun _ _ _ h => h) (by rfl) (by assumption) ?_
            try simp only [Act.put, List.setIfInBounds_toArray, List.set_cons_zero, List.set_cons_succ]
            refine Held.skipL (i := 15) rfl (by kernel_rfl) (by kernel_rfl) (by kernel_rfl) (fun _ _ _ h => h) (by rfl) (by assumption) ?_
            try simp only [Act.put, List.setIfInBounds_toArray, List.set_cons_zero, List.set_cons_succ]
            refine Held.skipL (i := 16) rfl (by kernel_rfl) (by kernel_rfl) (by kernel_rfl) (fun _ _ _ h => h) (by rfl) (by assumption) ?_
            try simp only [Act.put, List.setIfInBounds_toArray, List.set_cons_zero, List.set_cons_succ]
            refine Held.skipL (i := 17) rfl (by kernel_rfl) (by kernel_rfl) (by kernel_rfl) (fun _ _ _ h => h) (by rfl) (by assumption) ?_
            try simp only [Act.put, List.setIfInBounds_toArray, List.set_cons_zero, List.set_cons_succ]
            refine Held.skipL (i := 18) rfl (by kernel_rfl) (by kernel_rfl) (by kernel_rfl) (fun _ _ _ h => h) (by rfl) (by assumption) ?_
            try simp only [Act.put, List.setIfInBounds_toArray, List.set_cons_zero, List.set_cons_succ]
            refine Held.skipL (i := 19) rfl (by kernel_rfl) (by kernel_rfl) (by kernel_rfl) (fun _ _ _ h => h) (by rfl) (by assumption) ?_
            try simp only [Act.put, List.setIfInBounds_toArray, List.set_cons_zero, List.set_cons_succ]
            refine Held.skipL (i := 20) rfl (by kernel_rfl) (by kernel_rfl) (by kernel_rfl) (fun _ _ _ h => h) (by rfl) (by assumption) ?_
            try simp only [Act.put, List.setIfInBounds_toArray, List.set_cons_zero, List.set_cons_succ]
            refine Held.skipL (i := 21) rfl (by kernel_rfl) (by kernel_rfl) (by kernel_rfl) (fun _ _ _ h => h) (by rfl) (by assumption) ?_
            try simp only [Act.put, List.setIfInBounds_toArray, List.set_cons_zero, List.set_cons_succ]
            refine Held.skipL (i := 22) rfl (by kernel_rfl) (by kernel_rfl) (by kernel_rfl) (fun _ _ _ h => h) (by rfl) (by assumption) ?_
            try simp only [Act.put, List.setIfInBounds_toArray, List.set_cons_zero, List.set_cons_succ]
            refine Held.skipL (i := 23) rfl (by kernel_rfl) (by kernel_rfl) (by kernel_rfl) (fun _ _ _ h => h) (by rfl) (by assumption) ?_
            try simp only [Act.put, List.setIfInBounds_toArray, List.set_cons_zero, List.set_cons_succ]
            refine Held.skipL (i := 24) rfl (by kernel_rfl) (by kernel_rfl) (by kernel_rfl) (fun _ _ _ h => h) (by rfl) (by assumption) ?_
            try simp only [Act.put, List.setIfInBounds_toArray, List.set_cons_zero, List.set_cons_succ]
            refine Held.skipL (i := 25) rfl (by kernel_rfl) (by kernel_rfl) (by kernel_rfl) (fun _ _ _ h => h) (by rfl) (by assumption) ?_
            try simp only [Act.put, List.setIfInBounds_toArray, List.set_cons_zero, List.set_cons_succ]
            refine Held.takeL (i := 26) (v := ?_) rfl (by kernel_rfl) (by kernel_rfl) (by kernel_rfl) (fun _ _ _ h => h) (Or.inl ⟨by rfl, ?_⟩) (by assumption) ?_
            rotate_left
            · intro W hSw
              (try dsimp only at hSw)
              go_simp
              try (with_reducible rfl)
            try simp only [Act.put, List.setIfInBounds_toArray, List.set_cons_zero, List.set_cons_succ]
            refine wpAnyH_done (by kernel_rfl) ?_ _
            have k2 := hb.trans (Below.mono hk2 hb.size)
            have l2 := (hk2.cell (p := ⟨w.heap.size, 0, none⟩) hsz).trans hl0
            have s2 : w.heap.size < w2.heap.size := Nat.lt_of_lt_of_le hsz hk2.size
            clear HSt HK0 hk2 HV c0 c1 c2 c3 c4 c5 c6 c7 c8 c9 c10 c11 c12 c13
            (try clear hHeld)
            go_wp2_with fail
            go_ret
            exact ⟨by rw [HF.out]; rfl, k2⟩
          | true =>
            have HOK := Lib.hid hok
            have HN : Hid (goL (prevK L (k + 1)) (L.drop (k + 1)) = goL none L) := Lib.hid (by rw [← HD.out, HGo.out, hok, HPz.out, HPs.out]; simp)
            clear hok
            have HV := Lib.hid (fun w' (hk : Below wr.heap.size wr w') => l4Entry_any key kind auA auN auc auL edA edN edc edL ti co pu y m d ci vol pa cr w' (HR.out.below hk) HSz.out)
            rw [HOK.out] at HV
            have HSt : Hid (∀ W, Kept wr W → (W.cell? ⟨g, o + k * 14, none⟩ = some (.string key) ∧ W.cell? ⟨g, o + k * 14 + 1, none⟩ = some (.int .i64 kind) ∧ W.cell? ⟨g, o + k * 14 + 2, none⟩ = some (.slice auA auN auc) ∧ W.cell? ⟨g, o + k * 14 + 3, none⟩ = some (.slice edA edN edc) ∧ W.cell? ⟨g, o + k * 14 + 4, none⟩ = some (.string ti) ∧ W.cell? ⟨g, o + k * 14 + 5, none⟩ = some (.string co) ∧ W.cell? ⟨g, o + k * 14 + 6, none⟩ = some (.string pu) ∧ W.cell? ⟨g, o + k * 14 + 7, none⟩ = some (.int .i64 y) ∧ W.cell? ⟨g, o + k * 14 + 8, none⟩ = some (.int .i64 m) ∧ W.cell? ⟨g, o + k * 14 + 9, none⟩ = some (.int .i64 d) ∧ W.cell? ⟨g, o + k * 14 + 10, none⟩ = some (.bool ci) ∧ W.cell? ⟨g, o + k * 14 + 11, none⟩ = some (.int .i64 vol) ∧ W.cell? ⟨g, o + k * 14 + 12, none⟩ = some (.string pa) ∧ W.cell? ⟨g, o + k * 14 + 13, none⟩ = some (.string cr) ∧ W.cell? ⟨w.heap.size, 0, none⟩ = some (.slice (some ⟨g, o, none⟩) N c) ∧ Kept wr W)) := Lib.hid (fun W h => ⟨(h.cell (p := ⟨g, o + k * 14, none⟩) hg).trans c0, (h.cell (p := ⟨g, o + k * 14 + 1, none⟩) hg).trans c1, (h.cell (p := ⟨g, o + k * 14 + 2, none⟩) hg).trans c2, (h.cell (p := ⟨g, o + k * 14 + 3, none⟩) hg).trans c3, (h.cell (p := ⟨g, o + k * 14 + 4, none⟩) hg).trans c4, (h.cell (p := ⟨g, o + k * 14 + 5, none⟩) hg).trans c5, (h.cell (p := ⟨g, o + k * 14 + 6, none⟩) hg).trans c6, (h.cell (p := ⟨g, o + k * 14 + 7, none⟩) hg).trans c7, (h.cell (p := ⟨g, o + k * 14 + 8, none⟩) hg).trans c8, (h.cell (p := ⟨g, o + k * 14 + 9, none⟩) hg).trans c9, (h.cell (p := ⟨g, o + k * 14 + 10, none⟩) hg).trans c10, (h.cell (p := ⟨g, o + k * 14 + 11, none⟩) hg).trans c11, (h.cell (p := ⟨g, o + k * 14 + 12, none⟩) hg).trans c12, (h.cell (p := ⟨g, o + k * 14 + 13, none⟩) hg).trans c13, (h.cell (p := ⟨w.heap.size, 0, none⟩) hsz).trans hl0, h⟩)
            have HK0 := Lib.hid (Kept.drew wr)

            go_wp2_with fail
            refine wp_region_held_drew (S := fun W => W.cell? ⟨g, o + k * 14, none⟩ = some (.string key) ∧ W.cell? ⟨g, o + k * 14 + 1, none⟩ = some (.int .i64 kind) ∧ W.cell? ⟨g, o + k * 14 + 2, none⟩ = some (.slice auA auN auc) ∧ W.cell? ⟨g, o + k * 14 + 3, none⟩ = some (.slice edA edN edc) ∧ W.cell? ⟨g, o + k * 14 + 4, none⟩ = some (.string ti) ∧ W.cell? ⟨g, o + k * 14 + 5, none⟩ = some (.string co) ∧ W.cell? ⟨g, o + k * 14 + 6, none⟩ = some (.string pu) ∧ W.cell? ⟨g, o + k * 14 + 7, none⟩ = some (.int .i64 y) ∧ W.cell? ⟨g, o + k * 14 + 8, none⟩ = some (.int .i64 m) ∧ W.cell? ⟨g, o + k * 14 + 9, none⟩ = some (.int .i64 d) ∧ W.cell? ⟨g, o + k * 14 + 10, none⟩ = some (.bool ci) ∧ W.cell? ⟨g, o + k * 14 + 11, none⟩ = some (.int .i64 vol) ∧ W.cell? ⟨g, o + k * 14 + 12, none⟩ = some (.string pa) ∧ W.cell? ⟨g, o + k * 14 + 13, none⟩ = some (.string cr) ∧ W.cell? ⟨w.heap.size, 0, none⟩ = some (.slice (some ⟨g, o, none⟩) N c) ∧ Kept wr W) (by kernel_rfl) (HSt.out _ HK0.out) (fun hHeld => ?_)
            refine Held.takeL (i := 0) (v := ?_) rfl (by kernel_rfl) (by kernel_rfl) (by kernel_rfl) (fun _ _ _ h => h) (Or.inl ⟨by rfl, ?_⟩) (by assumption) ?_
            rotate_left
            · intro W hSw
              (try dsimp only at hSw)
              go_simp
              try (with_reducible rfl)
            try simp only [Act.put, List.setIfInBounds_toArray, List.set_cons_zero, List.set_cons_succ]
            refine Held.takeL (i := 1) (v := ?_) rfl (by kernel_rfl) (by kernel_rfl) (by kernel_rfl) (fun _ _ _ h => h) (Or.inl ⟨by rfl, ?_⟩) (by assumption) ?_
            rotate_left
            · intro W hSw
              (try dsimp only at hSw)
              go_simp
              try (with_reducible rfl)
            try simp only [Act.put, List.setIfInBounds_toArray, List.set_cons_zero, List.set_cons_succ]
            refine Held.takeL (i := 2) (v := ?_) rfl (by kernel_rfl) (by kernel_rfl) (by kernel_rfl) (fun _ _ _ h => h) (Or.inl ⟨by rfl, ?_⟩) (by assumption) ?_
            rotate_left
            · intro W hSw
              (try dsimp only at hSw)
              go_simp
              try (with_reducible rfl)
            try simp only [Act.put, List.setIfInBounds_toArray, List.set_cons_zero, List.set_cons_succ]
            refine Held.takeL (i := 3) (v := ?_) rfl (by kernel_rfl) (by kernel_rfl) (by kernel_rfl) (fun _ _ _ h => h) (Or.inl ⟨by rfl, ?_⟩) (by assumption) ?_
            rotate_left
            · intro W hSw
              (try dsimp only at hSw)
              go_simp
              try (with_reducible rfl)
            try simp only [Act.put, List.setIfInBounds_toArray, List.set_cons_zero, List.set_cons_succ]
            refine Held.takeL (i := 4) (v := ?_) rfl (by kernel_rfl) (by kernel_rfl) (by kernel_rfl) (fun _ _ _ h => h) (Or.inl ⟨by rfl, ?_⟩) (by assumption) ?_
            rotate_left
            · intro W hSw
              (try dsimp only at hSw)
              go_simp
              try (with_reducible rfl)
            try simp only [Act.put, List.setIfInBounds_toArray, List.set_cons_zero, List.set_cons_succ]
            refine Held.callL (i := 5) rfl (by kernel_rfl) (by rfl) (fun K hK => ?_)
            try go_simp
            go_at_call 46
            refine (HV.out _ HK0.out).mono ?_
            rintro e w2 ⟨rfl, b2⟩
            have hk2 : Kept wr w2 := Kept.next HK0.out b2
            try go_wp2_with fail
            refine hK.out _ _ ?_ (fun hHeld => ?_)
            · exact HSt.out _ hk2
            clear hK K
            try simp only [Act.put, List.setIfInBounds_toArray, List.set_cons_zero, List.set_cons_succ]
            refine Held.takeL (i := 6) (v := ?_) rfl (by kernel_rfl) (by kernel_rfl) (by kernel_rfl) (fun _ _ _ h => h) (Or.inl ⟨by rfl, ?_⟩) (by assumption) ?_
            rotate_left
            · intro W hSw
              (try dsimp only at hSw)
              go_simp
              try (with_reducible rfl)
            try simp only [Act.put, List.setIfInBounds_toArray, List.set_cons_zero, List.set_cons_succ]
            refine Held.takeL (i := 7) (v := ?_) rfl (by kernel_rfl) (by kernel_rfl) (by kernel_rfl) (fun _ _ _ h => h) (Or.inl ⟨by rfl, ?_⟩) (by assumption) ?_
            rotate_left
            · intro W hSw
              (try dsimp only at hSw)
              go_simp
              try (with_reducible rfl)
            try simp only [Act.put, List.setIfInBounds_toArray, List.set_cons_zero, List.set_cons_succ]
            refine Held.takeL (i := 8) (v := ?_) rfl (by kernel_rfl) (by kernel_rfl) (by kernel_rfl) (fun _ _ _ h => h) (Or.inl ⟨by rfl, ?_⟩) (by assumption) ?_
            rotate_left
            · intro W hSw
              (try dsimp only at hSw)
              go_simp
              try (with_reducible rfl)
            try simp only [Act.put, List.setIfInBounds_toArray, List.set_cons_zero, List.set_cons_succ]
            refine Held.takeL (i := 9) (v := ?_) rfl (by kernel_rfl) (by kernel_rfl) (by kernel_rfl) (fun _ _ _ h => h) (Or.inl ⟨by rfl, ?_⟩) (by assumption) ?_
            rotate_left
            · intro W hSw
              (try dsimp only at hSw)
              go_simp
              try (with_reducible rfl)
            try simp only [Act.put, List.setIfInBounds_toArray, List.set_cons_zero, List.set_cons_succ]
            refine Held.takeL (i := 10) (v := ?_) rfl (by kernel_rfl) (by kernel_rfl) (by kernel_rfl) (fun _ _ _ h => h) (Or.inl ⟨by rfl, ?_⟩) (by assumption) ?_
            rotate_left
            · intro W hSw
              (try dsimp only at hSw)
              go_simp
              try (with_reducible rfl)
            try simp only [Act.put, List.setIfInBounds_toArray, List.set_cons_zero, List.set_cons_succ]
            refine Held.skipL (i := 11) rfl (by kernel_rfl) (by kernel_rfl) (by kernel_rfl) (fun _ _ _ h => h) (by rfl) (by assumption) ?_
            try simp only [Act.put, List.setIfInBounds_toArray, List.set_cons_zero, List.set_cons_succ]
            refine Held.skipL (i := 12) rfl (by kernel_rfl) (by kernel_rfl) (by kernel_rfl) (fun _ _ _ h => h) (by rfl) (by assumption) ?_
            try simp only [Act.put, List.setIfInBounds_toArray, List.set_cons_zero, List.set_cons_succ]
            refine Held.skipL (i := 13) rfl (by kernel_rfl) (by kernel_rfl) (by kernel_rfl) (fun _ _ _ h => h) (by rfl) (by assumption) ?_
            try simp only [Act.put, List.setIfInBounds_toArray, List.set_cons_zero, List.set_cons_succ]
            refine Held.skipL (i := 14) rfl (by kernel_rfl) (by kernel_rfl) (by kernel_rfl) (fun _ _ _ h => h) (by rfl) (by assumption) ?_
            try simp only [Act.put, List.setIfInBounds_toArray, List.set_cons_zero, List.set_cons_succ]
            refine Held.skipL (i := 15) rfl (by kernel_rfl) (by kernel_rfl) (by kernel_rfl) (fun _ _ _ h => h) (by rfl) (by assumption) ?_
            try simp only [Act.put, List.setIfInBounds_toArray, List.set_cons_zero, List.set_cons_succ]
            refine Held.skipL (i := 16) rfl (by kernel_rfl) (by kernel_rfl) (by kernel_rfl) (fun _ _ _ h => h) (by rfl) (by assumption) ?_
            try simp only [Act.put, List.setIfInBounds_toArray, List.set_cons_zero, List.set_cons_succ]
            refine Held.skipL (i := 17) rfl (by kernel_rfl) (by kernel_rfl) (by kernel_rfl) (fun _ _ _ h => h) (by rfl) (by assumption) ?_
            try simp only [Act.put, List.setIfInBounds_toArray, List.set_cons_zero, List.set_cons_succ]
            refine Held.skipL (i := 18) rfl (by kernel_rfl) (by kernel_rfl) (by kernel_rfl) (fun _ _ _ h => h) (by rfl) (by assumption) ?_
            try simp only [Act.put, List.setIfInBounds_toArray, List.set_cons_zero, List.set_cons_succ]
            refine Held.skipL (i := 19) rfl (by kernel_rfl) (by kernel_rfl) (by kernel_rfl) (fun _ _ _ h => h) (by rfl) (by assumption) ?_
            try simp only [Act.put, List.setIfInBounds_toArray, List.set_cons_zero, List.set_cons_succ]
            refine Held.skipL (i := 20) rfl (by kernel_rfl) (by kernel_rfl) (by kernel_rfl) (fun _ _ _ h => h) (by rfl) (by assumption) ?_
            try simp only [Act.put, List.setIfInBounds_toArray, List.set_cons_zero, List.set_cons_succ]
            refine Held.skipL (i := 21) rfl (by kernel_rfl) (by kernel_rfl) (by kernel_rfl) (fun _ _ _ h => h) (by rfl) (by assumption) ?_
            try simp only [Act.put, List.setIfInBounds_toArray, List.set_cons_zero, List.set_cons_succ]
            refine Held.skipL (i := 22) rfl (by kernel_rfl) (by kernel_rfl) (by kernel_rfl) (fun _ _ _ h => h) (by rfl) (by assumption) ?_
            try simp only [Act.put, List.setIfInBounds_toArray, List.set_cons_zero, List.set_cons_succ]
            refine Held.skipL (i := 23) rfl (by kernel_rfl) (by kernel_rfl) (by kernel_rfl) (fun _ _ _ h => h) (by rfl) (by assumption) ?_
            try simp only [Act.put, List.setIfInBounds_toArray, List.set_cons_zero, List.set_cons_succ]
            refine Held.skipL (i := 24) rfl (by kernel_rfl) (by kernel_rfl) (by kernel_rfl) (fun _ _ _ h => h) (by rfl) (by assumption) ?_
            try simp only [Act.put, List.setIfInBounds_toArray, List.set_cons_zero, List.set_cons_succ]
            refine Held.takeL (i := 25) (v := ?_) rfl (by kernel_rfl) (by kernel_rfl) (by kernel_rfl) (fun _ _ _ h => h) (Or.inl ⟨by rfl, ?_⟩) (by assumption) ?_
            rotate_left
            · intro W hSw
              (try dsimp only at hSw)
              go_simp
              try (with_reducible rfl)
            try simp only [Act.put, List.setIfInBounds_toArray, List.set_cons_zero, List.set_cons_succ]
            refine Held.takeL (i := 26) (v := ?_) rfl (by kernel_rfl) (by kernel_rfl) (by kernel_rfl) (fun _ _ _ h => h) (Or.inl ⟨by rfl, ?_⟩) (by assumption) ?_
            rotate_left
            · intro W hSw
              (try dsimp only at hSw)
              go_simp
              try (with_reducible rfl)
            try simp only [Act.put, List.setIfInBounds_toArray, List.set_cons_zero, List.set_cons_succ]
            refine wpAnyH_done (by kernel_rfl) ?_ _
            have k2 := hb.trans (Below.mono hk2 hb.size)
            have l2 := (hk2.cell (p := ⟨w.heap.size, 0, none⟩) hsz).trans hl0
            have s2 : w.heap.size < w2.heap.size := Nat.lt_of_lt_of_le hsz hk2.size
            clear HSt HK0 hk2 HV c0 c1 c2 c3 c4 c5 c6 c7 c8 c9 c10 c11 c12 c13
            (try clear hHeld)
            go_wp2_with fail
            go_roundw
            case rel => exact ⟨k + 1, by omega, by go_num, HN, k2, l2, s2⟩
            case measure => simp [intOf]; omega
      · have HF : Hid (okLib L = true) := Lib.hid (by rw [HE.out, ← HD.out, List.drop_eq_nil_of_le (by rw [HN0.out]; omega)]; rfl)
        go_wp2_with fail
        go_ret
        exact ⟨by rw [HF.out]; rfl, hb⟩
  · have HF : Hid (okLib L = false) := Lib.hid (by unfold okLib; rw [HN0.out, decide_eq_false h8]; rfl)
    go_enter Tryz.func23, Tryz.ntmps23
    go_wp2_with fail
    go_ret
    exact ⟨by rw [HF.out]; rfl, HB.out⟩

end Go.Proofs.YteccmlpibbchbaaGreatDoor.Lbs
/-
  What the size of a library bounds.
-/
namespace Go.Proofs.YteccmlpibbchbaaGreatDoor.Lbs
open Go.RowKit Pl Strs Help Name Stands SplitPl NmPl Word Part NGood Nms Jn Ens
theorem sm_of {w : World} {A : Option Addr} {L : List En} (h : RdE w A L) (hz : ∀ x ∈ L, x.sz ≤ 1048576) : ∀ x ∈ L, x.Sm := by
  intro x hx
  obtain ⟨k, hk, rfl⟩ := List.getElem_of_mem hx
  have hz' := hz _ hx
  obtain ⟨h1, h2, h3, h4⟩ := (h k _ (List.getElem?_eq_getElem hk)).1
  generalize L[k] = x at *
  unfold En.sz at hz'
  have lim : ∀ (K : List Nm) (C : Option Addr), RdN0 w C K → szL K ≤ 1048576 → ∀ x ∈ K, x.n ≤ 1048576 := fun K C h hz x hx => by
    have h1 := szL_mem hx
    obtain ⟨k, hk, rfl⟩ := List.getElem_of_mem hx
    have h2 := (h k _ (List.getElem?_eq_getElem hk)).1.2.2
    unfold Nm.sz at h1
    omega
  exact ⟨by omega, by omega, lim _ _ h1 (by omega), lim _ _ h3 (by omega)⟩
theorem sz_k {w w' : World} {x y : En} (hr : x.Rd w) (hr' : y.Rd w') (h : x.key4 = y.key4) : x.sz = y.sz := by
  obtain ⟨_, h2, _, h4⟩ := hr
  obtain ⟨_, g2, _, g4⟩ := hr'
  simp only [En.key4, Prod.mk.injEq] at h
  obtain ⟨e1, _, e3, e4, e5, e6, e7, _, _, e13, e14⟩ := h
  unfold En.sz
  rw [e1, ← h2, ← g2, ← h4, ← g4, szL_k4 e3, szL_k4 e4, len_of_key e3, len_of_key e4, e5, e6, e7, e13, e14]
theorem sz_of {w w' : World} {A B : Option Addr} {L M : List En} (hM : RdE w B M) (hL : RdE w' A L) (h : M.map En.key4 = L.map En.key4) (hz : ∀ x ∈ L, x.sz ≤ 1048576) : ∀ x ∈ M, x.sz ≤ 1048576 := by
  intro x hx
  obtain ⟨k, hk, rfl⟩ := List.getElem_of_mem hx
  have hk' : k < L.length := by rw [← len_of_key4 h]; exact hk
  have e : M[k].key4 = L[k].key4 := by
    have := congrArg (fun l => l[k]?) h
    simp [hk, hk'] at this
    exact this
  rw [sz_k (hM k _ (List.getElem?_eq_getElem hk)).1 (hL k _ (List.getElem?_eq_getElem hk')).1 e]
  exact hz _ (List.getElem_mem hk')
end Go.Proofs.YteccmlpibbchbaaGreatDoor.Lbs
