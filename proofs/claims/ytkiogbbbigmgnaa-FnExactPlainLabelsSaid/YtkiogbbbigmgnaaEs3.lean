/-
  Contract of the laws' helper eqEntryS.
-/
import Derived.Test.YtkiogbbbigmgnaaEs2
import Derived.Test.YtkiogbbbigmgnaaEn2
import Derived.Deep.RegionHeld3
namespace Go.Proofs.Ytkiogbbbigmgnaa.Ens
open Go.RowKit Pl Strs Help Name Stands SplitPl NmPl Word Part NGood Nms
set_option linter.unusedSimpArgs false
set_option linter.unusedVariables false

theorem len_of_key4 {L M : List En} (h : L.map En.key4 = M.map En.key4) : L.length = M.length := by
  have := congrArg List.length h
  simpa using this
set_option maxRecDepth 100000 in
set_option maxHeartbeats 8000000 in
/-- two lists of entries that say the same -/
theorem eqEntryS_same (A B : Option Addr) (c d N : Nat) (L M : List En) (w : World) (h : RdE w A L) (h' : RdE w B M) (hn : L.length = N) (hk : L.map En.key4 = M.map En.key4) (hm : N ≤ 1048576) (hl : ∀ x ∈ L, x.Sm) :
    Calls Try.prog 25 #[.slice A N c, .slice B N d] w fun e w' => e = .returned (.bool true) ∧ Below w.heap.size w w' := by
  have H := Lib.hid h
  have H' := Lib.hid h'
  have HN := Lib.hid hn
  have HK := Lib.hid hk
  have HL := Lib.hid hl
  clear h h' hn hk hl
  go_enter Try.func25, Try.ntmps25
  go_wp2_with fail
  go_loopw [5] (fun i wr => ∃ k : Nat, k ≤ N ∧ i = .int .i64 k ∧ Below w.heap.size w wr) (fun i _ => N - (intOf i).toNat)
  case atStart => exact ⟨0, Nat.zero_le _, rfl, Below.refl _ _⟩
  case round =>
    obtain ⟨k, hk, rfl, hb⟩ := hrel
    by_cases hlt : k < N
    · have hkx : k < L.length := by rw [HN.out]; exact hlt
      have hky : k < M.length := by rw [← len_of_key4 HK.out, HN.out]; exact hlt
      have hx? := List.getElem?_eq_getElem hkx
      have hy? := List.getElem?_eq_getElem hky
      have hkey : L[k].key4 = M[k].key4 := by
        have := congrArg (fun l => l[k]?) HK.out
        simp [hkx, hky] at this
        exact this
      obtain ⟨hr, g, o, rfl, hg, c0, c1, c2, c3, c4, c5, c6, c7, c8, c9, c10, c11, c12, c13⟩ := (H.out.below hb) k L[k] hx?
      obtain ⟨hr', g2, o2, rfl, hg2, d0, d1, d2, d3, d4, d5, d6, d7, d8, d9, d10, d11, d12, d13⟩ := (H'.out.below hb) k M[k] hy?
      have hln := HL.out _ (List.getElem_mem hkx)
      clear hx? hy?
      generalize L[k] = ex at *
      generalize M[k] = ey at *
      obtain ⟨key, kind, auA, auN, auc, auL, edA, edN, edc, edL, ti, co, pu, y, m, d, ci, vol, pa, cr⟩ := ex
      obtain ⟨key', kind', auB, auN', aud, auM, edB, edN', edd, edM, ti', co', pu', y', m', d', ci', vol', pa', cr'⟩ := ey
      simp only [En.key4, Prod.mk.injEq] at hkey
      obtain ⟨rfl, rfl, ka, ke, rfl, rfl, rfl, ⟨rfl, rfl, rfl, rfl⟩, rfl, rfl, rfl⟩ := hkey
      obtain ⟨s1, s2, s3, s4⟩ := hln
      dsimp only at *
      obtain rfl : auN = auN' := hr.2.1.symm.trans ((len_of_key ka).trans hr'.2.1)
      obtain rfl : edN = edN' := hr.2.2.2.symm.trans ((len_of_key ke).trans hr'.2.2.2)
      have HR1 := Lib.hid hr
      have HR2 := Lib.hid hr'
      have HKa := Lib.hid ka
      have HKe := Lib.hid ke
      have H3 := Lib.hid s3
      have H4 := Lib.hid s4
      have HS : Hid (∀ W, Kept wr W → (W.cell? ⟨g, o + k * 14, none⟩ = some (.string key) ∧ W.cell? ⟨g, o + k * 14 + 1, none⟩ = some (.int .i64 kind) ∧ W.cell? ⟨g, o + k * 14 + 2, none⟩ = some (.slice auA auN auc) ∧ W.cell? ⟨g, o + k * 14 + 3, none⟩ = some (.slice edA edN edc) ∧ W.cell? ⟨g, o + k * 14 + 4, none⟩ = some (.string ti) ∧ W.cell? ⟨g, o + k * 14 + 5, none⟩ = some (.string co) ∧ W.cell? ⟨g, o + k * 14 + 6, none⟩ = some (.string pu) ∧ W.cell? ⟨g, o + k * 14 + 7, none⟩ = some (.int .i64 y) ∧ W.cell? ⟨g, o + k * 14 + 8, none⟩ = some (.int .i64 m) ∧ W.cell? ⟨g, o + k * 14 + 9, none⟩ = some (.int .i64 d) ∧ W.cell? ⟨g, o + k * 14 + 10, none⟩ = some (.bool ci) ∧ W.cell? ⟨g, o + k * 14 + 11, none⟩ = some (.int .i64 vol) ∧ W.cell? ⟨g, o + k * 14 + 12, none⟩ = some (.string pa) ∧ W.cell? ⟨g, o + k * 14 + 13, none⟩ = some (.string cr) ∧ W.cell? ⟨g2, o2 + k * 14, none⟩ = some (.string key) ∧ W.cell? ⟨g2, o2 + k * 14 + 1, none⟩ = some (.int .i64 kind) ∧ W.cell? ⟨g2, o2 + k * 14 + 2, none⟩ = some (.slice auB auN aud) ∧ W.cell? ⟨g2, o2 + k * 14 + 3, none⟩ = some (.slice edB edN edd) ∧ W.cell? ⟨g2, o2 + k * 14 + 4, none⟩ = some (.string ti) ∧ W.cell? ⟨g2, o2 + k * 14 + 5, none⟩ = some (.string co) ∧ W.cell? ⟨g2, o2 + k * 14 + 6, none⟩ = some (.string pu) ∧ W.cell? ⟨g2, o2 + k * 14 + 7, none⟩ = some (.int .i64 y) ∧ W.cell? ⟨g2, o2 + k * 14 + 8, none⟩ = some (.int .i64 m) ∧ W.cell? ⟨g2, o2 + k * 14 + 9, none⟩ = some (.int .i64 d) ∧ W.cell? ⟨g2, o2 + k * 14 + 10, none⟩ = some (.bool ci) ∧ W.cell? ⟨g2, o2 + k * 14 + 11, none⟩ = some (.int .i64 vol) ∧ W.cell? ⟨g2, o2 + k * 14 + 12, none⟩ = some (.string pa) ∧ W.cell? ⟨g2, o2 + k * 14 + 13, none⟩ = some (.string cr) ∧ Kept wr W)) := Lib.hid (fun W h => ⟨(h.cell (p := ⟨g, o + k * 14, none⟩) hg).trans c0, (h.cell (p := ⟨g, o + k * 14 + 1, none⟩) hg).trans c1, (h.cell (p := ⟨g, o + k * 14 + 2, none⟩) hg).trans c2, (h.cell (p := ⟨g, o + k * 14 + 3, none⟩) hg).trans c3, (h.cell (p := ⟨g, o + k * 14 + 4, none⟩) hg).trans c4, (h.cell (p := ⟨g, o + k * 14 + 5, none⟩) hg).trans c5, (h.cell (p := ⟨g, o + k * 14 + 6, none⟩) hg).trans c6, (h.cell (p := ⟨g, o + k * 14 + 7, none⟩) hg).trans c7, (h.cell (p := ⟨g, o + k * 14 + 8, none⟩) hg).trans c8, (h.cell (p := ⟨g, o + k * 14 + 9, none⟩) hg).trans c9, (h.cell (p := ⟨g, o + k * 14 + 10, none⟩) hg).trans c10, (h.cell (p := ⟨g, o + k * 14 + 11, none⟩) hg).trans c11, (h.cell (p := ⟨g, o + k * 14 + 12, none⟩) hg).trans c12, (h.cell (p := ⟨g, o + k * 14 + 13, none⟩) hg).trans c13, (h.cell (p := ⟨g2, o2 + k * 14, none⟩) hg2).trans d0, (h.cell (p := ⟨g2, o2 + k * 14 + 1, none⟩) hg2).trans d1, (h.cell (p := ⟨g2, o2 + k * 14 + 2, none⟩) hg2).trans d2, (h.cell (p := ⟨g2, o2 + k * 14 + 3, none⟩) hg2).trans d3, (h.cell (p := ⟨g2, o2 + k * 14 + 4, none⟩) hg2).trans d4, (h.cell (p := ⟨g2, o2 + k * 14 + 5, none⟩) hg2).trans d5, (h.cell (p := ⟨g2, o2 + k * 14 + 6, none⟩) hg2).trans d6, (h.cell (p := ⟨g2, o2 + k * 14 + 7, none⟩) hg2).trans d7, (h.cell (p := ⟨g2, o2 + k * 14 + 8, none⟩) hg2).trans d8, (h.cell (p := ⟨g2, o2 + k * 14 + 9, none⟩) hg2).trans d9, (h.cell (p := ⟨g2, o2 + k * 14 + 10, none⟩) hg2).trans d10, (h.cell (p := ⟨g2, o2 + k * 14 + 11, none⟩) hg2).trans d11, (h.cell (p := ⟨g2, o2 + k * 14 + 12, none⟩) hg2).trans d12, (h.cell (p := ⟨g2, o2 + k * 14 + 13, none⟩) hg2).trans d13, h⟩)
      have HK0 := Lib.hid (Kept.drew wr)
      clear hr hr' ka ke s3 s4 c0 c1 c2 c3 c4 c5 c6 c7 c8 c9 c10 c11 c12 c13 d0 d1 d2 d3 d4 d5 d6 d7 d8 d9 d10 d11 d12 d13
      go_wp2_with fail
      go_region_held3 (fun W => (W.cell? ⟨g, o + k * 14, none⟩ = some (.string key) ∧ W.cell? ⟨g, o + k * 14 + 1, none⟩ = some (.int .i64 kind) ∧ W.cell? ⟨g, o + k * 14 + 2, none⟩ = some (.slice auA auN auc) ∧ W.cell? ⟨g, o + k * 14 + 3, none⟩ = some (.slice edA edN edc) ∧ W.cell? ⟨g, o + k * 14 + 4, none⟩ = some (.string ti) ∧ W.cell? ⟨g, o + k * 14 + 5, none⟩ = some (.string co) ∧ W.cell? ⟨g, o + k * 14 + 6, none⟩ = some (.string pu) ∧ W.cell? ⟨g, o + k * 14 + 7, none⟩ = some (.int .i64 y) ∧ W.cell? ⟨g, o + k * 14 + 8, none⟩ = some (.int .i64 m) ∧ W.cell? ⟨g, o + k * 14 + 9, none⟩ = some (.int .i64 d) ∧ W.cell? ⟨g, o + k * 14 + 10, none⟩ = some (.bool ci) ∧ W.cell? ⟨g, o + k * 14 + 11, none⟩ = some (.int .i64 vol) ∧ W.cell? ⟨g, o + k * 14 + 12, none⟩ = some (.string pa) ∧ W.cell? ⟨g, o + k * 14 + 13, none⟩ = some (.string cr) ∧ W.cell? ⟨g2, o2 + k * 14, none⟩ = some (.string key) ∧ W.cell? ⟨g2, o2 + k * 14 + 1, none⟩ = some (.int .i64 kind) ∧ W.cell? ⟨g2, o2 + k * 14 + 2, none⟩ = some (.slice auB auN aud) ∧ W.cell? ⟨g2, o2 + k * 14 + 3, none⟩ = some (.slice edB edN edd) ∧ W.cell? ⟨g2, o2 + k * 14 + 4, none⟩ = some (.string ti) ∧ W.cell? ⟨g2, o2 + k * 14 + 5, none⟩ = some (.string co) ∧ W.cell? ⟨g2, o2 + k * 14 + 6, none⟩ = some (.string pu) ∧ W.cell? ⟨g2, o2 + k * 14 + 7, none⟩ = some (.int .i64 y) ∧ W.cell? ⟨g2, o2 + k * 14 + 8, none⟩ = some (.int .i64 m) ∧ W.cell? ⟨g2, o2 + k * 14 + 9, none⟩ = some (.int .i64 d) ∧ W.cell? ⟨g2, o2 + k * 14 + 10, none⟩ = some (.bool ci) ∧ W.cell? ⟨g2, o2 + k * 14 + 11, none⟩ = some (.int .i64 vol) ∧ W.cell? ⟨g2, o2 + k * 14 + 12, none⟩ = some (.string pa) ∧ W.cell? ⟨g2, o2 + k * 14 + 13, none⟩ = some (.string cr) ∧ Kept wr W))
        (first | exact HS.out _ HK0.out | exact HS.out _ (by assumption))
        (first
          | (go_at_call 43; refine (eqEntry_same key kind auA auN auc auL edA edN edc edL ti co pu y m d ci vol pa cr auB edB aud edd auM edM _ (HR1.out.below HK0.out) (HR2.out.below HK0.out) HKa.out HKe.out s1 s2 H3.out H4.out).mono ?_; rintro e w1 ⟨rfl, b1⟩; have hk1 : Kept wr w1 := Kept.next HK0.out b1))
      have hb1 := hb.trans (Below.mono hk1 hb.size)
      clear HS HK0 hk1 b1
      (try clear hHeld)
      go_wp2_with fail
      go_roundw
      case rel => exact ⟨k + 1, by omega, by go_num, hb1⟩
      case measure => simp [intOf]; omega
    · go_wp2_with fail
      go_ret
      exact ⟨rfl, hb⟩
end Go.Proofs.Ytkiogbbbigmgnaa.Ens
