/-
  Drawing functions of chapter 2: anyNames.
-/
import Derived.Test.YtdjkgkfgnmcldaaDoorDnL
namespace Go.Proofs.YtdjkgkfgnmcldaaDoor.StN
open Go.RowKit Pl Cur Draw0 Strs Help Name Nms
set_option linter.unusedVariables false
set_option linter.unusedSimpArgs false

set_option maxRecDepth 100000 in
set_option maxHeartbeats 8000000 in
theorem anyNames_any (g : Nat) (A : Option Addr) (n c k : Nat) (s : Int) (w : World) (hk : k ≤ 1020000) (hn : n ≤ 1048576) (hcur : IsCur w g A n c k s) (hr : RdB w A n) (ha : Apart A n g) :
    Calls Tryd.prog 11 #[.pointer (some ⟨g, 0, none⟩)] w (SomeL w g A n c k 400 5) := by
  obtain ⟨i0, hi, hz0, hz1, hz2⟩ := info_parts infoNm
  have hgl : g < w.heap.size := hcur.lt
  have HA := Lib.hid ha
  have HS0 := Lib.hid (St.start hcur hr ha)
  have HNs := Lib.hid (names_any g A n c k s w (by omega) hn hcur hr ha)
  clear hcur hr ha
  go_enter Tryd.func11, Tryd.ntmps11
  go_wp2_with fail
  refine HNs.out.mono ?_
  rintro e w1 ⟨v, L, rfl, hG, hL, hX, hl⟩
  have HS1 := Lib.hid (HS0.out.call (Nat.le_refl _) hl)
  obtain ⟨Av, cv, rfl⟩ := form4 hG.1
  have HG1 := Lib.hid hG
  have HX := Lib.hid hX
  obtain ⟨nL, hnL⟩ : ∃ nL, L.length = nL := ⟨_, rfl⟩
  have HnL := Lib.hid hnL.symm
  rw [hnL] at HG1 hL ⊢
  clear hl hG hX hnL HS0 HNs
  obtain ⟨k1, s1, hk1, hc1⟩ := HS1.out.cur
  go_wp2_with fail
  refine (pick_any 12 (by omega) (by omega) g A n c k1 s1 _ (by omega) hn hc1 HS1.out.rd HA.out).mono ?_
  rintro e wr ⟨r, rfl, hr0, hr1, hl⟩
  have HS := Lib.hid (HS1.out.call hk1 hl)
  have HG := Lib.hid (HG1.out.kept hl.2 (fun j hj => by cases hj; exact hgl))
  clear hl hc1 HS1 HG1
  rcases (show r = 0 ∨ r = 1 ∨ (r ≠ 0 ∧ r ≠ 1) by omega) with h | h | ⟨h, h'⟩
  · subst h
    obtain ⟨k5, s5, hk5, hc5⟩ := HS.out.cur
    have HNm := Lib.hid (fun w9 (h1 : IsCur w9 g A n c k5 s5) (h2 : RdB w9 A n) => anyName_any g A n c k5 s5 w9 (by omega) hn h1 h2 HA.out)
    have HC5 := Lib.hid hc5
    clear hc5
    have hi' : nL ≤ 3 := by omega
    go_wp2_with fail
    refine (HNm.out _ HC5.out HS.out.rd).mono ?_
    rintro e w5 ⟨A', c', xs, p, f, sf, rfl, hG, hxl, hX, hp, hf, hs, hl⟩
    have HS5 := Lib.hid (HS.out.call hk5 hl)
    have HG5 := Lib.hid (HG.out.kept hl.2 (fun j hj => by cases hj; exact hgl))
    have HO5 : Hid (w5.ownsRow w.heap.size 43 4 (.slice Av nL cv) nL (ncells L)) := Lib.hid (by have := HG5.out.1; rwa [← HnL.out] at this)
    have hle := HS.out.le
    have hGn := Lib.hid (hG.base (show w.heap.size ≤ wr.heap.size + 1 by omega))
    have HN5 : Hid (SmN ⟨A', xs.length, c', xs, p, f, sf⟩) := Lib.hid ⟨by show xs.length ≤ 4; omega, hX, hp, hf, hs⟩
    have hsz5 := HS5.out.le
    have hxz : xs.length ≤ 4 := by omega
    clear hl hG HS HG HC5 HNm hX hxl
    go_wp2_with (first
      | (at_builtin; go_loud (refine wpList_append_own _ rfl _ _ 24 rfl w.heap.size 43 i0 _ 4 72 Tryd.underlying24 hi hz0 hz1 hz2 rfl (by decide) (.slice Av nL cv) nL (ncells L) rfl (HO5.out.alloc _) ⟨w5.heap.size, 0, none⟩ 1 1 [.slice A' xs.length c', .string p, .string f, .string sf] rfl rfl (four_new _ _ _ _ _ _) (by simp [Value.oneCell']) (by unfold maxLen; omega) (by omega) (by simp; omega) ?_; intro v' w9 hown' hgrow hne; obtain ⟨A9, c9, rfl⟩ := form4 hown'; have HS9 := Lib.hid ((HS5.out.alloc (.cells #[.slice A' xs.length c', .string p, .string f, .string sf] 43)).grow hgrow (fun j hj => (HG5.out.1.lt j hj).1)); have HG9 := Lib.hid (GvL.snoc (x := ⟨A', xs.length, c', xs, p, f, sf⟩) (HG5.out.alloc (.cells #[.slice A' xs.length c', .string p, .string f, .string sf] 43)) rfl (hGn.out.alloc _) hgrow (by rw [← HnL.out]; exact hown')))) | fail)
    have HX9 := Lib.hid (show ∀ x ∈ L ++ [⟨A', xs.length, c', xs, p, f, sf⟩], SmN x from fun x hx => by
      rcases List.mem_append.1 hx with h | h
      · exact HX.out x h
      · rw [List.mem_singleton] at h; rw [h]; exact HN5.out)
    clear HG5 HO5 hGn HS5
    go_wp2_with fail
    go_ret
    exact ⟨.slice A9 (nL + 1) c9, L ++ [⟨A', xs.length, c', xs, p, f, sf⟩], rfl, HG9.out, by rw [List.length_append, ← HnL.out]; simp; omega, HX9.out, (HS9.out.mono (by omega)).left⟩
  · subst h
    go_wp2_with fail
    go_loopw [3] (fun v wr => ∃ (km nL : Nat) (L : List Nm) (Av : Option Addr) (cv : Nat), v = .slice Av nL cv ∧ Hid (nL = L.length) ∧ nL ≤ 5 ∧ km + 34 * (5 - nL) ≤ 340 ∧ Hid (St w g A n c k km wr) ∧ Hid (GvL wr w.heap.size (.slice Av nL cv) L) ∧ Hid (∀ x ∈ L, SmN x)) (fun v _ => match v with | .slice _ q _ => 6 - q | _ => 0)
    case atStart => exact ⟨_, nL, L, Av, cv, rfl, HnL, by omega, by omega, HS, HG, HX⟩
    case round =>
      clear HS HG HX HnL hL
      obtain ⟨km, nL, L, Av, cv, rfl, HnL, hL5, hkm, HS, HG, HX⟩ := hrel
      obtain ⟨k6, s6, hk6, hc6⟩ := HS.out.cur
      go_wp2_with fail
      refine (pick_any 2 (by omega) (by omega) g A n c k6 s6 _ (by omega) hn hc6 HS.out.rd HA.out).mono ?_
      rintro e wq ⟨r2, rfl, hq0, hq1, hl⟩
      have HSq := Lib.hid (HS.out.call hk6 hl)
      have HGq := Lib.hid (HG.out.kept hl.2 (fun j hj => by cases hj; exact hgl))
      clear hl hc6 HS HG
      have HS := HSq
      have HG := HGq
      clear HSq HGq
      obtain ⟨m, rfl⟩ := Int.eq_ofNat_of_zero_le hq0
      have hm1 : m ≤ 1 := by omega
      have hw4 : IntKind.i64.wrap (4 + (m : Int)) = ((4 + m : Nat) : Int) := by rw [IntWalk.i64_in _ (by omega)]; omega
      clear hq0 hq1
      by_cases hlt : nL < 4 + m
      · have hlt' : (nL : Int) < ((4 + m : Nat) : Int) := by omega
        obtain ⟨k5, s5, hk5, hc5⟩ := HS.out.cur
        have HNm := Lib.hid (fun w9 (h1 : IsCur w9 g A n c k5 s5) (h2 : RdB w9 A n) => name_any g A n c k5 s5 w9 (by omega) hn h1 h2 HA.out)
        have HC5 := Lib.hid hc5
        clear hc5
        have hi' : nL ≤ 4 := by omega
        go_wp2_with fail
        refine (HNm.out _ HC5.out HS.out.rd).mono ?_
        rintro e w5 ⟨A', c', xs, p, f, sf, rfl, hG, hxl, hX, hp, hf, hs, hl⟩
        have HS5 := Lib.hid (HS.out.call hk5 hl)
        have HG5 := Lib.hid (HG.out.kept hl.2 (fun j hj => by cases hj; exact hgl))
        have HO5 : Hid (w5.ownsRow w.heap.size 43 4 (.slice Av nL cv) nL (ncells L)) := Lib.hid (by have := HG5.out.1; rwa [← HnL.out] at this)
        have hle := HS.out.le
        have hGn := Lib.hid (hG.base (show w.heap.size ≤ wq.heap.size + 1 by omega))
        have HN5 : Hid (SmN ⟨A', xs.length, c', xs, p, f, sf⟩) := Lib.hid ⟨by show xs.length ≤ 4; omega, hX, hp, hf, hs⟩
        have hsz5 := HS5.out.le
        have hxz : xs.length ≤ 4 := by omega
        clear hl hG HS HG HC5 HNm hX hxl
        go_wp2_with (first
          | (at_builtin; go_loud (refine wpList_append_own _ rfl _ _ 24 rfl w.heap.size 43 i0 _ 4 72 Tryd.underlying24 hi hz0 hz1 hz2 rfl (by decide) (.slice Av nL cv) nL (ncells L) rfl (HO5.out.alloc _) ⟨w5.heap.size, 0, none⟩ 1 1 [.slice A' xs.length c', .string p, .string f, .string sf] rfl rfl (four_new _ _ _ _ _ _) (by simp [Value.oneCell']) (by unfold maxLen; omega) (by omega) (by simp; omega) ?_; intro v' w9 hown' hgrow hne; obtain ⟨A9, c9, rfl⟩ := form4 hown'; have HS9 := Lib.hid ((HS5.out.alloc (.cells #[.slice A' xs.length c', .string p, .string f, .string sf] 43)).grow hgrow (fun j hj => (HG5.out.1.lt j hj).1)); have HG9 := Lib.hid (GvL.snoc (x := ⟨A', xs.length, c', xs, p, f, sf⟩) (HG5.out.alloc (.cells #[.slice A' xs.length c', .string p, .string f, .string sf] 43)) rfl (hGn.out.alloc _) hgrow (by rw [← HnL.out]; exact hown')))) | fail)
        have HX9 := Lib.hid (show ∀ x ∈ L ++ [⟨A', xs.length, c', xs, p, f, sf⟩], SmN x from fun x hx => by
          rcases List.mem_append.1 hx with h | h
          · exact HX.out x h
          · rw [List.mem_singleton] at h; rw [h]; exact HN5.out)
        clear HG5 HO5 hGn HS5
        go_wp2_with fail
        go_roundw
        case rel => exact ⟨_, nL + 1, L ++ [⟨A', xs.length, c', xs, p, f, sf⟩], A9, c9, rfl, Lib.hid (by rw [List.length_append, ← HnL.out]; rfl), by omega, by omega, HS9, HG9, HX9⟩
        case measure => show 6 - (nL + 1) < 6 - nL; omega
      · have hlt' : ¬ (nL : Int) < ((4 + m : Nat) : Int) := by omega
        go_wp2_with fail
        go_ret
        exact ⟨_, L, rfl, HG.out, by rw [← HnL.out]; exact hL5, HX.out, (HS.out.mono (by omega)).left⟩
  · have hb0 : (r == 0) = false := by rw [beq_eq_false_iff_ne]; exact h
    have hb1 : (r == 1) = false := by rw [beq_eq_false_iff_ne]; exact h'
    go_wp2_with fail
    go_ret
    exact ⟨_, L, rfl, HG.out, by rw [← HnL.out]; omega, HX.out, (HS.out.mono (by omega)).left⟩
end Go.Proofs.YtdjkgkfgnmcldaaDoor.StN
