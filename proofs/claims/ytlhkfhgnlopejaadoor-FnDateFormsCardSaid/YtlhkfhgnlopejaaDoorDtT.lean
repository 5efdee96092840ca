/-
  Drawing functions of chapter 3: twoDates.
-/
import Derived.Test.YtlhkfhgnlopejaaDoorDtE
import Derived.RegionTactic
import Derived.BigRegion
namespace Go.Proofs.YtlhkfhgnlopejaaDoor.DtD
open Go.RowKit Pl Cur Draw0 Among DtPl Dt Law2 St
set_option linter.unusedSimpArgs false
set_option linter.unusedVariables false

/-- two dates -/
def TwoD (w : World) (g : Nat) (A : Option Addr) (n c k m : Nat) (e : Ending) (w' : World) : Prop := ∃ y mo d ci y' mo' d' ci', e = .returned (.tuple #[dtV y mo d ci, dtV y' mo' d' ci']) ∧ LeftC w g A n c k m w'
theorem St.drew {w W : World} {g : Nat} {A : Option Addr} {n c k m : Nat} (h : St w g A n c k m W) : St w g A n c k m W.drew := ⟨h.cur, ⟨h.gr.os, h.gr.tape, h.gr.output, h.gr.size, h.gr.block⟩, h.rd, h.ap, h.lt⟩
theorem d4f_far4 {W : World} {b b' : Nat} {v0 v1 v2 v3 : Value} {y m d : Int} {c : Bool} (hne : b ≠ b') (h : D4F W b' y m d c) : D4F ((((W.setCell ⟨b, 0, none⟩ v0).setCell ⟨b, 1, none⟩ v1).setCell ⟨b, 2, none⟩ v2).setCell ⟨b, 3, none⟩ v3) b' y m d c := ⟨d4_far hne h.1, f4_far h.2⟩
theorem d4f_set4 {W : World} {b : Nat} {y m d : Int} {c : Bool} (y' m' d' : Int) (c' : Bool) (h : D4F W b y m d c) : D4F ((((W.setCell ⟨b, 0, none⟩ (.int .i64 y')).setCell ⟨b, 1, none⟩ (.int .i64 m')).setCell ⟨b, 2, none⟩ (.int .i64 d')).setCell ⟨b, 3, none⟩ (.bool c')) b y' m' d' c' := ⟨D4F.set4 h y' m' d' c', f4_far h.2⟩
theorem d4f_set2 {W : World} {b : Nat} {y m d : Int} {c : Bool} (d' : Int) (h : D4F W b y m d c) : D4F (W.setCell ⟨b, 2, none⟩ (.int .i64 d')) b y m d' c := by
  obtain ⟨⟨hl, h0, h1, h2, h3⟩, hf⟩ := h
  exact ⟨⟨by simpa [World.setCell] using hl, by rw [c_ne (by decide)]; exact h0, by rw [c_ne (by decide)]; exact h1, World.cell?_setCell_same _ _ _ h2, by rw [c_ne (by decide)]; exact h3⟩, f4_set hf⟩
theorem gen8s {P : World → Prop} {w W2 : World} {g : Nat} {A : Option Addr} {n c k m b b' : Nat} (hS : St w g A n c k m W2) (hb : w.heap.size ≤ b) (hb' : w.heap.size ≤ b') (hne : b ≠ b') (hp : D4F W2 b 0 0 0 false) (hq : D4F W2 b' 0 0 0 false) {x0 x1 x2 y0 y1 y2 : Int} {x3 y3 : Bool}
    (h : ∀ W3, St w g A n c k m W3 → D4 W3 b x0 x1 x2 x3 → D4 W3 b' y0 y1 y2 y3 → P W3) :
    P ((((((((W2.setCell ⟨b, 0, none⟩ (.int .i64 x0)).setCell ⟨b, 1, none⟩ (.int .i64 x1)).setCell ⟨b, 2, none⟩ (.int .i64 x2)).setCell ⟨b, 3, none⟩ (.bool x3)).setCell ⟨b', 0, none⟩ (.int .i64 y0)).setCell ⟨b', 1, none⟩ (.int .i64 y1)).setCell ⟨b', 2, none⟩ (.int .i64 y2)).setCell ⟨b', 3, none⟩ (.bool y3)).drew := by
  have key : ∀ X, St w g A n c k m X → D4 X b x0 x1 x2 x3 → D4 X b' y0 y1 y2 y3 → P X.drew := fun X a c e => h X.drew (St.drew a) c e
  exact key _ ((hS.set4 b _ _ _ _ hb).set4 b' _ _ _ _ hb') (d4_far (Ne.symm hne) (D4F.set4 hp x0 x1 x2 x3)) (D4F.set4 (d4f_far4 hne hq) y0 y1 y2 y3)

set_option maxHeartbeats 4000000 in
theorem twoDates_any (g : Nat) (A : Option Addr) (n c k : Nat) (s : Int) (w : World) (hk : k ≤ 1046000) (hn : n ≤ 1048576) (hcur : IsCur w g A n c k s) (hr : RdB w A n) (ha : Apart A n g) :
    Calls Tryd.prog 26 #[.pointer (some ⟨g, 0, none⟩)] w (TwoD w g A n c k 60) := by
  have hgl : g < w.heap.size := hcur.lt
  have HA := Lib.hid ha
  have HS1 := Lib.hid (((St.start hcur hr ha).alloc (.cells #[.int .i64 0, .int .i64 0, .int .i64 0, .bool false] 25)).alloc (.cells #[.int .i64 0, .int .i64 0, .int .i64 0, .bool false] 25))
  have HP1 := Lib.hid (D4F.below (box_below _ (.cells #[.int .i64 0, .int .i64 0, .int .i64 0, .bool false] 25)) (D4F.new w 0 0 0 false 25))
  have HQ1 : Hid (D4F ((w.alloc (.cells #[.int .i64 0, .int .i64 0, .int .i64 0, .bool false] 25)).alloc (.cells #[.int .i64 0, .int .i64 0, .int .i64 0, .bool false] 25)) (w.heap.size + 1) 0 0 0 false) := Lib.hid (by
    have h := D4F.new (w.alloc (.cells #[.int .i64 0, .int .i64 0, .int .i64 0, .bool false] 25)) 0 0 0 false 25
    rwa [show (w.alloc (.cells #[.int .i64 0, .int .i64 0, .int .i64 0, .bool false] 25)).heap.size = w.heap.size + 1 by simp] at h)
  clear hcur hr ha
  go_enter Tryd.func26, Tryd.ntmps26
  go_wp2_with fail
  generalize hW : (w.alloc _).alloc _ = w1 at HP1 HQ1 HS1 ⊢
  clear hW
  have hq1 : w.heap.size + 1 < w1.heap.size := HQ1.out.1.1
  obtain ⟨k1, s1, hk1, hc1⟩ := HS1.out.cur
  refine (anyDate_any g A n c k1 s1 _ (by omega) hn hc1 HS1.out.rd HA.out).mono ?_
  rintro e w2 ⟨y, m, d, ci, rfl, hl⟩
  have HS2 := Lib.hid (HS1.out.call hk1 hl)
  have HP2 := Lib.hid (d4f_grown hl.2 (by omega) HP1.out)
  have HQ2 := Lib.hid (d4f_grown hl.2 (by omega) HQ1.out)
  have hq2 : w.heap.size + 1 < w2.heap.size := HQ2.out.1.1
  clear hl hc1 HS1 HP1 HQ1 hq1
  have HA_3 := Lib.hid (D4F.new w2 y m d ci 25)
  have HS3 := Lib.hid (HS2.out.alloc (.cells #[.int .i64 y, .int .i64 m, .int .i64 d, .bool ci] 25))
  have HP3 := Lib.hid (D4F.below (box_below w2 (.cells #[.int .i64 y, .int .i64 m, .int .i64 d, .bool ci] 25)) HP2.out)
  have HQ3 := Lib.hid (D4F.below (box_below w2 (.cells #[.int .i64 y, .int .i64 m, .int .i64 d, .bool ci] 25)) HQ2.out)
  clear HS2 HP2 HQ2
  go_wp2_with fail
  generalize hW : w2.alloc _ = w3 at HA_3 HS3 HP3 HQ3 ⊢
  clear hW
  generalize hb : w2.heap.size = ba at *
  clear hb
  obtain ⟨k3, s3, hk3, hc3⟩ := HS3.out.cur
  refine (anyDate_any g A n c k3 s3 _ (by omega) hn hc3 HS3.out.rd HA.out).mono ?_
  rintro e w4 ⟨y', m', d', ci', rfl, hl⟩
  have HS4 := Lib.hid (HS3.out.call hk3 hl)
  have HP4 := Lib.hid (d4f_grown hl.2 (by omega) HP3.out)
  have HQ4 := Lib.hid (d4f_grown hl.2 (by omega) HQ3.out)
  have HA_4 := Lib.hid (d4f_grown hl.2 (by omega) HA_3.out)
  have hq4 : ba < w4.heap.size := HA_4.out.1.1
  clear hl hc3 HS3 HP3 HQ3 HA_3
  have HB_5 := Lib.hid (D4F.new w4 y' m' d' ci' 25)
  have HS5 := Lib.hid (HS4.out.alloc (.cells #[.int .i64 y', .int .i64 m', .int .i64 d', .bool ci'] 25))
  have HP5 := Lib.hid (D4F.below (box_below w4 (.cells #[.int .i64 y', .int .i64 m', .int .i64 d', .bool ci'] 25)) HP4.out)
  have HQ5 := Lib.hid (D4F.below (box_below w4 (.cells #[.int .i64 y', .int .i64 m', .int .i64 d', .bool ci'] 25)) HQ4.out)
  have HA_5 := Lib.hid (D4F.below (box_below w4 (.cells #[.int .i64 y', .int .i64 m', .int .i64 d', .bool ci'] 25)) HA_4.out)
  clear HS4 HP4 HQ4 HA_4
  go_wp2_with fail
  generalize hW : w4.alloc _ = w5 at HA_5 HB_5 HS5 HP5 HQ5 ⊢
  clear hW
  generalize hb : w4.heap.size = bb at *
  clear hb
  obtain ⟨k5, s5, hk5, hc5⟩ := HS5.out.cur
  refine (pick_any 4 (by omega) (by omega) g A n c k5 s5 _ (by omega) hn hc5 HS5.out.rd HA.out).mono ?_
  rintro e w6 ⟨r, rfl, hr0, hr1, hl⟩
  have HS6 := Lib.hid (HS5.out.call hk5 hl)
  have HP6 := Lib.hid (d4f_grown hl.2 (by omega) HP5.out)
  have HQ6 := Lib.hid (d4f_grown hl.2 (by omega) HQ5.out)
  have HA_6 := Lib.hid (d4f_grown hl.2 (by omega) HA_5.out)
  have HB_6 := Lib.hid (d4f_grown hl.2 (by omega) HB_5.out)
  clear hl hc5 HS5 HP5 HQ5 HA_5 HB_5
  obtain ⟨i, rfl⟩ := Int.eq_ofNat_of_zero_le hr0
  rcases (show i = 0 ∨ i = 1 ∨ i = 2 ∨ i = 3 by omega) with rfl | rfl | rfl | rfl
  · obtain ⟨⟨al, a0, a1, a2, a3⟩, af0, af1, af2, af3⟩ := HA_6.out
    obtain ⟨⟨bl, b0, b1, b2, b3⟩, bf0, bf1, bf2, bf3⟩ := HB_6.out
    have hne : ba ≠ bb := by omega
    go_wp2_with fail
    have HS7 := Lib.hid ((HS6.out.set4 bb (.int .i64 (y : Int)) (.int .i64 (m : Int)) (.int .i64 (d : Int)) (.bool ci) (by omega)).set bb 2 (.int .i64 0) (by omega))
    have HP7 := Lib.hid (d4f_set (b := bb) (j := 2) (v := .int .i64 0) (by omega) (d4f_far4 (b := bb) (v0 := .int .i64 (y : Int)) (v1 := .int .i64 (m : Int)) (v2 := .int .i64 (d : Int)) (v3 := .bool ci) (by omega) HP6.out))
    have HQ7 := Lib.hid (d4f_set (b := bb) (j := 2) (v := .int .i64 0) (by omega) (d4f_far4 (b := bb) (v0 := .int .i64 (y : Int)) (v1 := .int .i64 (m : Int)) (v2 := .int .i64 (d : Int)) (v3 := .bool ci) (by omega) HQ6.out))
    have HA_7 := Lib.hid (d4f_set (b := bb) (j := 2) (v := .int .i64 0) (by omega) (d4f_far4 (b := bb) (v0 := .int .i64 (y : Int)) (v1 := .int .i64 (m : Int)) (v2 := .int .i64 (d : Int)) (v3 := .bool ci) (by omega) HA_6.out))
    have HB_7 := Lib.hid (d4f_set2 0 (d4f_set4 (y) (m) (d) ci HB_6.out))
    clear al a0 a1 a2 a3 af0 af1 af2 af3 bl b0 b1 b2 b3 bf0 bf1 bf2 bf3 hne HS6 HP6 HQ6 HA_6 HB_6
    generalize hW : World.setCell _ _ _ = w7 at HS7 HP7 HQ7 HA_7 HB_7 ⊢
    clear hW
    obtain ⟨k7, s7, hk7, hc7⟩ := HS7.out.cur
    refine (one_any 2 (by omega) (by omega) g A n c k7 s7 _ (by omega) hn hc7 HS7.out.rd HA.out).mono ?_
    rintro e w8 ⟨r, rfl, hl⟩
    have HS8 := Lib.hid (HS7.out.call hk7 hl)
    have HP8 := Lib.hid (d4f_grown hl.2 (by omega) HP7.out)
    have HQ8 := Lib.hid (d4f_grown hl.2 (by omega) HQ7.out)
    have HA_8 := Lib.hid (d4f_grown hl.2 (by omega) HA_7.out)
    have HB_8 := Lib.hid (d4f_grown hl.2 (by omega) HB_7.out)
    clear hl hc7 HS7 HP7 HQ7 HA_7 HB_7
    obtain ⟨⟨al, a0, a1, a2, a3⟩, af0, af1, af2, af3⟩ := HA_8.out
    obtain ⟨⟨bl, b0, b1, b2, b3⟩, bf0, bf1, bf2, bf3⟩ := HB_8.out
    obtain ⟨⟨pl, p0, p1, p2, p3⟩, pf0, pf1, pf2, pf3⟩ := HP8.out
    obtain ⟨⟨ql, q0, q1, q2, q3⟩, qf0, qf1, qf2, qf3⟩ := HQ8.out
    have hn1 : w.heap.size ≠ ba := by omega
    have hn2 : w.heap.size ≠ bb := by omega
    have hn3 : w.heap.size + 1 ≠ ba := by omega
    have hn4 : w.heap.size + 1 ≠ bb := by omega
    cases r
    · go_wp2_with fail
      go_region
      all_goals go_wp2_with fail
      all_goals refine gen8s (P := fun W => bodyPost _ _ _ _ _ W) HS8.out (Nat.le_refl _) (by omega) (by omega) HP8.out HQ8.out ?_
      all_goals intro W3 hS3 hp3 hq3
      all_goals
        obtain ⟨_, u0, u1, u2, u3⟩ := hp3
        obtain ⟨_, t0, t1, t2, t3⟩ := hq3
        exact bodyPost_ret (v := .tuple #[dtV y m d ci, dtV y m 0 ci]) (by simp [results, Tryd.results26, go_sem, u0, u1, u2, u3, t0, t1, t2, t3]) rfl ⟨_, _, _, _, _, _, _, _, rfl, (St.mono hS3 (by omega)).left⟩
    · go_wp2_with fail
      go_region
      all_goals go_wp2_with fail
      all_goals refine gen8s (P := fun W => bodyPost _ _ _ _ _ W) HS8.out (Nat.le_refl _) (by omega) (by omega) HP8.out HQ8.out ?_
      all_goals intro W3 hS3 hp3 hq3
      all_goals
        obtain ⟨_, u0, u1, u2, u3⟩ := hp3
        obtain ⟨_, t0, t1, t2, t3⟩ := hq3
        exact bodyPost_ret (v := .tuple #[dtV y m 0 ci, dtV y m d ci]) (by simp [results, Tryd.results26, go_sem, u0, u1, u2, u3, t0, t1, t2, t3]) rfl ⟨_, _, _, _, _, _, _, _, rfl, (St.mono hS3 (by omega)).left⟩
  · obtain ⟨⟨al, a0, a1, a2, a3⟩, af0, af1, af2, af3⟩ := HA_6.out
    obtain ⟨⟨bl, b0, b1, b2, b3⟩, bf0, bf1, bf2, bf3⟩ := HB_6.out
    have hne : ba ≠ bb := by omega
    go_wp2_with fail
    have HS7 := Lib.hid (((HS6.out.set4 bb (.int .i64 (y : Int)) (.int .i64 (m : Int)) (.int .i64 (d : Int)) (.bool ci) (by omega)).set bb 1 (.int .i64 0) (by omega)).set bb 2 (.int .i64 0) (by omega))
    have HP7 := Lib.hid (d4f_set (b := bb) (j := 2) (v := .int .i64 0) (by omega) (d4f_set (b := bb) (j := 1) (v := .int .i64 0) (by omega) (d4f_far4 (b := bb) (v0 := .int .i64 (y : Int)) (v1 := .int .i64 (m : Int)) (v2 := .int .i64 (d : Int)) (v3 := .bool ci) (by omega) HP6.out)))
    have HQ7 := Lib.hid (d4f_set (b := bb) (j := 2) (v := .int .i64 0) (by omega) (d4f_set (b := bb) (j := 1) (v := .int .i64 0) (by omega) (d4f_far4 (b := bb) (v0 := .int .i64 (y : Int)) (v1 := .int .i64 (m : Int)) (v2 := .int .i64 (d : Int)) (v3 := .bool ci) (by omega) HQ6.out)))
    have HA_7 := Lib.hid (d4f_set (b := bb) (j := 2) (v := .int .i64 0) (by omega) (d4f_set (b := bb) (j := 1) (v := .int .i64 0) (by omega) (d4f_far4 (b := bb) (v0 := .int .i64 (y : Int)) (v1 := .int .i64 (m : Int)) (v2 := .int .i64 (d : Int)) (v3 := .bool ci) (by omega) HA_6.out)))
    have HB_7 := Lib.hid (d4f_set2 0 (d4f_set1 0 (d4f_set4 (y) (m) (d) ci HB_6.out)))
    clear al a0 a1 a2 a3 af0 af1 af2 af3 bl b0 b1 b2 b3 bf0 bf1 bf2 bf3 hne HS6 HP6 HQ6 HA_6 HB_6
    generalize hW : World.setCell _ _ _ = w7 at HS7 HP7 HQ7 HA_7 HB_7 ⊢
    clear hW
    obtain ⟨k7, s7, hk7, hc7⟩ := HS7.out.cur
    refine (one_any 2 (by omega) (by omega) g A n c k7 s7 _ (by omega) hn hc7 HS7.out.rd HA.out).mono ?_
    rintro e w8 ⟨r, rfl, hl⟩
    have HS8 := Lib.hid (HS7.out.call hk7 hl)
    have HP8 := Lib.hid (d4f_grown hl.2 (by omega) HP7.out)
    have HQ8 := Lib.hid (d4f_grown hl.2 (by omega) HQ7.out)
    have HA_8 := Lib.hid (d4f_grown hl.2 (by omega) HA_7.out)
    have HB_8 := Lib.hid (d4f_grown hl.2 (by omega) HB_7.out)
    clear hl hc7 HS7 HP7 HQ7 HA_7 HB_7
    obtain ⟨⟨al, a0, a1, a2, a3⟩, af0, af1, af2, af3⟩ := HA_8.out
    obtain ⟨⟨bl, b0, b1, b2, b3⟩, bf0, bf1, bf2, bf3⟩ := HB_8.out
    obtain ⟨⟨pl, p0, p1, p2, p3⟩, pf0, pf1, pf2, pf3⟩ := HP8.out
    obtain ⟨⟨ql, q0, q1, q2, q3⟩, qf0, qf1, qf2, qf3⟩ := HQ8.out
    have hn1 : w.heap.size ≠ ba := by omega
    have hn2 : w.heap.size ≠ bb := by omega
    have hn3 : w.heap.size + 1 ≠ ba := by omega
    have hn4 : w.heap.size + 1 ≠ bb := by omega
    cases r
    · go_wp2_with fail
      go_region
      all_goals go_wp2_with fail
      all_goals refine gen8s (P := fun W => bodyPost _ _ _ _ _ W) HS8.out (Nat.le_refl _) (by omega) (by omega) HP8.out HQ8.out ?_
      all_goals intro W3 hS3 hp3 hq3
      all_goals
        obtain ⟨_, u0, u1, u2, u3⟩ := hp3
        obtain ⟨_, t0, t1, t2, t3⟩ := hq3
        exact bodyPost_ret (v := .tuple #[dtV y m d ci, dtV y 0 0 ci]) (by simp [results, Tryd.results26, go_sem, u0, u1, u2, u3, t0, t1, t2, t3]) rfl ⟨_, _, _, _, _, _, _, _, rfl, (St.mono hS3 (by omega)).left⟩
    · go_wp2_with fail
      go_region
      all_goals go_wp2_with fail
      all_goals refine gen8s (P := fun W => bodyPost _ _ _ _ _ W) HS8.out (Nat.le_refl _) (by omega) (by omega) HP8.out HQ8.out ?_
      all_goals intro W3 hS3 hp3 hq3
      all_goals
        obtain ⟨_, u0, u1, u2, u3⟩ := hp3
        obtain ⟨_, t0, t1, t2, t3⟩ := hq3
        exact bodyPost_ret (v := .tuple #[dtV y 0 0 ci, dtV y m d ci]) (by simp [results, Tryd.results26, go_sem, u0, u1, u2, u3, t0, t1, t2, t3]) rfl ⟨_, _, _, _, _, _, _, _, rfl, (St.mono hS3 (by omega)).left⟩
  · obtain ⟨⟨al, a0, a1, a2, a3⟩, af0, af1, af2, af3⟩ := HA_6.out
    obtain ⟨⟨bl, b0, b1, b2, b3⟩, bf0, bf1, bf2, bf3⟩ := HB_6.out
    have hne : ba ≠ bb := by omega
    go_wp2_with fail
    have HS7 := Lib.hid (HS6.out.set4 bb (.int .i64 (y : Int)) (.int .i64 (0 : Int)) (.int .i64 (0 : Int)) (.bool true) (by omega))
    have HP7 := Lib.hid (d4f_far4 (b := bb) (v0 := .int .i64 (y : Int)) (v1 := .int .i64 (0 : Int)) (v2 := .int .i64 (0 : Int)) (v3 := .bool true) (by omega) HP6.out)
    have HQ7 := Lib.hid (d4f_far4 (b := bb) (v0 := .int .i64 (y : Int)) (v1 := .int .i64 (0 : Int)) (v2 := .int .i64 (0 : Int)) (v3 := .bool true) (by omega) HQ6.out)
    have HA_7 := Lib.hid (d4f_far4 (b := bb) (v0 := .int .i64 (y : Int)) (v1 := .int .i64 (0 : Int)) (v2 := .int .i64 (0 : Int)) (v3 := .bool true) (by omega) HA_6.out)
    have HB_7 := Lib.hid (d4f_set4 (y) (0) (0) true HB_6.out)
    clear al a0 a1 a2 a3 af0 af1 af2 af3 bl b0 b1 b2 b3 bf0 bf1 bf2 bf3 hne HS6 HP6 HQ6 HA_6 HB_6
    generalize hW : World.setCell _ _ _ = w7 at HS7 HP7 HQ7 HA_7 HB_7 ⊢
    clear hW
    obtain ⟨k7, s7, hk7, hc7⟩ := HS7.out.cur
    refine (one_any 2 (by omega) (by omega) g A n c k7 s7 _ (by omega) hn hc7 HS7.out.rd HA.out).mono ?_
    rintro e w8 ⟨r, rfl, hl⟩
    have HS8 := Lib.hid (HS7.out.call hk7 hl)
    have HP8 := Lib.hid (d4f_grown hl.2 (by omega) HP7.out)
    have HQ8 := Lib.hid (d4f_grown hl.2 (by omega) HQ7.out)
    have HA_8 := Lib.hid (d4f_grown hl.2 (by omega) HA_7.out)
    have HB_8 := Lib.hid (d4f_grown hl.2 (by omega) HB_7.out)
    clear hl hc7 HS7 HP7 HQ7 HA_7 HB_7
    obtain ⟨⟨al, a0, a1, a2, a3⟩, af0, af1, af2, af3⟩ := HA_8.out
    obtain ⟨⟨bl, b0, b1, b2, b3⟩, bf0, bf1, bf2, bf3⟩ := HB_8.out
    obtain ⟨⟨pl, p0, p1, p2, p3⟩, pf0, pf1, pf2, pf3⟩ := HP8.out
    obtain ⟨⟨ql, q0, q1, q2, q3⟩, qf0, qf1, qf2, qf3⟩ := HQ8.out
    have hn1 : w.heap.size ≠ ba := by omega
    have hn2 : w.heap.size ≠ bb := by omega
    have hn3 : w.heap.size + 1 ≠ ba := by omega
    have hn4 : w.heap.size + 1 ≠ bb := by omega
    cases r
    · go_wp2_with fail
      go_region
      all_goals go_wp2_with fail
      all_goals refine gen8s (P := fun W => bodyPost _ _ _ _ _ W) HS8.out (Nat.le_refl _) (by omega) (by omega) HP8.out HQ8.out ?_
      all_goals intro W3 hS3 hp3 hq3
      all_goals
        obtain ⟨_, u0, u1, u2, u3⟩ := hp3
        obtain ⟨_, t0, t1, t2, t3⟩ := hq3
        exact bodyPost_ret (v := .tuple #[dtV y m d ci, dtV y 0 0 true]) (by simp [results, Tryd.results26, go_sem, u0, u1, u2, u3, t0, t1, t2, t3]) rfl ⟨_, _, _, _, _, _, _, _, rfl, (St.mono hS3 (by omega)).left⟩
    · go_wp2_with fail
      go_region
      all_goals go_wp2_with fail
      all_goals refine gen8s (P := fun W => bodyPost _ _ _ _ _ W) HS8.out (Nat.le_refl _) (by omega) (by omega) HP8.out HQ8.out ?_
      all_goals intro W3 hS3 hp3 hq3
      all_goals
        obtain ⟨_, u0, u1, u2, u3⟩ := hp3
        obtain ⟨_, t0, t1, t2, t3⟩ := hq3
        exact bodyPost_ret (v := .tuple #[dtV y 0 0 true, dtV y m d ci]) (by simp [results, Tryd.results26, go_sem, u0, u1, u2, u3, t0, t1, t2, t3]) rfl ⟨_, _, _, _, _, _, _, _, rfl, (St.mono hS3 (by omega)).left⟩
  · obtain ⟨⟨al, a0, a1, a2, a3⟩, af0, af1, af2, af3⟩ := HA_6.out
    obtain ⟨⟨bl, b0, b1, b2, b3⟩, bf0, bf1, bf2, bf3⟩ := HB_6.out
    have hne : ba ≠ bb := by omega
    go_wp2_with fail
    clear al a0 a1 a2 a3 af0 af1 af2 af3 bl b0 b1 b2 b3 bf0 bf1 bf2 bf3 hne
    obtain ⟨k7, s7, hk7, hc7⟩ := HS6.out.cur
    refine (one_any 2 (by omega) (by omega) g A n c k7 s7 _ (by omega) hn hc7 HS6.out.rd HA.out).mono ?_
    rintro e w8 ⟨r, rfl, hl⟩
    have HS8 := Lib.hid (HS6.out.call hk7 hl)
    have HP8 := Lib.hid (d4f_grown hl.2 (by omega) HP6.out)
    have HQ8 := Lib.hid (d4f_grown hl.2 (by omega) HQ6.out)
    have HA_8 := Lib.hid (d4f_grown hl.2 (by omega) HA_6.out)
    have HB_8 := Lib.hid (d4f_grown hl.2 (by omega) HB_6.out)
    clear hl hc7 HS6 HP6 HQ6 HA_6 HB_6
    obtain ⟨⟨al, a0, a1, a2, a3⟩, af0, af1, af2, af3⟩ := HA_8.out
    obtain ⟨⟨bl, b0, b1, b2, b3⟩, bf0, bf1, bf2, bf3⟩ := HB_8.out
    obtain ⟨⟨pl, p0, p1, p2, p3⟩, pf0, pf1, pf2, pf3⟩ := HP8.out
    obtain ⟨⟨ql, q0, q1, q2, q3⟩, qf0, qf1, qf2, qf3⟩ := HQ8.out
    have hn1 : w.heap.size ≠ ba := by omega
    have hn2 : w.heap.size ≠ bb := by omega
    have hn3 : w.heap.size + 1 ≠ ba := by omega
    have hn4 : w.heap.size + 1 ≠ bb := by omega
    cases r
    · go_wp2_with fail
      go_region
      all_goals go_wp2_with fail
      all_goals refine gen8s (P := fun W => bodyPost _ _ _ _ _ W) HS8.out (Nat.le_refl _) (by omega) (by omega) HP8.out HQ8.out ?_
      all_goals intro W3 hS3 hp3 hq3
      all_goals
        obtain ⟨_, u0, u1, u2, u3⟩ := hp3
        obtain ⟨_, t0, t1, t2, t3⟩ := hq3
        exact bodyPost_ret (v := .tuple #[dtV y m d ci, dtV y' m' d' ci']) (by simp [results, Tryd.results26, go_sem, u0, u1, u2, u3, t0, t1, t2, t3]) rfl ⟨_, _, _, _, _, _, _, _, rfl, (St.mono hS3 (by omega)).left⟩
    · go_wp2_with fail
      go_region
      all_goals go_wp2_with fail
      all_goals refine gen8s (P := fun W => bodyPost _ _ _ _ _ W) HS8.out (Nat.le_refl _) (by omega) (by omega) HP8.out HQ8.out ?_
      all_goals intro W3 hS3 hp3 hq3
      all_goals
        obtain ⟨_, u0, u1, u2, u3⟩ := hp3
        obtain ⟨_, t0, t1, t2, t3⟩ := hq3
        exact bodyPost_ret (v := .tuple #[dtV y' m' d' ci', dtV y m d ci]) (by simp [results, Tryd.results26, go_sem, u0, u1, u2, u3, t0, t1, t2, t3]) rfl ⟨_, _, _, _, _, _, _, _, rfl, (St.mono hS3 (by omega)).left⟩

end Go.Proofs.YtlhkfhgnlopejaaDoor.DtD
