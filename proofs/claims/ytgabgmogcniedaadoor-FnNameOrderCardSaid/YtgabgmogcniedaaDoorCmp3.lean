/-
  Contracts of l2Compare and CompareNames of both.
-/
import Derived.Test.YtgabgmogcniedaaDoorCmp2
namespace Go.Proofs.YtgabgmogcniedaaDoor.Cmp
open Go.RowKit Pl Strs Help Name Stands SplitPl NmPl Word Part NGood Forms CmpPl
set_option linter.unusedSimpArgs false
set_option linter.unusedVariables false

/-- how two names compare -/
def cmpM (xs : List ByteArray) (p f s : ByteArray) (ys : List ByteArray) (p2 f2 s2 : ByteArray) : Int :=
  if cmpS (lowS f) (lowS f2) = 0 then (if cmpS p p2 = 0 then (if cmpS (lowS (ba (fullL xs p f s))) (lowS (ba (fullL ys p2 f2 s2))) = 0 then cmpS (ba (invL xs p f s)) (ba (invL ys p2 f2 s2)) else cmpS (lowS (ba (fullL xs p f s))) (lowS (ba (fullL ys p2 f2 s2)))) else cmpS p p2) else cmpS (lowS f) (lowS f2)
theorem cmpM_eq (xs : List ByteArray) (p f s : ByteArray) (ys : List ByteArray) (p2 f2 s2 : ByteArray) : cmpL (cpL xs p f s) (cpL ys p2 f2 s2) = cmpM xs p f s ys p2 f2 s2 := by
  unfold cpL cmpM
  simp only [cmpL]
  split
  · split
    · split
      · split
        · rename_i h; exact h.symm
        · rfl
      · rfl
    · rfl
  · rfl
theorem low_s (s : ByteArray) (w : World) (hs : s.size ≤ 1048576) :
    Calls Tryd.prog 31 #[.string s] w fun e w' => e = .returned (.string (lowS s)) ∧ Below w.heap.size w w' := Low.l2Low s w hs
theorem text_s (a b : ByteArray) (w : World) : Calls Tryd.prog 30 #[.string a, .string b] w fun e w' => e = .returned (.int .i64 (cmpS a b)) ∧ Below w.heap.size w w' :=
  (l2Text_any a b w).mono fun _ _ ⟨he, hw⟩ => ⟨he, hw ▸ Below.refl _ _⟩

set_option maxHeartbeats 8000000 in
theorem l2Compare (A B : Option Addr) (c d n m : Nat) (xs ys : List ByteArray) (p f s p2 f2 s2 : ByteArray) (w : World) (h1 : Rdn w A n xs) (h2 : Rdn w B m ys) (hlim : n + lens xs + p.size + f.size + s.size ≤ 1048000) (hlim2 : m + lens ys + p2.size + f2.size + s2.size ≤ 1048000) :
    Calls Tryd.prog 16 #[nmV (.slice A n c) p f s, nmV (.slice B m d) p2 f2 s2] w fun e w' => e = .returned (.int .i64 (cmpM xs p f s ys p2 f2 s2)) ∧ Below w.heap.size w w' := by
  obtain ⟨W0, hW0⟩ : ∃ W0, W0 = ((w.alloc (.cells #[.slice A n c, .string p, .string f, .string s] 26)).alloc (.cells #[.slice B m d, .string p2, .string f2, .string s2] 26)) := ⟨_, rfl⟩
  have HB0 : Hid (Below w.heap.size w W0) := Lib.hid (by rw [hW0]; exact ((Below.refl _ w).alloc (Nat.le_refl _) _).alloc (by simp) _)
  have HRa := Lib.hid (h1.below HB0.out)
  have HRb := Lib.hid (h2.below HB0.out)
  have HCa : Hid (C4 W0 w.heap.size (.slice A n c) p f s) := Lib.hid (by rw [hW0]; exact (C4.new w (.slice A n c) p f s 26).below ((Below.refl _ _).alloc (Nat.le_refl _) _))
  have HCb : Hid (C4 W0 (w.heap.size + 1) (.slice B m d) p2 f2 s2) := Lib.hid (by
    rw [hW0]
    have := C4.new (w.alloc (.cells #[.slice A n c, .string p, .string f, .string s] 26)) (.slice B m d) p2 f2 s2 26
    simpa using this)
  have hfs : (ba (fullL xs p f s)).size ≤ 1048576 := by have := full_size xs p f s; have := h1.2.2; omega
  have hfs2 : (ba (fullL ys p2 f2 s2)).size ≤ 1048576 := by have := full_size ys p2 f2 s2; have := h2.2.2; omega
  have HE := Lib.hid (show cmpM xs p f s ys p2 f2 s2 = if cmpS (lowS f) (lowS f2) = 0 then (if cmpS p p2 = 0 then (if cmpS (lowS (ba (fullL xs p f s))) (lowS (ba (fullL ys p2 f2 s2))) = 0 then cmpS (ba (invL xs p f s)) (ba (invL ys p2 f2 s2)) else cmpS (lowS (ba (fullL xs p f s))) (lowS (ba (fullL ys p2 f2 s2)))) else cmpS p p2) else cmpS (lowS f) (lowS f2) from rfl)
  have L1 := Lib.hid (fun w => low_s f w (by omega))
  have L2 := Lib.hid (fun w => low_s f2 w (by omega))
  have L3 := Lib.hid (fun w => low_s (ba (fullL xs p f s)) w hfs)
  have L4 := Lib.hid (fun w => low_s (ba (fullL ys p2 f2 s2)) w hfs2)
  have F1 := Lib.hid (fun w' (hk : Kept W0 w') => l2Full A c n xs p f s w' (HRa.out.below hk) (by omega))
  have F2 := Lib.hid (fun w' (hk : Kept W0 w') => l2Full B d m ys p2 f2 s2 w' (HRb.out.below hk) (by omega))
  have I1 := Lib.hid (fun w' (hk : Kept W0 w') => l2Inverse A c n xs p f s w' (HRa.out.below hk) (by omega))
  have I2 := Lib.hid (fun w' (hk : Kept W0 w') => l2Inverse B d m ys p2 f2 s2 w' (HRb.out.below hk) (by omega))
  clear h1 h2 hfs hfs2 HRa HRb
  generalize lowS (ba (fullL xs p f s)) = u3 at *
  generalize lowS (ba (fullL ys p2 f2 s2)) = v3 at *
  generalize ba (fullL xs p f s) = u2 at *
  generalize ba (fullL ys p2 f2 s2) = v2 at *
  generalize ba (invL xs p f s) = u4 at *
  generalize ba (invL ys p2 f2 s2) = v4 at *
  generalize lowS f = u1 at *
  generalize lowS f2 = v1 at *
  have T1 := Lib.hid (fun w => text_s u1 v1 w)
  have T2 := Lib.hid (fun w => text_s p p2 w)
  have T3 := Lib.hid (fun w => text_s u3 v3 w)
  have T4 := Lib.hid (fun w => text_s u4 v4 w)
  generalize cmpM xs p f s ys p2 f2 s2 = res at *
  have HS : Hid (∀ w', Kept W0 w' → ((w'.cell? ⟨w.heap.size, 0, none⟩ = some (.slice A n c) ∧ w'.cell? ⟨w.heap.size, 1, none⟩ = some (.string p) ∧ w'.cell? ⟨w.heap.size, 2, none⟩ = some (.string f) ∧ w'.cell? ⟨w.heap.size, 3, none⟩ = some (.string s)) ∧ (w'.cell? ⟨(w.heap.size + 1), 0, none⟩ = some (.slice B m d) ∧ w'.cell? ⟨(w.heap.size + 1), 1, none⟩ = some (.string p2) ∧ w'.cell? ⟨(w.heap.size + 1), 2, none⟩ = some (.string f2) ∧ w'.cell? ⟨(w.heap.size + 1), 3, none⟩ = some (.string s2)) ∧ Kept W0 w')) := Lib.hid (fun w' h => ⟨(HCa.out.below h).2, (HCb.out.below h).2, h⟩)
  have HW0 := Lib.hid hW0
  clear hW0
  by_cases z1 : cmpS u1 v1 = 0
  · rw [if_pos z1] at HE
    rw [z1] at T1
    by_cases z2 : cmpS p p2 = 0
    · rw [if_pos z2] at HE
      rw [z2] at T2
      by_cases z3 : cmpS u3 v3 = 0
      · rw [if_pos z3] at HE
        rw [z3] at T3
        clear z1 z2 z3
        generalize cmpS u4 v4 = r4 at *
        go_enter Tryd.func16, Tryd.ntmps16
        go_wp2_with fail
        rw [← HW0.out]
        have HK0 := Lib.hid (Kept.drew W0)
        go_region_held3 (fun w' => ((w'.cell? ⟨w.heap.size, 0, none⟩ = some (.slice A n c) ∧ w'.cell? ⟨w.heap.size, 1, none⟩ = some (.string p) ∧ w'.cell? ⟨w.heap.size, 2, none⟩ = some (.string f) ∧ w'.cell? ⟨w.heap.size, 3, none⟩ = some (.string s)) ∧ (w'.cell? ⟨(w.heap.size + 1), 0, none⟩ = some (.slice B m d) ∧ w'.cell? ⟨(w.heap.size + 1), 1, none⟩ = some (.string p2) ∧ w'.cell? ⟨(w.heap.size + 1), 2, none⟩ = some (.string f2) ∧ w'.cell? ⟨(w.heap.size + 1), 3, none⟩ = some (.string s2)) ∧ Kept W0 w'))
          (first | exact HS.out _ HK0.out | exact HS.out _ (by assumption))
          (first
            | (go_at_call 30; with_reducible refine (T1.out _).mono ?_; rintro e v3 ⟨rfl, b3⟩; have hk3 : Kept W0 v3 := Kept.next (by first | exact HK0.out | assumption) b3)
            | (go_at_call 31; with_reducible refine (L1.out _).mono ?_; rintro e v1 ⟨rfl, b1⟩; have hk1 : Kept W0 v1 := Kept.next (by first | exact HK0.out | assumption) b1)
            | (go_at_call 31; with_reducible refine (L2.out _).mono ?_; rintro e v2 ⟨rfl, b2⟩; have hk2 : Kept W0 v2 := Kept.next (by first | exact HK0.out | assumption) b2))
        have hz1 : Kept W0 v3 := hk3
        have Q2 := HS.out _ hz1
        obtain ⟨⟨a0, a1, a2, a3⟩, ⟨e0, e1, e2, e3⟩, _⟩ := Q2
        go_wp2_with fail
        refine (T2.out _).mono ?_
        rintro e w5 ⟨rfl, b5⟩
        have hz2 : Kept W0 w5 := Kept.next hz1 b5
        clear a0 a1 a2 a3 e0 e1 e2 e3
        clear HK0
        have HK0 : Hid (Kept W0 w5.drew) := Lib.hid (Kept.next hz2 (Kept.drew w5))
        go_wp2_with fail
        go_region_held3 (fun w' => ((w'.cell? ⟨w.heap.size, 0, none⟩ = some (.slice A n c) ∧ w'.cell? ⟨w.heap.size, 1, none⟩ = some (.string p) ∧ w'.cell? ⟨w.heap.size, 2, none⟩ = some (.string f) ∧ w'.cell? ⟨w.heap.size, 3, none⟩ = some (.string s)) ∧ (w'.cell? ⟨(w.heap.size + 1), 0, none⟩ = some (.slice B m d) ∧ w'.cell? ⟨(w.heap.size + 1), 1, none⟩ = some (.string p2) ∧ w'.cell? ⟨(w.heap.size + 1), 2, none⟩ = some (.string f2) ∧ w'.cell? ⟨(w.heap.size + 1), 3, none⟩ = some (.string s2)) ∧ Kept W0 w'))
          (first | exact HS.out _ HK0.out | exact HS.out _ (by assumption))
          (first
            | (go_at_call 30; with_reducible refine (T3.out _).mono ?_; rintro e v13 ⟨rfl, b13⟩; have hk13 : Kept W0 v13 := Kept.next (by first | exact HK0.out | assumption) b13)
            | (go_at_call 31; with_reducible refine (L3.out _).mono ?_; rintro e v11 ⟨rfl, b11⟩; have hk11 : Kept W0 v11 := Kept.next (by first | exact HK0.out | assumption) b11)
            | (go_at_call 31; with_reducible refine (L4.out _).mono ?_; rintro e v12 ⟨rfl, b12⟩; have hk12 : Kept W0 v12 := Kept.next (by first | exact HK0.out | assumption) b12)
            | (go_at_call 32; with_reducible refine (F1.out _ (by first | exact HK0.out | assumption)).mono ?_; rintro e v14 ⟨rfl, b14⟩; have hk14 : Kept W0 v14 := Kept.next (by first | exact HK0.out | assumption) b14)
            | (go_at_call 32; with_reducible refine (F2.out _ (by first | exact HK0.out | assumption)).mono ?_; rintro e v15 ⟨rfl, b15⟩; have hk15 : Kept W0 v15 := Kept.next (by first | exact HK0.out | assumption) b15))
        have hz3 : Kept W0 v13 := hk13
        clear HK0
        have HK0 : Hid (Kept W0 v13.drew) := Lib.hid (Kept.next hz3 (Kept.drew v13))
        go_wp2_with fail
        go_region_held3 (fun w' => ((w'.cell? ⟨w.heap.size, 0, none⟩ = some (.slice A n c) ∧ w'.cell? ⟨w.heap.size, 1, none⟩ = some (.string p) ∧ w'.cell? ⟨w.heap.size, 2, none⟩ = some (.string f) ∧ w'.cell? ⟨w.heap.size, 3, none⟩ = some (.string s)) ∧ (w'.cell? ⟨(w.heap.size + 1), 0, none⟩ = some (.slice B m d) ∧ w'.cell? ⟨(w.heap.size + 1), 1, none⟩ = some (.string p2) ∧ w'.cell? ⟨(w.heap.size + 1), 2, none⟩ = some (.string f2) ∧ w'.cell? ⟨(w.heap.size + 1), 3, none⟩ = some (.string s2)) ∧ Kept W0 w'))
          (first | exact HS.out _ HK0.out | exact HS.out _ (by assumption))
          (first
            | (go_at_call 30; with_reducible refine (T4.out _).mono ?_; rintro e v23 ⟨rfl, b23⟩; have hk23 : Kept W0 v23 := Kept.next (by first | exact HK0.out | assumption) b23)
            | (go_at_call 33; with_reducible refine (I1.out _ (by first | exact HK0.out | assumption)).mono ?_; rintro e v24 ⟨rfl, b24⟩; have hk24 : Kept W0 v24 := Kept.next (by first | exact HK0.out | assumption) b24)
            | (go_at_call 33; with_reducible refine (I2.out _ (by first | exact HK0.out | assumption)).mono ?_; rintro e v25 ⟨rfl, b25⟩; have hk25 : Kept W0 v25 := Kept.next (by first | exact HK0.out | assumption) b25))
        have hz4 : Kept W0 v23 := hk23
        go_wp2_with fail
        go_ret
        exact ⟨by rw [HE.out]; rfl, HB0.out.trans (Below.mono hz4 HB0.out.size)⟩
      · rw [if_neg z3] at HE
        have hne : (cmpS u3 v3 != 0) = true := by rw [bne_iff_ne]; exact z3
        clear z1 z2 z3
        generalize cmpS u3 v3 = r3 at *
        go_enter Tryd.func16, Tryd.ntmps16
        go_wp2_with fail
        rw [← HW0.out]
        have HK0 := Lib.hid (Kept.drew W0)
        go_region_held3 (fun w' => ((w'.cell? ⟨w.heap.size, 0, none⟩ = some (.slice A n c) ∧ w'.cell? ⟨w.heap.size, 1, none⟩ = some (.string p) ∧ w'.cell? ⟨w.heap.size, 2, none⟩ = some (.string f) ∧ w'.cell? ⟨w.heap.size, 3, none⟩ = some (.string s)) ∧ (w'.cell? ⟨(w.heap.size + 1), 0, none⟩ = some (.slice B m d) ∧ w'.cell? ⟨(w.heap.size + 1), 1, none⟩ = some (.string p2) ∧ w'.cell? ⟨(w.heap.size + 1), 2, none⟩ = some (.string f2) ∧ w'.cell? ⟨(w.heap.size + 1), 3, none⟩ = some (.string s2)) ∧ Kept W0 w'))
          (first | exact HS.out _ HK0.out | exact HS.out _ (by assumption))
          (first
            | (go_at_call 30; with_reducible refine (T1.out _).mono ?_; rintro e v3 ⟨rfl, b3⟩; have hk3 : Kept W0 v3 := Kept.next (by first | exact HK0.out | assumption) b3)
            | (go_at_call 31; with_reducible refine (L1.out _).mono ?_; rintro e v1 ⟨rfl, b1⟩; have hk1 : Kept W0 v1 := Kept.next (by first | exact HK0.out | assumption) b1)
            | (go_at_call 31; with_reducible refine (L2.out _).mono ?_; rintro e v2 ⟨rfl, b2⟩; have hk2 : Kept W0 v2 := Kept.next (by first | exact HK0.out | assumption) b2))
        have hz1 : Kept W0 v3 := hk3
        have Q2 := HS.out _ hz1
        obtain ⟨⟨a0, a1, a2, a3⟩, ⟨e0, e1, e2, e3⟩, _⟩ := Q2
        go_wp2_with fail
        refine (T2.out _).mono ?_
        rintro e w5 ⟨rfl, b5⟩
        have hz2 : Kept W0 w5 := Kept.next hz1 b5
        clear a0 a1 a2 a3 e0 e1 e2 e3
        clear HK0
        have HK0 : Hid (Kept W0 w5.drew) := Lib.hid (Kept.next hz2 (Kept.drew w5))
        go_wp2_with fail
        go_region_held3 (fun w' => ((w'.cell? ⟨w.heap.size, 0, none⟩ = some (.slice A n c) ∧ w'.cell? ⟨w.heap.size, 1, none⟩ = some (.string p) ∧ w'.cell? ⟨w.heap.size, 2, none⟩ = some (.string f) ∧ w'.cell? ⟨w.heap.size, 3, none⟩ = some (.string s)) ∧ (w'.cell? ⟨(w.heap.size + 1), 0, none⟩ = some (.slice B m d) ∧ w'.cell? ⟨(w.heap.size + 1), 1, none⟩ = some (.string p2) ∧ w'.cell? ⟨(w.heap.size + 1), 2, none⟩ = some (.string f2) ∧ w'.cell? ⟨(w.heap.size + 1), 3, none⟩ = some (.string s2)) ∧ Kept W0 w'))
          (first | exact HS.out _ HK0.out | exact HS.out _ (by assumption))
          (first
            | (go_at_call 30; with_reducible refine (T3.out _).mono ?_; rintro e v13 ⟨rfl, b13⟩; have hk13 : Kept W0 v13 := Kept.next (by first | exact HK0.out | assumption) b13)
            | (go_at_call 31; with_reducible refine (L3.out _).mono ?_; rintro e v11 ⟨rfl, b11⟩; have hk11 : Kept W0 v11 := Kept.next (by first | exact HK0.out | assumption) b11)
            | (go_at_call 31; with_reducible refine (L4.out _).mono ?_; rintro e v12 ⟨rfl, b12⟩; have hk12 : Kept W0 v12 := Kept.next (by first | exact HK0.out | assumption) b12)
            | (go_at_call 32; with_reducible refine (F1.out _ (by first | exact HK0.out | assumption)).mono ?_; rintro e v14 ⟨rfl, b14⟩; have hk14 : Kept W0 v14 := Kept.next (by first | exact HK0.out | assumption) b14)
            | (go_at_call 32; with_reducible refine (F2.out _ (by first | exact HK0.out | assumption)).mono ?_; rintro e v15 ⟨rfl, b15⟩; have hk15 : Kept W0 v15 := Kept.next (by first | exact HK0.out | assumption) b15))
        have hz3 : Kept W0 v13 := hk13
        go_wp2_with fail
        go_ret
        exact ⟨by rw [HE.out]; rfl, HB0.out.trans (Below.mono hz3 HB0.out.size)⟩
    · rw [if_neg z2] at HE
      have hne : (cmpS p p2 != 0) = true := by rw [bne_iff_ne]; exact z2
      clear z1 z2
      generalize cmpS p p2 = r2 at *
      go_enter Tryd.func16, Tryd.ntmps16
      go_wp2_with fail
      rw [← HW0.out]
      have HK0 := Lib.hid (Kept.drew W0)
      go_region_held3 (fun w' => ((w'.cell? ⟨w.heap.size, 0, none⟩ = some (.slice A n c) ∧ w'.cell? ⟨w.heap.size, 1, none⟩ = some (.string p) ∧ w'.cell? ⟨w.heap.size, 2, none⟩ = some (.string f) ∧ w'.cell? ⟨w.heap.size, 3, none⟩ = some (.string s)) ∧ (w'.cell? ⟨(w.heap.size + 1), 0, none⟩ = some (.slice B m d) ∧ w'.cell? ⟨(w.heap.size + 1), 1, none⟩ = some (.string p2) ∧ w'.cell? ⟨(w.heap.size + 1), 2, none⟩ = some (.string f2) ∧ w'.cell? ⟨(w.heap.size + 1), 3, none⟩ = some (.string s2)) ∧ Kept W0 w'))
        (first | exact HS.out _ HK0.out | exact HS.out _ (by assumption))
        (first
          | (go_at_call 30; with_reducible refine (T1.out _).mono ?_; rintro e v3 ⟨rfl, b3⟩; have hk3 : Kept W0 v3 := Kept.next (by first | exact HK0.out | assumption) b3)
          | (go_at_call 31; with_reducible refine (L1.out _).mono ?_; rintro e v1 ⟨rfl, b1⟩; have hk1 : Kept W0 v1 := Kept.next (by first | exact HK0.out | assumption) b1)
          | (go_at_call 31; with_reducible refine (L2.out _).mono ?_; rintro e v2 ⟨rfl, b2⟩; have hk2 : Kept W0 v2 := Kept.next (by first | exact HK0.out | assumption) b2))
      have hz1 : Kept W0 v3 := hk3
      have Q2 := HS.out _ hz1
      obtain ⟨⟨a0, a1, a2, a3⟩, ⟨e0, e1, e2, e3⟩, _⟩ := Q2
      go_wp2_with fail
      refine (T2.out _).mono ?_
      rintro e w5 ⟨rfl, b5⟩
      have hz2 : Kept W0 w5 := Kept.next hz1 b5
      clear a0 a1 a2 a3 e0 e1 e2 e3
      go_wp2_with fail
      go_ret
      exact ⟨by rw [HE.out]; rfl, HB0.out.trans (Below.mono hz2 HB0.out.size)⟩
  · rw [if_neg z1] at HE
    have hne : (cmpS u1 v1 != 0) = true := by rw [bne_iff_ne]; exact z1
    clear z1
    generalize cmpS u1 v1 = r1 at *
    go_enter Tryd.func16, Tryd.ntmps16
    go_wp2_with fail
    rw [← HW0.out]
    have HK0 := Lib.hid (Kept.drew W0)
    go_region_held3 (fun w' => ((w'.cell? ⟨w.heap.size, 0, none⟩ = some (.slice A n c) ∧ w'.cell? ⟨w.heap.size, 1, none⟩ = some (.string p) ∧ w'.cell? ⟨w.heap.size, 2, none⟩ = some (.string f) ∧ w'.cell? ⟨w.heap.size, 3, none⟩ = some (.string s)) ∧ (w'.cell? ⟨(w.heap.size + 1), 0, none⟩ = some (.slice B m d) ∧ w'.cell? ⟨(w.heap.size + 1), 1, none⟩ = some (.string p2) ∧ w'.cell? ⟨(w.heap.size + 1), 2, none⟩ = some (.string f2) ∧ w'.cell? ⟨(w.heap.size + 1), 3, none⟩ = some (.string s2)) ∧ Kept W0 w'))
      (first | exact HS.out _ HK0.out | exact HS.out _ (by assumption))
      (first
        | (go_at_call 30; with_reducible refine (T1.out _).mono ?_; rintro e v3 ⟨rfl, b3⟩; have hk3 : Kept W0 v3 := Kept.next (by first | exact HK0.out | assumption) b3)
        | (go_at_call 31; with_reducible refine (L1.out _).mono ?_; rintro e v1 ⟨rfl, b1⟩; have hk1 : Kept W0 v1 := Kept.next (by first | exact HK0.out | assumption) b1)
        | (go_at_call 31; with_reducible refine (L2.out _).mono ?_; rintro e v2 ⟨rfl, b2⟩; have hk2 : Kept W0 v2 := Kept.next (by first | exact HK0.out | assumption) b2))
    have hz1 : Kept W0 v3 := hk3
    go_wp2_with fail
    go_ret
    exact ⟨by rw [HE.out]; rfl, HB0.out.trans (Below.mono hz1 HB0.out.size)⟩

end Go.Proofs.YtgabgmogcniedaaDoor.Cmp
