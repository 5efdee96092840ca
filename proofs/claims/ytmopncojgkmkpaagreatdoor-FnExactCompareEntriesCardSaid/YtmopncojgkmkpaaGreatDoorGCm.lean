/-
  Several texts of one claim in one file: Cmp2, Cmp3, Cmp4, CeN.
-/
import Derived.Test.YtmopncojgkmkpaaGreatDoorFormsF
import Derived.Test.YtmopncojgkmkpaaGreatDoorForms2F
import Derived.Test.YtmopncojgkmkpaaGreatDoorTx
import Derived.Test.YtmopncojgkmkpaaGreatDoorCmp
import Derived.Test.YtmopncojgkmkpaaGreatDoorLow
import Derived.Test.YtmopncojgkmkpaaGreatDoorCmpPl
import Derived.Test.YtmopncojgkmkpaaGreatDoorOkS
import Derived.Deep.RegionHeld3
import Derived.Test.YtmopncojgkmkpaaGreatDoorNmV
import Derived.Test.YtmopncojgkmkpaaGreatDoorNmL
import Derived.Test.YtmopncojgkmkpaaGreatDoorNmH
/-
  Contracts of impl.comparedParts and spec.l2Compare.
-/
namespace Go.Proofs.YtmopncojgkmkpaaGreatDoor.Cmp
open Go.RowKit Pl Strs Help Name Stands SplitPl NmPl Word Part NGood Forms CmpPl
set_option linter.unusedSimpArgs false
set_option linter.unusedVariables false

def lowS (s : ByteArray) : ByteArray := ⟨(Lib.toLowerA s.data.toList).toArray⟩
/-- what names are compared by -/
def cpL (xs : List ByteArray) (p f s : ByteArray) : List ByteArray := [lowS f, p, lowS (ba (fullL xs p f s)), ba (invL xs p f s)]
theorem ok_asc {xs : List ByteArray} {p f s : ByteArray} (h : okN xs p f s = true) : asc f.data.toList ∧ asc (ba (fullL xs p f s)).data.toList ∧ asc p.data.toList ∧ lowS p = p := by
  obtain ⟨h1, h2, h3, h4⟩ := good_asc (show goodB (ls xs) p.data.toList f.data.toList s.data.toList = true from h)
  refine ⟨h1, by rw [toList_ba]; exact h2, h3, ?_⟩
  unfold lowS
  rw [h4]
theorem lowAny (s : ByteArray) (w : World) (hs : s.size ≤ 1048576) (ha : asc s.data.toList) :
    Calls Tryz.prog 68 #[.string s] w fun e w' => e = .returned (.string (lowS s)) ∧ Below w.heap.size w w' :=
  Tryz.strings_ToLower_ascii s w (by omega) (asc_at ha)
theorem full_size (xs : List ByteArray) (p f s : ByteArray) : (ba (fullL xs p f s)).size ≤ xs.length + lens xs + p.size + f.size + s.size + 4 := by
  have e : fullL xs p f s = jn (ls [ba (jn (ls xs)), p, f, s]) := by simp [fullL, ls, toList_ba]
  have h := jn_len [ba (jn (ls xs)), p, f, s]
  have h2 := jn_len xs
  rw [ba_size, e]
  simp [lens, ba_size] at h
  omega

set_option maxHeartbeats 4000000 in
theorem compared (A : Option Addr) (c n : Nat) (xs : List ByteArray) (p f s : ByteArray) (w : World) (h : Rdn w A n xs) (hcap : n ≤ c) (hok : okN xs p f s = true) (hlim : n + lens xs + p.size + f.size + s.size ≤ 1048000) :
    Calls Tryz.prog 83 #[nmV (.slice A n c) p f s] w fun e w' => ∃ B, e = .returned (.slice B 4 4) ∧ Rdn w' B 4 (cpL xs p f s) ∧ Below w.heap.size w w' := by
  have HB := Lib.hid ((Below.refl _ w).alloc (Nat.le_refl _) (.cells #[.slice A n c, .string p, .string f, .string s] 57))
  have HR := Lib.hid (h.below HB.out)
  have HC := Lib.hid (C4.new w (.slice A n c) p f s 57)
  obtain ⟨a1, a2, a3, a4⟩ := ok_asc hok
  have hfs : (ba (fullL xs p f s)).size ≤ 1048576 := by have := full_size xs p f s; have := h.2.2; omega
  have HF := Lib.hid (fun w' (hk : Kept (w.alloc (.cells #[.slice A n c, .string p, .string f, .string s] 57)) w') => implFull A c n xs p f s w' (HR.out.below hk) hcap (okN_nes hok) (by omega))
  have HI := Lib.hid (fun w' (hk : Kept (w.alloc (.cells #[.slice A n c, .string p, .string f, .string s] 57)) w') => implInverse A c n xs p f s w' (HR.out.below hk) hcap (okN_nes hok) (by omega))
  have HL1 := Lib.hid (fun w => lowAny f w (by omega) a1)
  have HL2 := Lib.hid (fun w => lowAny p w (by omega) a3)
  have HL3 := Lib.hid (fun w => lowAny (ba (fullL xs p f s)) w hfs a2)
  rw [a4] at HL2
  have HE : Hid (cpL xs p f s = [lowS f, p, lowS (ba (fullL xs p f s)), ba (invL xs p f s)]) := Lib.hid rfl
  clear h hok a1 a2 a3 a4 hfs
  generalize lowS (ba (fullL xs p f s)) = g3 at *
  generalize ba (fullL xs p f s) = g2 at *
  generalize ba (invL xs p f s) = g4 at *
  generalize lowS f = g1 at *
  go_enter Tryz.func83, Tryz.ntmps83
  go_wp2_with fail
  generalize w.alloc (.cells #[.slice A n c, .string p, .string f, .string s] 57) = W0 at *
  have HS : Hid (∀ w', Kept W0 w' → ((w'.cell? ⟨w.heap.size, 0, none⟩ = some (.slice A n c) ∧ w'.cell? ⟨w.heap.size, 1, none⟩ = some (.string p) ∧ w'.cell? ⟨w.heap.size, 2, none⟩ = some (.string f) ∧ w'.cell? ⟨w.heap.size, 3, none⟩ = some (.string s)) ∧ Kept W0 w')) := Lib.hid (fun w' h => ⟨(HC.out.below h).2, h⟩)
  have HK0 := Lib.hid (Kept.drew W0)
  go_region_held3 (fun w' => (w'.cell? ⟨w.heap.size, 0, none⟩ = some (.slice A n c) ∧ w'.cell? ⟨w.heap.size, 1, none⟩ = some (.string p) ∧ w'.cell? ⟨w.heap.size, 2, none⟩ = some (.string f) ∧ w'.cell? ⟨w.heap.size, 3, none⟩ = some (.string s)) ∧ Kept W0 w')
    (first | exact HS.out _ HK0.out | exact HS.out _ (by assumption) | exact HS.out _ (Kept.alloc (by assumption) _))
    (first
      | (go_at_call 107; with_reducible refine (HI.out _ (by first | exact HK0.out | assumption)).mono ?_; rintro e w5 ⟨rfl, b5⟩; have hk5 : Kept W0 w5 := Kept.next (by first | exact HK0.out | assumption) b5)
      | (go_at_call 106; with_reducible refine (HF.out _ (by first | exact HK0.out | assumption)).mono ?_; rintro e w6 ⟨rfl, b6⟩; have hk6 : Kept W0 w6 := Kept.next (by first | exact HK0.out | assumption) b6)
      | (go_at_call 68; with_reducible refine (HL3.out _).mono ?_; rintro e w3 ⟨rfl, b3⟩; have hk3 : Kept W0 w3 := Kept.next (by first | exact HK0.out | assumption) b3)
      | (go_at_call 68; with_reducible refine (HL2.out _).mono ?_; rintro e w2 ⟨rfl, b2⟩; have hk2 : Kept W0 w2 := Kept.next (by first | exact HK0.out | assumption) b2)
      | (go_at_call 68; with_reducible refine (HL1.out _).mono ?_; rintro e w1 ⟨rfl, b1⟩; have hk1 : Kept W0 w1 := Kept.next (by first | exact HK0.out | assumption) b1))
  go_wp2_with fail
  go_ret
  exact ⟨_, rfl, ⟨by rw [HE.out]; exact rds_lit rfl, (fun _ a ha => by cases ha; simp), rfl⟩, HB.out.trans (Below.mono (Kept.alloc (by assumption) _) HB.out.size)⟩
end Go.Proofs.YtmopncojgkmkpaaGreatDoor.Cmp
/-
  Contracts of l2Compare and CompareNames of both.
-/
namespace Go.Proofs.YtmopncojgkmkpaaGreatDoor.Cmp
open Go.RowKit Pl Strs Help Name Stands SplitPl NmPl Word Part NGood Forms CmpPl
set_option linter.unusedSimpArgs false
set_option linter.unusedVariables false

/-- how two names compare -/
def cmpM (xs : List ByteArray) (p f s : ByteArray) (ys : List ByteArray) (p2 f2 s2 : ByteArray) : Int :=
  if cmpS (lowS f) (lowS f2) = 0 then (if cmpS p p2 = 0 then (if cmpS (lowS (ba (fullL xs p f s))) (lowS (ba (fullL ys p2 f2 s2))) = 0 then cmpS (ba (invL xs p f s)) (ba (invL ys p2 f2 s2)) else cmpS (lowS (ba (fullL xs p f s))) (lowS (ba (fullL ys p2 f2 s2)))) else cmpS p p2) else cmpS (lowS f) (lowS f2)
theorem cmpM_eq (xs : List ByteArray) (p f s : ByteArray) (ys : List ByteArray) (p2 f2 s2 : ByteArray) : cmpL (cpL xs p f s) (cpL ys p2 f2 s2) = cmpM xs p f s ys p2 f2 s2 := by
  unfold cpL cmpM
  simp only [cmpL]
  split
  · split
    · split
      · split
        · rename_i h; exact h.symm
        · rfl
      · rfl
    · rfl
  · rfl
theorem low_s (s : ByteArray) (w : World) (hs : s.size ≤ 1048576) :
    Calls Tryz.prog 52 #[.string s] w fun e w' => e = .returned (.string (lowS s)) ∧ Below w.heap.size w w' := Low.l2Low s w hs
theorem text_s (a b : ByteArray) (w : World) : Calls Tryz.prog 29 #[.string a, .string b] w fun e w' => e = .returned (.int .i64 (cmpS a b)) ∧ Below w.heap.size w w' :=
  (l2Text_any a b w).mono fun _ _ ⟨he, hw⟩ => ⟨he, hw ▸ Below.refl _ _⟩

set_option maxHeartbeats 8000000 in
theorem l2Compare (A B : Option Addr) (c d n m : Nat) (xs ys : List ByteArray) (p f s p2 f2 s2 : ByteArray) (w : World) (h1 : Rdn w A n xs) (h2 : Rdn w B m ys) (hlim : n + lens xs + p.size + f.size + s.size ≤ 1048000) (hlim2 : m + lens ys + p2.size + f2.size + s2.size ≤ 1048000) :
    Calls Tryz.prog 50 #[nmV (.slice A n c) p f s, nmV (.slice B m d) p2 f2 s2] w fun e w' => e = .returned (.int .i64 (cmpM xs p f s ys p2 f2 s2)) ∧ Below w.heap.size w w' := by
  obtain ⟨W0, hW0⟩ : ∃ W0, W0 = ((w.alloc (.cells #[.slice A n c, .string p, .string f, .string s] 57)).alloc (.cells #[.slice B m d, .string p2, .string f2, .string s2] 57)) := ⟨_, rfl⟩
  have HB0 : Hid (Below w.heap.size w W0) := Lib.hid (by rw [hW0]; exact ((Below.refl _ w).alloc (Nat.le_refl _) _).alloc (by simp) _)
  have HRa := Lib.hid (h1.below HB0.out)
  have HRb := Lib.hid (h2.below HB0.out)
  have HCa : Hid (C4 W0 w.heap.size (.slice A n c) p f s) := Lib.hid (by rw [hW0]; exact (C4.new w (.slice A n c) p f s 57).below ((Below.refl _ _).alloc (Nat.le_refl _) _))
  have HCb : Hid (C4 W0 (w.heap.size + 1) (.slice B m d) p2 f2 s2) := Lib.hid (by
    rw [hW0]
    have := C4.new (w.alloc (.cells #[.slice A n c, .string p, .string f, .string s] 57)) (.slice B m d) p2 f2 s2 57
    simpa using this)
  have hfs : (ba (fullL xs p f s)).size ≤ 1048576 := by have := full_size xs p f s; have := h1.2.2; omega
  have hfs2 : (ba (fullL ys p2 f2 s2)).size ≤ 1048576 := by have := full_size ys p2 f2 s2; have := h2.2.2; omega
  have HE := Lib.hid (show cmpM xs p f s ys p2 f2 s2 = if cmpS (lowS f) (lowS f2) = 0 then (if cmpS p p2 = 0 then (if cmpS (lowS (ba (fullL xs p f s))) (lowS (ba (fullL ys p2 f2 s2))) = 0 then cmpS (ba (invL xs p f s)) (ba (invL ys p2 f2 s2)) else cmpS (lowS (ba (fullL xs p f s))) (lowS (ba (fullL ys p2 f2 s2)))) else cmpS p p2) else cmpS (lowS f) (lowS f2) from rfl)
  have L1 := Lib.hid (fun w => low_s f w (by omega))
  have L2 := Lib.hid (fun w => low_s f2 w (by omega))
  have L3 := Lib.hid (fun w => low_s (ba (fullL xs p f s)) w hfs)
  have L4 := Lib.hid (fun w => low_s (ba (fullL ys p2 f2 s2)) w hfs2)
  have F1 := Lib.hid (fun w' (hk : Kept W0 w') => l2Full A c n xs p f s w' (HRa.out.below hk) (by omega))
  have F2 := Lib.hid (fun w' (hk : Kept W0 w') => l2Full B d m ys p2 f2 s2 w' (HRb.out.below hk) (by omega))
  have I1 := Lib.hid (fun w' (hk : Kept W0 w') => l2Inverse A c n xs p f s w' (HRa.out.below hk) (by omega))
  have I2 := Lib.hid (fun w' (hk : Kept W0 w') => l2Inverse B d m ys p2 f2 s2 w' (HRb.out.below hk) (by omega))
  clear h1 h2 hfs hfs2 HRa HRb
  generalize lowS (ba (fullL xs p f s)) = u3 at *
  generalize lowS (ba (fullL ys p2 f2 s2)) = v3 at *
  generalize ba (fullL xs p f s) = u2 at *
  generalize ba (fullL ys p2 f2 s2) = v2 at *
  generalize ba (invL xs p f s) = u4 at *
  generalize ba (invL ys p2 f2 s2) = v4 at *
  generalize lowS f = u1 at *
  generalize lowS f2 = v1 at *
  have T1 := Lib.hid (fun w => text_s u1 v1 w)
  have T2 := Lib.hid (fun w => text_s p p2 w)
  have T3 := Lib.hid (fun w => text_s u3 v3 w)
  have T4 := Lib.hid (fun w => text_s u4 v4 w)
  generalize cmpM xs p f s ys p2 f2 s2 = res at *
  have HS : Hid (∀ w', Kept W0 w' → ((w'.cell? ⟨w.heap.size, 0, none⟩ = some (.slice A n c) ∧ w'.cell? ⟨w.heap.size, 1, none⟩ = some (.string p) ∧ w'.cell? ⟨w.heap.size, 2, none⟩ = some (.string f) ∧ w'.cell? ⟨w.heap.size, 3, none⟩ = some (.string s)) ∧ (w'.cell? ⟨(w.heap.size + 1), 0, none⟩ = some (.slice B m d) ∧ w'.cell? ⟨(w.heap.size + 1), 1, none⟩ = some (.string p2) ∧ w'.cell? ⟨(w.heap.size + 1), 2, none⟩ = some (.string f2) ∧ w'.cell? ⟨(w.heap.size + 1), 3, none⟩ = some (.string s2)) ∧ Kept W0 w')) := Lib.hid (fun w' h => ⟨(HCa.out.below h).2, (HCb.out.below h).2, h⟩)
  have HW0 := Lib.hid hW0
  clear hW0
  by_cases z1 : cmpS u1 v1 = 0
  · rw [if_pos z1] at HE
    rw [z1] at T1
    by_cases z2 : cmpS p p2 = 0
    · rw [if_pos z2] at HE
      rw [z2] at T2
      by_cases z3 : cmpS u3 v3 = 0
      · rw [if_pos z3] at HE
        rw [z3] at T3
        clear z1 z2 z3
        generalize cmpS u4 v4 = r4 at *
        go_enter Tryz.func50, Tryz.ntmps50
        go_wp2_with fail
        rw [← HW0.out]
        have HK0 := Lib.hid (Kept.drew W0)
        go_region_held3 (fun w' => ((w'.cell? ⟨w.heap.size, 0, none⟩ = some (.slice A n c) ∧ w'.cell? ⟨w.heap.size, 1, none⟩ = some (.string p) ∧ w'.cell? ⟨w.heap.size, 2, none⟩ = some (.string f) ∧ w'.cell? ⟨w.heap.size, 3, none⟩ = some (.string s)) ∧ (w'.cell? ⟨(w.heap.size + 1), 0, none⟩ = some (.slice B m d) ∧ w'.cell? ⟨(w.heap.size + 1), 1, none⟩ = some (.string p2) ∧ w'.cell? ⟨(w.heap.size + 1), 2, none⟩ = some (.string f2) ∧ w'.cell? ⟨(w.heap.size + 1), 3, none⟩ = some (.string s2)) ∧ Kept W0 w'))
          (first | exact HS.out _ HK0.out | exact HS.out _ (by assumption))
          (first
            | (go_at_call 29; with_reducible refine (T1.out _).mono ?_; rintro e v3 ⟨rfl, b3⟩; have hk3 : Kept W0 v3 := Kept.next (by first | exact HK0.out | assumption) b3)
            | (go_at_call 52; with_reducible refine (L1.out _).mono ?_; rintro e v1 ⟨rfl, b1⟩; have hk1 : Kept W0 v1 := Kept.next (by first | exact HK0.out | assumption) b1)
            | (go_at_call 52; with_reducible refine (L2.out _).mono ?_; rintro e v2 ⟨rfl, b2⟩; have hk2 : Kept W0 v2 := Kept.next (by first | exact HK0.out | assumption) b2))
        have hz1 : Kept W0 v3 := hk3
        have Q2 := HS.out _ hz1
        obtain ⟨⟨a0, a1, a2, a3⟩, ⟨e0, e1, e2, e3⟩, _⟩ := Q2
        go_wp2_with fail
        refine (T2.out _).mono ?_
        rintro e w5 ⟨rfl, b5⟩
        have hz2 : Kept W0 w5 := Kept.next hz1 b5
        clear a0 a1 a2 a3 e0 e1 e2 e3
        clear HK0
        have HK0 : Hid (Kept W0 w5.drew) := Lib.hid (Kept.next hz2 (Kept.drew w5))
        go_wp2_with fail
        go_region_held3 (fun w' => ((w'.cell? ⟨w.heap.size, 0, none⟩ = some (.slice A n c) ∧ w'.cell? ⟨w.heap.size, 1, none⟩ = some (.string p) ∧ w'.cell? ⟨w.heap.size, 2, none⟩ = some (.string f) ∧ w'.cell? ⟨w.heap.size, 3, none⟩ = some (.string s)) ∧ (w'.cell? ⟨(w.heap.size + 1), 0, none⟩ = some (.slice B m d) ∧ w'.cell? ⟨(w.heap.size + 1), 1, none⟩ = some (.string p2) ∧ w'.cell? ⟨(w.heap.size + 1), 2, none⟩ = some (.string f2) ∧ w'.cell? ⟨(w.heap.size + 1), 3, none⟩ = some (.string s2)) ∧ Kept W0 w'))
          (first | exact HS.out _ HK0.out | exact HS.out _ (by assumption))
          (first
            | (go_at_call 29; with_reducible refine (T3.out _).mono ?_; rintro e v13 ⟨rfl, b13⟩; have hk13 : Kept W0 v13 := Kept.next (by first | exact HK0.out | assumption) b13)
            | (go_at_call 52; with_reducible refine (L3.out _).mono ?_; rintro e v11 ⟨rfl, b11⟩; have hk11 : Kept W0 v11 := Kept.next (by first | exact HK0.out | assumption) b11)
            | (go_at_call 52; with_reducible refine (L4.out _).mono ?_; rintro e v12 ⟨rfl, b12⟩; have hk12 : Kept W0 v12 := Kept.next (by first | exact HK0.out | assumption) b12)
            | (go_at_call 75; with_reducible refine (F1.out _ (by first | exact HK0.out | assumption)).mono ?_; rintro e v14 ⟨rfl, b14⟩; have hk14 : Kept W0 v14 := Kept.next (by first | exact HK0.out | assumption) b14)
            | (go_at_call 75; with_reducible refine (F2.out _ (by first | exact HK0.out | assumption)).mono ?_; rintro e v15 ⟨rfl, b15⟩; have hk15 : Kept W0 v15 := Kept.next (by first | exact HK0.out | assumption) b15))
        have hz3 : Kept W0 v13 := hk13
        clear HK0
        have HK0 : Hid (Kept W0 v13.drew) := Lib.hid (Kept.next hz3 (Kept.drew v13))
        go_wp2_with fail
        go_region_held3 (fun w' => ((w'.cell? ⟨w.heap.size, 0, none⟩ = some (.slice A n c) ∧ w'.cell? ⟨w.heap.size, 1, none⟩ = some (.string p) ∧ w'.cell? ⟨w.heap.size, 2, none⟩ = some (.string f) ∧ w'.cell? ⟨w.heap.size, 3, none⟩ = some (.string s)) ∧ (w'.cell? ⟨(w.heap.size + 1), 0, none⟩ = some (.slice B m d) ∧ w'.cell? ⟨(w.heap.size + 1), 1, none⟩ = some (.string p2) ∧ w'.cell? ⟨(w.heap.size + 1), 2, none⟩ = some (.string f2) ∧ w'.cell? ⟨(w.heap.size + 1), 3, none⟩ = some (.string s2)) ∧ Kept W0 w'))
          (first | exact HS.out _ HK0.out | exact HS.out _ (by assumption))
          (first
            | (go_at_call 29; with_reducible refine (T4.out _).mono ?_; rintro e v23 ⟨rfl, b23⟩; have hk23 : Kept W0 v23 := Kept.next (by first | exact HK0.out | assumption) b23)
            | (go_at_call 76; with_reducible refine (I1.out _ (by first | exact HK0.out | assumption)).mono ?_; rintro e v24 ⟨rfl, b24⟩; have hk24 : Kept W0 v24 := Kept.next (by first | exact HK0.out | assumption) b24)
            | (go_at_call 76; with_reducible refine (I2.out _ (by first | exact HK0.out | assumption)).mono ?_; rintro e v25 ⟨rfl, b25⟩; have hk25 : Kept W0 v25 := Kept.next (by first | exact HK0.out | assumption) b25))
        have hz4 : Kept W0 v23 := hk23
        go_wp2_with fail
        go_ret
        exact ⟨by rw [HE.out]; rfl, HB0.out.trans (Below.mono hz4 HB0.out.size)⟩
      · rw [if_neg z3] at HE
        have hne : (cmpS u3 v3 != 0) = true := by rw [bne_iff_ne]; exact z3
        clear z1 z2 z3
        generalize cmpS u3 v3 = r3 at *
        go_enter Tryz.func50, Tryz.ntmps50
        go_wp2_with fail
        rw [← HW0.out]
        have HK0 := Lib.hid (Kept.drew W0)
        go_region_held3 (fun w' => ((w'.cell? ⟨w.heap.size, 0, none⟩ = some (.slice A n c) ∧ w'.cell? ⟨w.heap.size, 1, none⟩ = some (.string p) ∧ w'.cell? ⟨w.heap.size, 2, none⟩ = some (.string f) ∧ w'.cell? ⟨w.heap.size, 3, none⟩ = some (.string s)) ∧ (w'.cell? ⟨(w.heap.size + 1), 0, none⟩ = some (.slice B m d) ∧ w'.cell? ⟨(w.heap.size + 1), 1, none⟩ = some (.string p2) ∧ w'.cell? ⟨(w.heap.size + 1), 2, none⟩ = some (.string f2) ∧ w'.cell? ⟨(w.heap.size + 1), 3, none⟩ = some (.string s2)) ∧ Kept W0 w'))
          (first | exact HS.out _ HK0.out | exact HS.out _ (by assumption))
          (first
            | (go_at_call 29; with_reducible refine (T1.out _).mono ?_; rintro e v3 ⟨rfl, b3⟩; have hk3 : Kept W0 v3 := Kept.next (by first | exact HK0.out | assumption) b3)
            | (go_at_call 52; with_reducible refine (L1.out _).mono ?_; rintro e v1 ⟨rfl, b1⟩; have hk1 : Kept W0 v1 := Kept.next (by first | exact HK0.out | assumption) b1)
            | (go_at_call 52; with_reducible refine (L2.out _).mono ?_; rintro e v2 ⟨rfl, b2⟩; have hk2 : Kept W0 v2 := Kept.next (by first | exact HK0.out | assumption) b2))
        have hz1 : Kept W0 v3 := hk3
        have Q2 := HS.out _ hz1
        obtain ⟨⟨a0, a1, a2, a3⟩, ⟨e0, e1, e2, e3⟩, _⟩ := Q2
        go_wp2_with fail
        refine (T2.out _).mono ?_
        rintro e w5 ⟨rfl, b5⟩
        have hz2 : Kept W0 w5 := Kept.next hz1 b5
        clear a0 a1 a2 a3 e0 e1 e2 e3
        clear HK0
        have HK0 : Hid (Kept W0 w5.drew) := Lib.hid (Kept.next hz2 (Kept.drew w5))
        go_wp2_with fail
        go_region_held3 (fun w' => ((w'.cell? ⟨w.heap.size, 0, none⟩ = some (.slice A n c) ∧ w'.cell? ⟨w.heap.size, 1, none⟩ = some (.string p) ∧ w'.cell? ⟨w.heap.size, 2, none⟩ = some (.string f) ∧ w'.cell? ⟨w.heap.size, 3, none⟩ = some (.string s)) ∧ (w'.cell? ⟨(w.heap.size + 1), 0, none⟩ = some (.slice B m d) ∧ w'.cell? ⟨(w.heap.size + 1), 1, none⟩ = some (.string p2) ∧ w'.cell? ⟨(w.heap.size + 1), 2, none⟩ = some (.string f2) ∧ w'.cell? ⟨(w.heap.size + 1), 3, none⟩ = some (.string s2)) ∧ Kept W0 w'))
          (first | exact HS.out _ HK0.out | exact HS.out _ (by assumption))
          (first
            | (go_at_call 29; with_reducible refine (T3.out _).mono ?_; rintro e v13 ⟨rfl, b13⟩; have hk13 : Kept W0 v13 := Kept.next (by first | exact HK0.out | assumption) b13)
            | (go_at_call 52; with_reducible refine (L3.out _).mono ?_; rintro e v11 ⟨rfl, b11⟩; have hk11 : Kept W0 v11 := Kept.next (by first | exact HK0.out | assumption) b11)
            | (go_at_call 52; with_reducible refine (L4.out _).mono ?_; rintro e v12 ⟨rfl, b12⟩; have hk12 : Kept W0 v12 := Kept.next (by first | exact HK0.out | assumption) b12)
            | (go_at_call 75; with_reducible refine (F1.out _ (by first | exact HK0.out | assumption)).mono ?_; rintro e v14 ⟨rfl, b14⟩; have hk14 : Kept W0 v14 := Kept.next (by first | exact HK0.out | assumption) b14)
            | (go_at_call 75; with_reducible refine (F2.out _ (by first | exact HK0.out | assumption)).mono ?_; rintro e v15 ⟨rfl, b15⟩; have hk15 : Kept W0 v15 := Kept.next (by first | exact HK0.out | assumption) b15))
        have hz3 : Kept W0 v13 := hk13
        go_wp2_with fail
        go_ret
        exact ⟨by rw [HE.out]; rfl, HB0.out.trans (Below.mono hz3 HB0.out.size)⟩
    · rw [if_neg z2] at HE
      have hne : (cmpS p p2 != 0) = true := by rw [bne_iff_ne]; exact z2
      clear z1 z2
      generalize cmpS p p2 = r2 at *
      go_enter Tryz.func50, Tryz.ntmps50
      go_wp2_with fail
      rw [← HW0.out]
      have HK0 := Lib.hid (Kept.drew W0)
      go_region_held3 (fun w' => ((w'.cell? ⟨w.heap.size, 0, none⟩ = some (.slice A n c) ∧ w'.cell? ⟨w.heap.size, 1, none⟩ = some (.string p) ∧ w'.cell? ⟨w.heap.size, 2, none⟩ = some (.string f) ∧ w'.cell? ⟨w.heap.size, 3, none⟩ = some (.string s)) ∧ (w'.cell? ⟨(w.heap.size + 1), 0, none⟩ = some (.slice B m d) ∧ w'.cell? ⟨(w.heap.size + 1), 1, none⟩ = some (.string p2) ∧ w'.cell? ⟨(w.heap.size + 1), 2, none⟩ = some (.string f2) ∧ w'.cell? ⟨(w.heap.size + 1), 3, none⟩ = some (.string s2)) ∧ Kept W0 w'))
        (first | exact HS.out _ HK0.out | exact HS.out _ (by assumption))
        (first
          | (go_at_call 29; with_reducible refine (T1.out _).mono ?_; rintro e v3 ⟨rfl, b3⟩; have hk3 : Kept W0 v3 := Kept.next (by first | exact HK0.out | assumption) b3)
          | (go_at_call 52; with_reducible refine (L1.out _).mono ?_; rintro e v1 ⟨rfl, b1⟩; have hk1 : Kept W0 v1 := Kept.next (by first | exact HK0.out | assumption) b1)
          | (go_at_call 52; with_reducible refine (L2.out _).mono ?_; rintro e v2 ⟨rfl, b2⟩; have hk2 : Kept W0 v2 := Kept.next (by first | exact HK0.out | assumption) b2))
      have hz1 : Kept W0 v3 := hk3
      have Q2 := HS.out _ hz1
      obtain ⟨⟨a0, a1, a2, a3⟩, ⟨e0, e1, e2, e3⟩, _⟩ := Q2
      go_wp2_with fail
      refine (T2.out _).mono ?_
      rintro e w5 ⟨rfl, b5⟩
      have hz2 : Kept W0 w5 := Kept.next hz1 b5
      clear a0 a1 a2 a3 e0 e1 e2 e3
      go_wp2_with fail
      go_ret
      exact ⟨by rw [HE.out]; rfl, HB0.out.trans (Below.mono hz2 HB0.out.size)⟩
  · rw [if_neg z1] at HE
    have hne : (cmpS u1 v1 != 0) = true := by rw [bne_iff_ne]; exact z1
    clear z1
    generalize cmpS u1 v1 = r1 at *
    go_enter Tryz.func50, Tryz.ntmps50
    go_wp2_with fail
    rw [← HW0.out]
    have HK0 := Lib.hid (Kept.drew W0)
    go_region_held3 (fun w' => ((w'.cell? ⟨w.heap.size, 0, none⟩ = some (.slice A n c) ∧ w'.cell? ⟨w.heap.size, 1, none⟩ = some (.string p) ∧ w'.cell? ⟨w.heap.size, 2, none⟩ = some (.string f) ∧ w'.cell? ⟨w.heap.size, 3, none⟩ = some (.string s)) ∧ (w'.cell? ⟨(w.heap.size + 1), 0, none⟩ = some (.slice B m d) ∧ w'.cell? ⟨(w.heap.size + 1), 1, none⟩ = some (.string p2) ∧ w'.cell? ⟨(w.heap.size + 1), 2, none⟩ = some (.string f2) ∧ w'.cell? ⟨(w.heap.size + 1), 3, none⟩ = some (.string s2)) ∧ Kept W0 w'))
      (first | exact HS.out _ HK0.out | exact HS.out _ (by assumption))
      (first
        | (go_at_call 29; with_reducible refine (T1.out _).mono ?_; rintro e v3 ⟨rfl, b3⟩; have hk3 : Kept W0 v3 := Kept.next (by first | exact HK0.out | assumption) b3)
        | (go_at_call 52; with_reducible refine (L1.out _).mono ?_; rintro e v1 ⟨rfl, b1⟩; have hk1 : Kept W0 v1 := Kept.next (by first | exact HK0.out | assumption) b1)
        | (go_at_call 52; with_reducible refine (L2.out _).mono ?_; rintro e v2 ⟨rfl, b2⟩; have hk2 : Kept W0 v2 := Kept.next (by first | exact HK0.out | assumption) b2))
    have hz1 : Kept W0 v3 := hk3
    go_wp2_with fail
    go_ret
    exact ⟨by rw [HE.out]; rfl, HB0.out.trans (Below.mono hz1 HB0.out.size)⟩

end Go.Proofs.YtmopncojgkmkpaaGreatDoor.Cmp
/-
  Contracts of CompareNames of both.
-/
namespace Go.Proofs.YtmopncojgkmkpaaGreatDoor.Cmp
open Go.RowKit Pl Strs Help Name Stands SplitPl NmPl Word Part NGood Forms CmpPl Nms
set_option linter.unusedSimpArgs false
set_option linter.unusedVariables false

/-- what CompareNames answers -/
def cnV (z : Int) : Bool → Value
  | true => .tuple #[.int .i64 z, .bool true]
  | false => .tuple #[.int .i64 0, .bool false]
theorem cnV_form (z : Int) (b : Bool) : ∃ x y, cnV z b = .tuple #[.int .i64 x, .bool y] := by cases b <;> exact ⟨_, _, rfl⟩
theorem compare_b (A B : Option Addr) (c d n : Nat) (xs ys : List ByteArray) (w : World) (h1 : RdS w A xs) (h2 : RdS w B ys) (hn : xs.length = n) (hm : ys.length = n) (hN : n ≤ 1048576) :
    Calls Tryz.prog 82 #[.slice A n c, .slice B n d] w fun e w' => e = .returned (.int .i64 (cmpL xs ys)) ∧ Below w.heap.size w w' :=
  (compareS A B c d n xs ys w h1 h2 hn hm hN).mono fun _ _ ⟨he, hw⟩ => ⟨he, hw ▸ Below.refl _ _⟩

set_option maxHeartbeats 4000000 in
theorem implCompare (A B : Option Addr) (c d n m : Nat) (xs ys : List ByteArray) (p f s p2 f2 s2 : ByteArray) (w : World) (h1 : Rdn w A n xs) (h2 : Rdn w B m ys) (hl1 : n + lens xs + p.size + f.size + s.size ≤ 1048576) (hl2 : m + lens ys + p2.size + f2.size + s2.size ≤ 1048576) (hc1 : n ≤ c) (hc2 : m ≤ d) :
    Calls Tryz.prog 63 #[nmV (.slice A n c) p f s, nmV (.slice B m d) p2 f2 s2] w fun e w' => e = .returned (cnV (cmpM xs p f s ys p2 f2 s2) (okN xs p f s && okN ys p2 f2 s2)) ∧ Below w.heap.size w w' := by
  obtain ⟨W0, hW0⟩ : ∃ W0, W0 = (w.alloc (.cells #[.slice A n c, .string p, .string f, .string s] 57)).alloc (.cells #[.slice B m d, .string p2, .string f2, .string s2] 57) := ⟨_, rfl⟩
  have HB : Hid (Below w.heap.size w W0) := Lib.hid (by rw [hW0]; exact ((Below.refl _ w).alloc (Nat.le_refl _) _).alloc (by simp) _)
  have R1 := Lib.hid (h1.below HB.out)
  have R2 := Lib.hid (h2.below HB.out)
  have HCa : Hid (C4 W0 w.heap.size (.slice A n c) p f s) := Lib.hid (by rw [hW0]; exact (C4.new w (.slice A n c) p f s 57).below ((Below.refl _ _).alloc (Nat.le_refl _) _))
  have HCb : Hid (C4 W0 (w.heap.size + 1) (.slice B m d) p2 f2 s2) := Lib.hid (by
    rw [hW0]
    have := C4.new (w.alloc (.cells #[.slice A n c, .string p, .string f, .string s] 57)) (.slice B m d) p2 f2 s2 57
    simpa using this)
  have hz0 : W0.heap.size = w.heap.size + 1 + 1 := by rw [hW0]; simp
  have HV := Lib.hid (areValid (some ⟨W0.heap.size, 0, none⟩) 2 2 [⟨A, n, c, xs, p, f, s⟩, ⟨B, m, d, ys, p2, f2, s2⟩] _ (rdns_two (x := ⟨A, n, c, xs, p, f, s⟩) (y := ⟨B, m, d, ys, p2, f2, s2⟩) ⟨R1.out, (by show n ≤ 1048576; omega), (by show p.size ≤ 1048576; omega)⟩ ⟨R2.out, (by show m ≤ 1048576; omega), (by show p2.size ≤ 1048576; omega)⟩ 57) rfl (by omega))
  have e1 : [(⟨A, n, c, xs, p, f, s⟩ : Nm), ⟨B, m, d, ys, p2, f2, s2⟩].all Nm.ok = (okN xs p f s && okN ys p2 f2 s2) := by simp [Nm.ok]
  rw [e1, hz0] at HV
  have HB1 := Lib.hid ((Below.refl _ W0).alloc (Nat.le_refl _) (.cells #[.slice A n c, .string p, .string f, .string s, .slice B m d, .string p2, .string f2, .string s2] 57))
  have HW0 := Lib.hid hW0
  clear h1 h2 hz0 hW0 e1
  cases hok : (okN xs p f s && okN ys p2 f2 s2) with
  | false =>
    rw [hok] at HV
    clear hok
    go_enter Tryz.func63, Tryz.ntmps63
    go_wp2_with fail
    rw [← HW0.out]
    refine HV.out.mono ?_
    rintro e w1 ⟨rfl, b1⟩
    go_wp2_with fail
    go_ret2
    exact ⟨rfl, HB.out.trans ((HB1.out.trans (b1.mono HB1.out.size)).mono HB.out.size)⟩
  | true =>
    rw [hok] at HV
    obtain ⟨ok1, ok2⟩ := Bool.and_eq_true_iff.1 hok
    have hs1 := ok_small ok1
    have hs2 := ok_small ok2
    rw [R1.out.2.2] at hs1
    rw [R2.out.2.2] at hs2
    have CA := Lib.hid (fun w' (hk : Kept W0 w') => compared A c n xs p f s w' (R1.out.below hk) hc1 ok1 (by omega))
    have CB := Lib.hid (fun w' (hk : Kept W0 w') => compared B d m ys p2 f2 s2 w' (R2.out.below hk) hc2 ok2 (by omega))
    have HE := Lib.hid (cmpM_eq xs p f s ys p2 f2 s2)
    have HL1 : Hid ((cpL xs p f s).length = 4) := Lib.hid rfl
    have HL2 : Hid ((cpL ys p2 f2 s2).length = 4) := Lib.hid rfl
    clear hok ok1 ok2 hs1 hs2
    generalize cmpM xs p f s ys p2 f2 s2 = r at *
    generalize cpL xs p f s = X at *
    generalize cpL ys p2 f2 s2 = Y at *
    go_enter Tryz.func63, Tryz.ntmps63
    go_wp2_with fail
    rw [← HW0.out]
    refine HV.out.mono ?_
    rintro e w1 ⟨rfl, b1⟩
    have b01 : Kept W0 w1 := HB1.out.trans (b1.mono HB1.out.size)
    have HS : Hid (∀ w', Kept W0 w' → ((w'.cell? ⟨w.heap.size, 0, none⟩ = some (.slice A n c) ∧ w'.cell? ⟨w.heap.size, 1, none⟩ = some (.string p) ∧ w'.cell? ⟨w.heap.size, 2, none⟩ = some (.string f) ∧ w'.cell? ⟨w.heap.size, 3, none⟩ = some (.string s)) ∧ (w'.cell? ⟨(w.heap.size + 1), 0, none⟩ = some (.slice B m d) ∧ w'.cell? ⟨(w.heap.size + 1), 1, none⟩ = some (.string p2) ∧ w'.cell? ⟨(w.heap.size + 1), 2, none⟩ = some (.string f2) ∧ w'.cell? ⟨(w.heap.size + 1), 3, none⟩ = some (.string s2)) ∧ Kept W0 w')) := Lib.hid (fun w' h => ⟨(HCa.out.below h).2, (HCb.out.below h).2, h⟩)
    have HK0 : Hid (Kept W0 w1.drew) := Lib.hid (Kept.next b01 (Kept.drew w1))
    clear b1
    go_wp2_with fail
    go_region_held3 (fun w' => ((w'.cell? ⟨w.heap.size, 0, none⟩ = some (.slice A n c) ∧ w'.cell? ⟨w.heap.size, 1, none⟩ = some (.string p) ∧ w'.cell? ⟨w.heap.size, 2, none⟩ = some (.string f) ∧ w'.cell? ⟨w.heap.size, 3, none⟩ = some (.string s)) ∧ (w'.cell? ⟨(w.heap.size + 1), 0, none⟩ = some (.slice B m d) ∧ w'.cell? ⟨(w.heap.size + 1), 1, none⟩ = some (.string p2) ∧ w'.cell? ⟨(w.heap.size + 1), 2, none⟩ = some (.string f2) ∧ w'.cell? ⟨(w.heap.size + 1), 3, none⟩ = some (.string s2)) ∧ Kept W0 w'))
      (first | exact HS.out _ HK0.out | exact HS.out _ (by assumption))
      (first
        | (go_at_call 83; with_reducible refine (CB.out _ hk2).mono ?_; rintro e w3 ⟨B', rfl, R3, b3⟩; have hk3 : Kept W0 w3 := Kept.next hk2 b3; have R23 := R2'.below b3)
        | (go_at_call 83; with_reducible refine (CA.out _ (by first | exact HK0.out | assumption)).mono ?_; rintro e w2 ⟨A', rfl, R2', b2⟩; have hk2 : Kept W0 w2 := Kept.next (by first | exact HK0.out | assumption) b2)
        | (go_at_call 82; refine (compare_b A' B' 4 4 4 X Y _ R23.1 R3.1 HL1.out HL2.out (by omega)).mono ?_; rintro e w4 ⟨rfl, b4⟩; rw [HE.out]; have hk4 : Kept W0 w4 := Kept.next hk3 b4))
    go_wp2_with fail
    go_ret2
    exact ⟨rfl, HB.out.trans (Below.mono hk4 HB.out.size)⟩

end Go.Proofs.YtmopncojgkmkpaaGreatDoor.Cmp
/-
  Contracts of compareValidNames, slices.CompareFunc at names, l8Names: how two lists of names compare.
-/
namespace Go.Proofs.YtmopncojgkmkpaaGreatDoor.CeN
open Go.RowKit Pl Strs Help Name Stands SplitPl NmPl Word Part NGood Nms Cmp
set_option linter.unusedSimpArgs false
set_option linter.unusedVariables false

theorem boxes (w : World) (o o' : Obj) : Below w.heap.size w ((w.alloc o).alloc o') := ((Below.refl _ w).alloc (Nat.le_refl _) o).alloc (by simp) o'
/-- how two names compare -/
def cnX (x y : Nm) : Int := cmpM x.xs x.p x.f x.s y.xs y.p y.f y.s
/-- how two lists of names compare -/
def cnL : List Nm → List Nm → Int
  | [], [] => 0
  | [], _ :: _ => -1
  | _ :: _, [] => 1
  | x :: xs, y :: ys => if cnX x y = 0 then cnL xs ys else cnX x y
theorem cnL_at {xs ys : List Nm} {k : Nat} {x y : Nm} (hx : xs[k]? = some x) (hy : ys[k]? = some y) : cnL (xs.drop k) (ys.drop k) = if cnX x y = 0 then cnL (xs.drop (k + 1)) (ys.drop (k + 1)) else cnX x y := by
  obtain ⟨k1, e1⟩ := List.getElem?_eq_some_iff.1 hx
  obtain ⟨k2, e2⟩ := List.getElem?_eq_some_iff.1 hy
  rw [List.drop_eq_getElem_cons k1, List.drop_eq_getElem_cons k2, e1, e2]
  rfl
theorem cnL_gt {xs ys : List Nm} {k : Nat} (h1 : k < xs.length) (h2 : ys.length ≤ k) : cnL (xs.drop k) (ys.drop k) = 1 := by
  rw [List.drop_eq_getElem_cons h1, List.drop_eq_nil_of_le h2]; rfl
theorem cnL_lt {xs ys : List Nm} {k : Nat} (h1 : xs.length ≤ k) (h2 : k < ys.length) : cnL (xs.drop k) (ys.drop k) = -1 := by
  rw [List.drop_eq_getElem_cons h2, List.drop_eq_nil_of_le h1]; rfl
theorem cnL_eq {xs ys : List Nm} {k : Nat} (h1 : xs.length ≤ k) (h2 : ys.length ≤ k) : cnL (xs.drop k) (ys.drop k) = 0 := by
  rw [List.drop_eq_nil_of_le h1, List.drop_eq_nil_of_le h2]; rfl
set_option maxHeartbeats 1000000 in
theorem valid_i (A B : Option Addr) (c d n m : Nat) (xs ys : List ByteArray) (p f s p2 f2 s2 : ByteArray) (r : Int) (w : World) (h1 : Rdn w A n xs) (h2 : Rdn w B m ys) (hc1 : n ≤ c) (hc2 : m ≤ d) (o1 : okN xs p f s = true) (o2 : okN ys p2 f2 s2 = true) (hr : cmpM xs p f s ys p2 f2 s2 = r) :
    Calls Tryz.prog 39 #[nmV (.slice A n c) p f s, nmV (.slice B m d) p2 f2 s2] w fun e w' => e = .returned (.int .i64 r) ∧ Below w.heap.size w w' := by
  have bb := boxes w (.cells #[.slice A n c, .string p, .string f, .string s] 57) (.cells #[.slice B m d, .string p2, .string f2, .string s2] 57)
  have HB := Lib.hid bb
  have hs1 := ok_small o1
  have hs2 := ok_small o2
  rw [h1.2.2] at hs1
  rw [h2.2.2] at hs2
  have HC := Lib.hid (implCompare A B c d n m xs ys p f s p2 f2 s2 _ (h1.below bb) (h2.below bb) (by omega) (by omega) hc1 hc2)
  rw [o1, o2, hr] at HC
  change Hid (Calls _ _ _ _ fun e w' => e = .returned (.tuple #[.int .i64 r, .bool true]) ∧ _) at HC
  clear bb h1 h2 hs1 hs2 o1 o2 hr
  go_enter Tryz.func39, Tryz.ntmps39
  go_wp2_with fail
  refine HC.out.mono ?_
  rintro e w1 ⟨rfl, b1⟩
  go_wp2_with fail
  go_ret
  exact ⟨rfl, HB.out.trans (b1.mono HB.out.size)⟩
theorem comp_s (A B : Option Addr) (c d n m : Nat) (xs ys : List ByteArray) (p f s p2 f2 s2 : ByteArray) (r : Int) (w : World) (h1 : Rdn w A n xs) (h2 : Rdn w B m ys) (o1 : okN xs p f s = true) (o2 : okN ys p2 f2 s2 = true) (hr : cmpM xs p f s ys p2 f2 s2 = r) :
    Calls Tryz.prog 50 #[nmV (.slice A n c) p f s, nmV (.slice B m d) p2 f2 s2] w fun e w' => e = .returned (.int .i64 r) ∧ Below w.heap.size w w' := by
  subst hr
  have hs1 := ok_small o1
  have hs2 := ok_small o2
  rw [h1.2.2] at hs1
  rw [h2.2.2] at hs2
  exact l2Compare A B c d n m xs ys p f s p2 f2 s2 w h1 h2 (by omega) (by omega)

set_option maxRecDepth 100000 in
set_option maxHeartbeats 8000000 in
theorem names_s (A B : Option Addr) (c d N N' : Nat) (L M : List Nm) (w : World) (h1 : RdN0 w A L) (h2 : RdN0 w B M) (hn : L.length = N) (hm : M.length = N') (hN : N ≤ 4) (hN' : N' ≤ 4) (ok1 : ∀ x ∈ L, x.ok = true) (ok2 : ∀ x ∈ M, x.ok = true) :
    Calls Tryz.prog 24 #[.slice A N c, .slice B N' d] w fun e w' => e = .returned (.int .i64 (cnL L M)) ∧ Below w.heap.size w w' := by
  have H1 := Lib.hid h1
  have H2 := Lib.hid h2
  have HN := Lib.hid hn
  have HM := Lib.hid hm
  have HK1 := Lib.hid ok1
  have HK2 := Lib.hid ok2
  clear h1 h2 hn hm ok1 ok2
  go_enter Tryz.func24, Tryz.ntmps24
  go_wp2_with fail
  go_loopw [5] (fun i wr => ∃ k : Nat, k ≤ N ∧ k ≤ N' ∧ i = .int .i64 k ∧ Hid (cnL (L.drop k) (M.drop k) = cnL L M) ∧ Below w.heap.size w wr) (fun i _ => N - (intOf i).toNat)
  case atStart => exact ⟨0, Nat.zero_le _, Nat.zero_le _, rfl, Lib.hid rfl, Below.refl _ _⟩
  case round =>
    obtain ⟨k, hk, hk', rfl, HD, hb⟩ := hrel
    by_cases hlt : k < N
    · by_cases hlm : k < N'
      · have hkx : k < L.length := by rw [HN.out]; omega
        have hky : k < M.length := by rw [HM.out]; omega
        have hx? := List.getElem?_eq_getElem hkx
        have hy? := List.getElem?_eq_getElem hky
        obtain ⟨hr, g, o, rfl, hg, a0, a1, a2, a3⟩ := (H1.out.below hb) k L[k] hx?
        obtain ⟨hr', g', o', rfl, hg', d0, d1, d2, d3⟩ := (H2.out.below hb) k M[k] hy?
        have hxk := HK1.out _ (List.getElem_mem hkx)
        have hyk := HK2.out _ (List.getElem_mem hky)
        have HO := Lib.hid (cnL_at hx? hy?)
        clear hx? hy?
        generalize L[k] = x at *
        generalize M[k] = y at *
        obtain ⟨A1, n1, c1, xs, p, f, s⟩ := x
        obtain ⟨A2, n2, c2, ys, p2, f2, s2⟩ := y
        dsimp only at hr hr' a0 a1 a2 a3 d0 d1 d2 d3
        have ok1 : okN xs p f s = true := hxk
        have ok2 : okN ys p2 f2 s2 = true := hyk
        have HR1 := Lib.hid hr
        have HR2 := Lib.hid hr'
        have HOk1 := Lib.hid ok1
        have HOk2 := Lib.hid ok2
        obtain ⟨r, hr0⟩ : ∃ r, cmpM xs p f s ys p2 f2 s2 = r := ⟨_, rfl⟩
        have HRr := Lib.hid hr0
        have HO2 : Hid (cnL (L.drop k) (M.drop k) = if r = 0 then cnL (L.drop (k + 1)) (M.drop (k + 1)) else r) := Lib.hid (by have := HO.out; unfold cnX at this; rw [hr0] at this; exact this)
        clear hr hr' hxk hyk ok1 ok2 HO hr0
        have HS : Hid (∀ w', Kept wr w' → ((w'.cell? ⟨g, o + k * 4, none⟩ = some (.slice A1 n1 c1) ∧ w'.cell? ⟨g, o + k * 4 + 1, none⟩ = some (.string p) ∧ w'.cell? ⟨g, o + k * 4 + 2, none⟩ = some (.string f) ∧ w'.cell? ⟨g, o + k * 4 + 3, none⟩ = some (.string s) ∧ w'.cell? ⟨g', o' + k * 4, none⟩ = some (.slice A2 n2 c2) ∧ w'.cell? ⟨g', o' + k * 4 + 1, none⟩ = some (.string p2) ∧ w'.cell? ⟨g', o' + k * 4 + 2, none⟩ = some (.string f2) ∧ w'.cell? ⟨g', o' + k * 4 + 3, none⟩ = some (.string s2)) ∧ Kept wr w')) := Lib.hid (fun w' h => ⟨⟨(h.cell (p := ⟨g, o + k * 4, none⟩) hg).trans a0, (h.cell (p := ⟨g, o + k * 4 + 1, none⟩) hg).trans a1, (h.cell (p := ⟨g, o + k * 4 + 2, none⟩) hg).trans a2, (h.cell (p := ⟨g, o + k * 4 + 3, none⟩) hg).trans a3, (h.cell (p := ⟨g', o' + k * 4, none⟩) hg').trans d0, (h.cell (p := ⟨g', o' + k * 4 + 1, none⟩) hg').trans d1, (h.cell (p := ⟨g', o' + k * 4 + 2, none⟩) hg').trans d2, (h.cell (p := ⟨g', o' + k * 4 + 3, none⟩) hg').trans d3⟩, h⟩)
        have HK0 := Lib.hid (Kept.drew wr)
        have HR1d : Hid (Rdn wr.drew A1 n1 xs) := Lib.hid (HR1.out.below HK0.out)
        have HR2d : Hid (Rdn wr.drew A2 n2 ys) := Lib.hid (HR2.out.below HK0.out)
        clear a0 a1 a2 a3 d0 d1 d2 d3
        by_cases hz : r = 0
        · subst hz
          have HD' : Hid (cnL (L.drop (k + 1)) (M.drop (k + 1)) = cnL L M) := Lib.hid (by rw [← HD.out, HO2.out, if_pos rfl])
          clear HO2 HD
          go_wp2_with fail
          go_region_held3 (fun w' => (w'.cell? ⟨g, o + k * 4, none⟩ = some (.slice A1 n1 c1) ∧ w'.cell? ⟨g, o + k * 4 + 1, none⟩ = some (.string p) ∧ w'.cell? ⟨g, o + k * 4 + 2, none⟩ = some (.string f) ∧ w'.cell? ⟨g, o + k * 4 + 3, none⟩ = some (.string s) ∧ w'.cell? ⟨g', o' + k * 4, none⟩ = some (.slice A2 n2 c2) ∧ w'.cell? ⟨g', o' + k * 4 + 1, none⟩ = some (.string p2) ∧ w'.cell? ⟨g', o' + k * 4 + 2, none⟩ = some (.string f2) ∧ w'.cell? ⟨g', o' + k * 4 + 3, none⟩ = some (.string s2)) ∧ Kept wr w')
            (first | exact HS.out _ HK0.out | exact HS.out _ (by assumption))
            (first
              | (go_at_call 50; with_reducible refine (comp_s A1 A2 c1 c2 n1 n2 xs ys p f s p2 f2 s2 0 _ HR1d.out HR2d.out HOk1.out HOk2.out HRr.out).mono ?_; rintro e w1 ⟨rfl, b1⟩; have hk1 : Kept wr w1 := Kept.next HK0.out b1))
          have hb1 := hb.trans (Below.mono hk1 hb.size)
          clear HS HK0 hk1 b1
          (try clear hHeld)
          go_wp2_with fail
          go_roundw
          case rel => exact ⟨k + 1, by omega, by omega, by go_num, HD', hb1⟩
          case measure => simp [intOf]; omega
        · have HF : Hid (cnL L M = r) := Lib.hid (by rw [← HD.out, HO2.out, if_neg hz])
          have hne : (r != 0) = true := by rw [bne_iff_ne]; exact hz
          clear HO2 HD hz
          go_wp2_with fail
          go_region_held3 (fun w' => (w'.cell? ⟨g, o + k * 4, none⟩ = some (.slice A1 n1 c1) ∧ w'.cell? ⟨g, o + k * 4 + 1, none⟩ = some (.string p) ∧ w'.cell? ⟨g, o + k * 4 + 2, none⟩ = some (.string f) ∧ w'.cell? ⟨g, o + k * 4 + 3, none⟩ = some (.string s) ∧ w'.cell? ⟨g', o' + k * 4, none⟩ = some (.slice A2 n2 c2) ∧ w'.cell? ⟨g', o' + k * 4 + 1, none⟩ = some (.string p2) ∧ w'.cell? ⟨g', o' + k * 4 + 2, none⟩ = some (.string f2) ∧ w'.cell? ⟨g', o' + k * 4 + 3, none⟩ = some (.string s2)) ∧ Kept wr w')
            (first | exact HS.out _ HK0.out | exact HS.out _ (by assumption))
            (first
              | (go_at_call 50; with_reducible refine (comp_s A1 A2 c1 c2 n1 n2 xs ys p f s p2 f2 s2 r _ HR1d.out HR2d.out HOk1.out HOk2.out HRr.out).mono ?_; rintro e w1 ⟨rfl, b1⟩; have hk1 : Kept wr w1 := Kept.next HK0.out b1))
          have hb1 := hb.trans (Below.mono hk1 hb.size)
          clear HS HK0 hk1 b1
          (try clear hHeld)
          go_wp2_with fail
          go_ret
          exact ⟨by rw [HF.out]; rfl, hb1⟩
      · have HF : Hid (cnL L M = 1) := Lib.hid (by rw [← HD.out, cnL_gt (by rw [HN.out]; exact hlt) (by rw [HM.out]; omega)])
        have hg1 : decide (N < N') = false := by simp; omega
        have hg2 : decide (N' < N) = true := by simp; omega
        have hg3 : decide (N' ≤ k) = true := by simp; omega
        go_wp2_with fail
        go_ret
        exact ⟨by rw [HF.out]; rfl, hb⟩
    · obtain rfl : k = N := by omega
      by_cases hlm : k < N'
      · have HF : Hid (cnL L M = -1) := Lib.hid (by rw [← HD.out, cnL_lt (by rw [HN.out]; exact Nat.le_refl _) (by rw [HM.out]; exact hlm)])
        have hg1 : decide (k < N') = true := by simpa using hlm
        go_wp2_with fail
        go_ret
        exact ⟨by rw [HF.out]; rfl, hb⟩
      · have HF : Hid (cnL L M = 0) := Lib.hid (by rw [← HD.out, cnL_eq (by rw [HN.out]; exact Nat.le_refl _) (by rw [HM.out]; omega)])
        have hg1 : decide (k < N') = false := by simpa using hlm
        have hg2 : decide (N' < k) = false := by simp; omega
        go_wp2_with fail
        go_ret
        exact ⟨by rw [HF.out]; rfl, hb⟩

set_option maxRecDepth 100000 in
set_option maxHeartbeats 8000000 in
theorem names_i (A B : Option Addr) (c d N N' : Nat) (L M : List Nm) (w : World) (h1 : RdN0 w A L) (h2 : RdN0 w B M) (hn : L.length = N) (hm : M.length = N') (hN : N ≤ 4) (hN' : N' ≤ 4) (ok1 : ∀ x ∈ L, x.ok = true) (ok2 : ∀ x ∈ M, x.ok = true) (cp1 : ∀ x ∈ L, x.n ≤ x.c) (cp2 : ∀ x ∈ M, x.n ≤ x.c) :
    Calls Tryz.prog 37 #[.slice A N c, .slice B N' d, .func (.func 39) #[] #[]] w fun e w' => e = .returned (.int .i64 (cnL L M)) ∧ Below w.heap.size w w' := by
  have H1 := Lib.hid h1
  have H2 := Lib.hid h2
  have HN := Lib.hid hn
  have HM := Lib.hid hm
  have HK1 := Lib.hid ok1
  have HK2 := Lib.hid ok2
  have HC1 := Lib.hid cp1
  have HC2 := Lib.hid cp2
  clear h1 h2 hn hm ok1 ok2 cp1 cp2
  go_enter Tryz.func37, Tryz.ntmps37
  go_wp2_with fail
  go_loopw [13] (fun i wr => ∃ k : Nat, k ≤ N ∧ k ≤ N' ∧ i = .int .i64 k ∧ Hid (cnL (L.drop k) (M.drop k) = cnL L M) ∧ Below w.heap.size w wr) (fun i _ => N - (intOf i).toNat)
  case atStart => exact ⟨0, Nat.zero_le _, Nat.zero_le _, rfl, Lib.hid rfl, Below.refl _ _⟩
  case round =>
    obtain ⟨k, hk, hk', rfl, HD, hb⟩ := hrel
    by_cases hlt : k < N
    · by_cases hlm : k < N'
      · have hkx : k < L.length := by rw [HN.out]; omega
        have hky : k < M.length := by rw [HM.out]; omega
        have hx? := List.getElem?_eq_getElem hkx
        have hy? := List.getElem?_eq_getElem hky
        obtain ⟨hr, g, o, rfl, hg, a0, a1, a2, a3⟩ := (H1.out.below hb) k L[k] hx?
        obtain ⟨hr', g', o', rfl, hg', d0, d1, d2, d3⟩ := (H2.out.below hb) k M[k] hy?
        have hxk := HK1.out _ (List.getElem_mem hkx)
        have hyk := HK2.out _ (List.getElem_mem hky)
        have hcx := HC1.out _ (List.getElem_mem hkx)
        have hcy := HC2.out _ (List.getElem_mem hky)
        have HO := Lib.hid (cnL_at hx? hy?)
        clear hx? hy?
        generalize L[k] = x at *
        generalize M[k] = y at *
        obtain ⟨A1, n1, c1, xs, p, f, s⟩ := x
        obtain ⟨A2, n2, c2, ys, p2, f2, s2⟩ := y
        dsimp only at hr hr' a0 a1 a2 a3 d0 d1 d2 d3 hcx hcy
        have ok1 : okN xs p f s = true := hxk
        have ok2 : okN ys p2 f2 s2 = true := hyk
        have HR1 := Lib.hid hr
        have HR2 := Lib.hid hr'
        have HOk1 := Lib.hid ok1
        have HOk2 := Lib.hid ok2
        obtain ⟨r, hr0⟩ : ∃ r, cmpM xs p f s ys p2 f2 s2 = r := ⟨_, rfl⟩
        have HRr := Lib.hid hr0
        have HO2 : Hid (cnL (L.drop k) (M.drop k) = if r = 0 then cnL (L.drop (k + 1)) (M.drop (k + 1)) else r) := Lib.hid (by have := HO.out; unfold cnX at this; rw [hr0] at this; exact this)
        clear hr hr' hxk hyk ok1 ok2 HO hr0
        have HX1 := Lib.hid hcx
        have HX2 := Lib.hid hcy
        have bb := boxes wr (.cells #[.slice A1 n1 c1, .string p, .string f, .string s] 57) (.cells #[.slice A2 n2 c2, .string p2, .string f2, .string s2] 57)
        have HR1b := Lib.hid (HR1.out.below bb)
        have HR2b := Lib.hid (HR2.out.below bb)
        have hbb := hb.trans (bb.mono hb.size)
        have d0' := ((Below.refl _ wr).alloc (Nat.le_refl _) (.cells #[.slice A1 n1 c1, .string p, .string f, .string s] 57)).cell (p := ⟨g', o' + k * 4, none⟩) hg'
        rw [d0] at d0'
        have d1' := ((Below.refl _ wr).alloc (Nat.le_refl _) (.cells #[.slice A1 n1 c1, .string p, .string f, .string s] 57)).cell (p := ⟨g', o' + k * 4 + 1, none⟩) hg'
        rw [d1] at d1'
        have d2' := ((Below.refl _ wr).alloc (Nat.le_refl _) (.cells #[.slice A1 n1 c1, .string p, .string f, .string s] 57)).cell (p := ⟨g', o' + k * 4 + 2, none⟩) hg'
        rw [d2] at d2'
        have d3' := ((Below.refl _ wr).alloc (Nat.le_refl _) (.cells #[.slice A1 n1 c1, .string p, .string f, .string s] 57)).cell (p := ⟨g', o' + k * 4 + 3, none⟩) hg'
        rw [d3] at d3'
        have HCa := Lib.hid ((C4.new wr (.slice A1 n1 c1) p f s 57).below ((Below.refl _ _).alloc (Nat.le_refl _) (.cells #[.slice A2 n2 c2, .string p2, .string f2, .string s2] 57)))
        clear hcx hcy bb
        obtain ⟨la, ca0, ca1, ca2, ca3⟩ := HCa.out
        by_cases hz : r = 0
        · subst hz
          have HD' : Hid (cnL (L.drop (k + 1)) (M.drop (k + 1)) = cnL L M) := Lib.hid (by rw [← HD.out, HO2.out, if_pos rfl])
          clear HO2 HD
          go_wp2_with fail
          with_reducible refine (valid_i A1 A2 c1 c2 n1 n2 xs ys p f s p2 f2 s2 0 _ HR1b.out HR2b.out HX1.out HX2.out HOk1.out HOk2.out HRr.out).mono ?_
          rintro e w1 ⟨rfl, b1⟩
          have hb1 := hbb.trans (b1.mono hbb.size)
          go_wp2_with fail
          go_roundw
          case rel => exact ⟨k + 1, by omega, by omega, by go_num, HD', hb1⟩
          case measure => simp [intOf]; omega
        · have HF : Hid (cnL L M = r) := Lib.hid (by rw [← HD.out, HO2.out, if_neg hz])
          have hne : (r != 0) = true := by rw [bne_iff_ne]; exact hz
          clear HO2 HD hz
          go_wp2_with fail
          with_reducible refine (valid_i A1 A2 c1 c2 n1 n2 xs ys p f s p2 f2 s2 r _ HR1b.out HR2b.out HX1.out HX2.out HOk1.out HOk2.out HRr.out).mono ?_
          rintro e w1 ⟨rfl, b1⟩
          have hb1 := hbb.trans (b1.mono hbb.size)
          go_wp2_with fail
          go_ret
          exact ⟨by rw [HF.out]; rfl, hb1⟩
      · have HF : Hid (cnL L M = 1) := Lib.hid (by rw [← HD.out, cnL_gt (by rw [HN.out]; exact hlt) (by rw [HM.out]; omega)])
        have hg1 : decide (N < N') = false := by simp; omega
        have hg2 : decide (N' < N) = true := by simp; omega
        have hg3 : decide (N' ≤ k) = true := by simp; omega
        have hkx : k < L.length := by rw [HN.out]; omega
        have hx? := List.getElem?_eq_getElem hkx
        obtain ⟨hr, g, o, rfl, hg, a0, a1, a2, a3⟩ := (H1.out.below hb) k L[k] hx?
        clear hx?
        generalize L[k] = x at *
        obtain ⟨A1, n1, c1, xs, p, f, s⟩ := x
        dsimp only at hr a0 a1 a2 a3
        go_wp2_with fail
        go_ret
        exact ⟨by rw [HF.out]; rfl, hb.alloc hb.size _⟩
    · obtain rfl : k = N := by omega
      by_cases hlm : k < N'
      · have HF : Hid (cnL L M = -1) := Lib.hid (by rw [← HD.out, cnL_lt (by rw [HN.out]; exact Nat.le_refl _) (by rw [HM.out]; exact hlm)])
        have hg1 : decide (k < N') = true := by simpa using hlm
        go_wp2_with fail
        go_ret
        exact ⟨by rw [HF.out]; rfl, hb⟩
      · have HF : Hid (cnL L M = 0) := Lib.hid (by rw [← HD.out, cnL_eq (by rw [HN.out]; exact Nat.le_refl _) (by rw [HM.out]; omega)])
        have hg1 : decide (k < N') = false := by simpa using hlm
        have hg2 : decide (N' < k) = false := by simp; omega
        go_wp2_with fail
        go_ret
        exact ⟨by rw [HF.out]; rfl, hb⟩
end Go.Proofs.YtmopncojgkmkpaaGreatDoor.CeN
