/-
  Contracts of impl.comparedParts and spec.l2Compare.
-/
import Derived.Test.YtgabgmogcniedaaDoorFormsF
import Derived.Test.YtgabgmogcniedaaDoorForms2F
import Derived.Test.YtgabgmogcniedaaDoorTx
import Derived.Test.YtgabgmogcniedaaDoorCmp
import Derived.Test.YtgabgmogcniedaaDoorLow
import Derived.Test.YtgabgmogcniedaaDoorCmpPl
import Derived.Test.YtgabgmogcniedaaDoorOkS
import Derived.Deep.RegionHeld3
namespace Go.Proofs.YtgabgmogcniedaaDoor.Cmp
open Go.RowKit Pl Strs Help Name Stands SplitPl NmPl Word Part NGood Forms CmpPl
set_option linter.unusedSimpArgs false
set_option linter.unusedVariables false

def lowS (s : ByteArray) : ByteArray := ⟨(Lib.toLowerA s.data.toList).toArray⟩
/-- what names are compared by -/
def cpL (xs : List ByteArray) (p f s : ByteArray) : List ByteArray := [lowS f, p, lowS (ba (fullL xs p f s)), ba (invL xs p f s)]
theorem ok_asc {xs : List ByteArray} {p f s : ByteArray} (h : okN xs p f s = true) : asc f.data.toList ∧ asc (ba (fullL xs p f s)).data.toList ∧ asc p.data.toList ∧ lowS p = p := by
  obtain ⟨h1, h2, h3, h4⟩ := good_asc (show goodB (ls xs) p.data.toList f.data.toList s.data.toList = true from h)
  refine ⟨h1, by rw [toList_ba]; exact h2, h3, ?_⟩
  unfold lowS
  rw [h4]
theorem lowAny (s : ByteArray) (w : World) (hs : s.size ≤ 1048576) (ha : asc s.data.toList) :
    Calls Tryd.prog 24 #[.string s] w fun e w' => e = .returned (.string (lowS s)) ∧ Below w.heap.size w w' :=
  Tryd.strings_ToLower_ascii s w (by omega) (asc_at ha)
theorem full_size (xs : List ByteArray) (p f s : ByteArray) : (ba (fullL xs p f s)).size ≤ xs.length + lens xs + p.size + f.size + s.size + 4 := by
  have e : fullL xs p f s = jn (ls [ba (jn (ls xs)), p, f, s]) := by simp [fullL, ls, toList_ba]
  have h := jn_len [ba (jn (ls xs)), p, f, s]
  have h2 := jn_len xs
  rw [ba_size, e]
  simp [lens, ba_size] at h
  omega

set_option maxHeartbeats 4000000 in
theorem compared (A : Option Addr) (c n : Nat) (xs : List ByteArray) (p f s : ByteArray) (w : World) (h : Rdn w A n xs) (hcap : n ≤ c) (hok : okN xs p f s = true) (hlim : n + lens xs + p.size + f.size + s.size ≤ 1048000) :
    Calls Tryd.prog 14 #[nmV (.slice A n c) p f s] w fun e w' => ∃ B, e = .returned (.slice B 4 4) ∧ Rdn w' B 4 (cpL xs p f s) ∧ Below w.heap.size w w' := by
  have HB := Lib.hid ((Below.refl _ w).alloc (Nat.le_refl _) (.cells #[.slice A n c, .string p, .string f, .string s] 26))
  have HR := Lib.hid (h.below HB.out)
  have HC := Lib.hid (C4.new w (.slice A n c) p f s 26)
  obtain ⟨a1, a2, a3, a4⟩ := ok_asc hok
  have hfs : (ba (fullL xs p f s)).size ≤ 1048576 := by have := full_size xs p f s; have := h.2.2; omega
  have HF := Lib.hid (fun w' (hk : Kept (w.alloc (.cells #[.slice A n c, .string p, .string f, .string s] 26)) w') => implFull A c n xs p f s w' (HR.out.below hk) hcap (okN_nes hok) (by omega))
  have HI := Lib.hid (fun w' (hk : Kept (w.alloc (.cells #[.slice A n c, .string p, .string f, .string s] 26)) w') => implInverse A c n xs p f s w' (HR.out.below hk) hcap (okN_nes hok) (by omega))
  have HL1 := Lib.hid (fun w => lowAny f w (by omega) a1)
  have HL2 := Lib.hid (fun w => lowAny p w (by omega) a3)
  have HL3 := Lib.hid (fun w => lowAny (ba (fullL xs p f s)) w hfs a2)
  rw [a4] at HL2
  have HE : Hid (cpL xs p f s = [lowS f, p, lowS (ba (fullL xs p f s)), ba (invL xs p f s)]) := Lib.hid rfl
  clear h hok a1 a2 a3 a4 hfs
  generalize lowS (ba (fullL xs p f s)) = g3 at *
  generalize ba (fullL xs p f s) = g2 at *
  generalize ba (invL xs p f s) = g4 at *
  generalize lowS f = g1 at *
  go_enter Tryd.func14, Tryd.ntmps14
  go_wp2_with fail
  generalize w.alloc (.cells #[.slice A n c, .string p, .string f, .string s] 26) = W0 at *
  have HS : Hid (∀ w', Kept W0 w' → ((w'.cell? ⟨w.heap.size, 0, none⟩ = some (.slice A n c) ∧ w'.cell? ⟨w.heap.size, 1, none⟩ = some (.string p) ∧ w'.cell? ⟨w.heap.size, 2, none⟩ = some (.string f) ∧ w'.cell? ⟨w.heap.size, 3, none⟩ = some (.string s)) ∧ Kept W0 w')) := Lib.hid (fun w' h => ⟨(HC.out.below h).2, h⟩)
  have HK0 := Lib.hid (Kept.drew W0)
  go_region_held3 (fun w' => (w'.cell? ⟨w.heap.size, 0, none⟩ = some (.slice A n c) ∧ w'.cell? ⟨w.heap.size, 1, none⟩ = some (.string p) ∧ w'.cell? ⟨w.heap.size, 2, none⟩ = some (.string f) ∧ w'.cell? ⟨w.heap.size, 3, none⟩ = some (.string s)) ∧ Kept W0 w')
    (first | exact HS.out _ HK0.out | exact HS.out _ (by assumption) | exact HS.out _ (Kept.alloc (by assumption) _))
    (first
      | (go_at_call 26; with_reducible refine (HI.out _ (by first | exact HK0.out | assumption)).mono ?_; rintro e w5 ⟨rfl, b5⟩; have hk5 : Kept W0 w5 := Kept.next (by first | exact HK0.out | assumption) b5)
      | (go_at_call 25; with_reducible refine (HF.out _ (by first | exact HK0.out | assumption)).mono ?_; rintro e w6 ⟨rfl, b6⟩; have hk6 : Kept W0 w6 := Kept.next (by first | exact HK0.out | assumption) b6)
      | (go_at_call 24; with_reducible refine (HL3.out _).mono ?_; rintro e w3 ⟨rfl, b3⟩; have hk3 : Kept W0 w3 := Kept.next (by first | exact HK0.out | assumption) b3)
      | (go_at_call 24; with_reducible refine (HL2.out _).mono ?_; rintro e w2 ⟨rfl, b2⟩; have hk2 : Kept W0 w2 := Kept.next (by first | exact HK0.out | assumption) b2)
      | (go_at_call 24; with_reducible refine (HL1.out _).mono ?_; rintro e w1 ⟨rfl, b1⟩; have hk1 : Kept W0 w1 := Kept.next (by first | exact HK0.out | assumption) b1))
  go_wp2_with fail
  go_ret
  exact ⟨_, rfl, ⟨by rw [HE.out]; exact rds_lit rfl, (fun _ a ha => by cases ha; simp), rfl⟩, HB.out.trans (Below.mono (Kept.alloc (by assumption) _) HB.out.size)⟩
end Go.Proofs.YtgabgmogcniedaaDoor.Cmp
