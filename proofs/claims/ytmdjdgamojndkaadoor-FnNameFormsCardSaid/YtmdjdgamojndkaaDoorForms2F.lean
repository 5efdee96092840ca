/-
  The full form of the program.
-/
import Derived.Test.YtmdjdgamojndkaaDoorForms2
namespace Go.Proofs.YtmdjdgamojndkaaDoor.Forms
open Go.RowKit Pl Strs Help Name Stands SplitPl NmPl Word Part NGood

set_option maxHeartbeats 2000000 in
theorem implFull (A : Option Addr) (c n : Nat) (xs : List ByteArray) (p f s : ByteArray) (w : World) (h : Rdn w A n xs) (hcap : n ≤ c) (hne : Nes xs) (hlim : n + lens xs + p.size + f.size + s.size ≤ 2097152) :
    Calls Tryd.prog 29 #[nmV (.slice A n c) p f s] w fun e w' => e = .returned (.string (ba (fullL xs p f s))) ∧ Below w.heap.size w w' := by
  have HB := Lib.hid ((Below.refl _ w).alloc (Nat.le_refl _) (.cells #[.slice A n c, .string p, .string f, .string s] 26))
  have HR := Lib.hid (h.below HB.out)
  have HC := Lib.hid (C4.new w (.slice A n c) p f s 26)
  have HE : Hid (fullL xs p f s = jn (ls [ba (jn (ls xs)), p, f, s])) := Lib.hid (by simp [fullL, ls, toList_ba])
  have hg : (ba (jn (ls xs))).size ≤ n + lens xs := by rw [ba_size, ← h.2.2]; exact jn_len xs
  have hjn : Lib.join (ls xs) [32] = jn (ls xs) := jn_all hne
  have HG := Lib.hid (fun w' (hk : Below (w.alloc (.cells #[.slice A n c, .string p, .string f, .string s] 26)).heap.size (w.alloc (.cells #[.slice A n c, .string p, .string f, .string s] 26)) w') => joinSp A c n xs w' (HR.out.below hk) hcap (by omega))
  rw [hjn] at HG
  clear h hne hjn
  generalize ba (jn (ls xs)) = gv at *
  go_enter Tryd.func29, Tryd.ntmps29
  go_wp2_with fail
  generalize w.alloc (.cells #[.slice A n c, .string p, .string f, .string s] 26) = W0 at *
  have HS : Hid (∀ w', Kept W0 w' → ((w'.cell? ⟨w.heap.size, 0, none⟩ = some (.slice A n c) ∧ w'.cell? ⟨w.heap.size, 1, none⟩ = some (.string p) ∧ w'.cell? ⟨w.heap.size, 2, none⟩ = some (.string f) ∧ w'.cell? ⟨w.heap.size, 3, none⟩ = some (.string s)) ∧ Kept W0 w')) := Lib.hid (fun w' h => ⟨(HC.out.below h).2, h⟩)
  have HK0 := Lib.hid (Kept.drew W0)
  go_region_held3 (fun w' => (w'.cell? ⟨w.heap.size, 0, none⟩ = some (.slice A n c) ∧ w'.cell? ⟨w.heap.size, 1, none⟩ = some (.string p) ∧ w'.cell? ⟨w.heap.size, 2, none⟩ = some (.string f) ∧ w'.cell? ⟨w.heap.size, 3, none⟩ = some (.string s)) ∧ Kept W0 w')
    (first | exact HS.out _ HK0.out | exact HS.out _ (by assumption) | exact HS.out _ (Kept.alloc (by assumption) _))
    (first
      | (go_at_call 34; refine (HG.out _ HK0.out).mono ?_; rintro e w7 ⟨rfl, b7⟩; have hk7 : Kept W0 w7 := Kept.next HK0.out b7)
      | (go_at_call 33; refine (joinPresent _ _ 4 [gv, p, f, s] _ ⟨rds_lit rfl, (fun _ a ha => by cases ha; simp), rfl⟩ (by simp [lens]; omega)).mono ?_; rintro e w8 ⟨rfl, b8⟩; have hk8 : Kept W0 w8 := Kept.next (Kept.alloc hk7 _) b8))
  go_wp2_with fail
  go_ret
  exact ⟨by rw [HE.out]; rfl, HB.out.trans (Below.mono hk8 HB.out.size)⟩

end Go.Proofs.YtmdjdgamojndkaaDoor.Forms
