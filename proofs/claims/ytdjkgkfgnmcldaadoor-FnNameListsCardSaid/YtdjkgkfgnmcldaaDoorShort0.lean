/-
  Contracts of spec.l2Short and impl.shortForm.
-/
import Derived.Test.YtdjkgkfgnmcldaaDoorIni3
namespace Go.Proofs.YtdjkgkfgnmcldaaDoor.Ini
open Go.RowKit Pl Strs Help Name Stands SplitPl NmPl Word Part NGood Forms Cut IniPl

/-- the short form -/
def shortL (xs : List ByteArray) (p f s : ByteArray) : List UInt8 := jn [iniL xs p f s, p.data.toList, f.data.toList]

set_option maxHeartbeats 2000000 in
theorem l2Short (A : Option Addr) (c n : Nat) (xs : List ByteArray) (p f s : ByteArray) (w : World) (h : Rdn w A n xs) (hcp : ∀ x ∈ ls xs, capB x = true) (hn3 : n ≤ 1000) (hlim : n + lens xs + p.size + f.size + s.size ≤ 2097152) :
    Calls Tryd.prog 34 #[nmV (.slice A n c) p f s] w fun e w' => e = .returned (.string (ba (shortL xs p f s))) ∧ Below w.heap.size w w' := by
  have HB := Lib.hid ((Below.refl _ w).alloc (Nat.le_refl _) (.cells #[.slice A n c, .string p, .string f, .string s] 43))
  have HR := Lib.hid (h.below HB.out)
  have HC := Lib.hid (C4.new w (.slice A n c) p f s 43)
  have HE : Hid (shortL xs p f s = jn (ls [ba (iniL xs p f s), p, f])) := Lib.hid (by simp [shortL, ls, toList_ba])
  have hg : (ba (iniL xs p f s)).size ≤ 1048576 := by
    rw [ba_size]
    have h1 := jn_len (inis xs)
    have h2 := inis_lens (caps_size hcp)
    rw [inis_len] at h1
    have h3 := h.2.2
    unfold iniL
    omega
  have HG := Lib.hid (fun w' (hk : Below (w.alloc (.cells #[.slice A n c, .string p, .string f, .string s] 43)).heap.size (w.alloc (.cells #[.slice A n c, .string p, .string f, .string s] 43)) w') => l2Initials A c n xs p f s w' (HR.out.below hk) hcp hn3)
  clear h hcp
  generalize ba (iniL xs p f s) = gv at *
  go_enter Tryd.func34, Tryd.ntmps34
  go_wp2_with fail
  generalize w.alloc (.cells #[.slice A n c, .string p, .string f, .string s] 43) = W0 at *
  have HS : Hid (∀ w', Kept W0 w' → ((w'.cell? ⟨w.heap.size, 0, none⟩ = some (.slice A n c) ∧ w'.cell? ⟨w.heap.size, 1, none⟩ = some (.string p) ∧ w'.cell? ⟨w.heap.size, 2, none⟩ = some (.string f) ∧ w'.cell? ⟨w.heap.size, 3, none⟩ = some (.string s)) ∧ Kept W0 w')) := Lib.hid (fun w' h => ⟨(HC.out.below h).2, h⟩)
  have HK0 := Lib.hid (Kept.drew W0)
  go_region_held3 (fun w' => (w'.cell? ⟨w.heap.size, 0, none⟩ = some (.slice A n c) ∧ w'.cell? ⟨w.heap.size, 1, none⟩ = some (.string p) ∧ w'.cell? ⟨w.heap.size, 2, none⟩ = some (.string f) ∧ w'.cell? ⟨w.heap.size, 3, none⟩ = some (.string s)) ∧ Kept W0 w')
    (first | exact HS.out _ HK0.out | exact HS.out _ (by assumption) | exact HS.out _ (Kept.alloc (by assumption) _))
    (first
      | (go_at_call 47; refine (HG.out _ HK0.out).mono ?_; rintro e w7 ⟨rfl, b7⟩; have hk7 : Kept W0 w7 := Kept.next HK0.out b7)
      | (go_at_call 46; refine (l2Join _ _ 3 [gv, p, f] _ (rds_lit rfl) rfl (by simp [lens]; omega)).mono ?_; rintro e w8 ⟨rfl, rfl⟩))
  go_wp2_with fail
  go_ret
  exact ⟨by rw [HE.out]; rfl, HB.out.trans (Below.mono (Kept.alloc hk7 _) HB.out.size)⟩

set_option maxHeartbeats 2000000 in
theorem implShort (A : Option Addr) (c n : Nat) (xs : List ByteArray) (p f s : ByteArray) (w : World) (h : Rdn w A n xs) (hcp : ∀ x ∈ ls xs, capB x = true) (hn3 : n ≤ 1000) (hlim : n + lens xs + p.size + f.size + s.size ≤ 2097152) :
    Calls Tryd.prog 14 #[nmV (.slice A n c) p f s] w fun e w' => e = .returned (.string (ba (shortL xs p f s))) ∧ Below w.heap.size w w' := by
  have HB := Lib.hid ((Below.refl _ w).alloc (Nat.le_refl _) (.cells #[.slice A n c, .string p, .string f, .string s] 43))
  have HR := Lib.hid (h.below HB.out)
  have HC := Lib.hid (C4.new w (.slice A n c) p f s 43)
  have HE : Hid (shortL xs p f s = jn (ls [ba (iniL xs p f s), p, f])) := Lib.hid (by simp [shortL, ls, toList_ba])
  have hg : (ba (iniL xs p f s)).size ≤ 1048576 := by
    rw [ba_size]
    have h1 := jn_len (inis xs)
    have h2 := inis_lens (caps_size hcp)
    rw [inis_len] at h1
    have h3 := h.2.2
    unfold iniL
    omega
  have HG := Lib.hid (fun w' (hk : Below (w.alloc (.cells #[.slice A n c, .string p, .string f, .string s] 43)).heap.size (w.alloc (.cells #[.slice A n c, .string p, .string f, .string s] 43)) w') => implInitials A c n xs p f s w' (HR.out.below hk) hcp hn3)
  clear h hcp
  generalize ba (iniL xs p f s) = gv at *
  go_enter Tryd.func14, Tryd.ntmps14
  go_wp2_with fail
  generalize w.alloc (.cells #[.slice A n c, .string p, .string f, .string s] 43) = W0 at *
  have HS : Hid (∀ w', Kept W0 w' → ((w'.cell? ⟨w.heap.size, 0, none⟩ = some (.slice A n c) ∧ w'.cell? ⟨w.heap.size, 1, none⟩ = some (.string p) ∧ w'.cell? ⟨w.heap.size, 2, none⟩ = some (.string f) ∧ w'.cell? ⟨w.heap.size, 3, none⟩ = some (.string s)) ∧ Kept W0 w')) := Lib.hid (fun w' h => ⟨(HC.out.below h).2, h⟩)
  have HK0 := Lib.hid (Kept.drew W0)
  go_region_held3 (fun w' => (w'.cell? ⟨w.heap.size, 0, none⟩ = some (.slice A n c) ∧ w'.cell? ⟨w.heap.size, 1, none⟩ = some (.string p) ∧ w'.cell? ⟨w.heap.size, 2, none⟩ = some (.string f) ∧ w'.cell? ⟨w.heap.size, 3, none⟩ = some (.string s)) ∧ Kept W0 w')
    (first | exact HS.out _ HK0.out | exact HS.out _ (by assumption) | exact HS.out _ (Kept.alloc (by assumption) _))
    (first
      | (go_at_call 31; refine (HG.out _ HK0.out).mono ?_; rintro e w7 ⟨rfl, b7⟩; have hk7 : Kept W0 w7 := Kept.next HK0.out b7)
      | (go_at_call 30; refine (joinPresent _ _ 3 [gv, p, f] _ ⟨rds_lit rfl, (fun _ a ha => by cases ha; simp), rfl⟩ (by simp [lens]; omega)).mono ?_; rintro e w8 ⟨rfl, b8⟩; have hk8 : Kept W0 w8 := Kept.next (Kept.alloc hk7 _) b8))
  go_wp2_with fail
  go_ret
  exact ⟨by rw [HE.out]; rfl, HB.out.trans (Below.mono hk8 HB.out.size)⟩

end Go.Proofs.YtdjkgkfgnmcldaaDoor.Ini
