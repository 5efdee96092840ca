/-
  Contracts of spec.l2Short and impl.shortForm.
-/
import Derived.Test.YtkbjddppapjphaaDoorIni4
namespace Go.Proofs.YtkbjddppapjphaaDoor.Ini
open Go.RowKit Pl Strs Help Name Stands SplitPl NmPl Word Part NGood Forms Cut IniPl

/-- the short form -/
def shortL (xs : List ByteArray) (p f s : ByteArray) : List UInt8 := jn [iniL xs p f s, p.data.toList, f.data.toList]

set_option maxHeartbeats 2000000 in
theorem l2Short (A : Option Addr) (c n : Nat) (xs : List ByteArray) (p f s : ByteArray) (w : World) (h : Rdn w A n xs) (hcp : ∀ x ∈ ls xs, capB x = true) (hn3 : n ≤ 1000) (hlim : n + lens xs + p.size + f.size + s.size ≤ 2097152) :
    Calls Tryd.prog 77 #[nmV (.slice A n c) p f s] w fun e w' => e = .returned (.string (ba (shortL xs p f s))) ∧ Below w.heap.size w w' := by
  have HB := Lib.hid ((Below.refl _ w).alloc (Nat.le_refl _) (.cells #[.slice A n c, .string p, .string f, .string s] 34))
  have HR := Lib.hid (h.below HB.out)
  have HC := Lib.hid (C4.new w (.slice A n c) p f s 34)
  have HE : Hid (shortL xs p f s = jn (ls [ba (iniL xs p f s), p, f])) := Lib.hid (by simp [shortL, ls, toList_ba])
  have hg : (ba (iniL xs p f s)).size ≤ 1048576 := by
    rw [ba_size]
    have h1 := jn_len (inis xs)
    have h2 := inis_lens (caps_size hcp)
    rw [inis_len] at h1
    have h3 := h.2.2
    unfold iniL
    omega
  have HG := Lib.hid (fun w' (hk : Below (w.alloc (.cells #[.slice A n c, .string p, .string f, .string s] 34)).heap.size (w.alloc (.cells #[.slice A n c, .string p, .string f, .string s] 34)) w') => l2Initials A c n xs p f s w' (HR.out.below hk) hcp hn3)
  clear h hcp
  generalize ba (iniL xs p f s) = gv at *
  go_enter Tryd.func77, Tryd.ntmps77
  go_wp2_with fail
  generalize w.alloc (.cells #[.slice A n c, .string p, .string f, .string s] 34) = W0 at *
  have HS : Hid (∀ w', Kept W0 w' → ((w'.cell? ⟨w.heap.size, 0, none⟩ = some (.slice A n c) ∧ w'.cell? ⟨w.heap.size, 1, none⟩ = some (.string p) ∧ w'.cell? ⟨w.heap.size, 2, none⟩ = some (.string f) ∧ w'.cell? ⟨w.heap.size, 3, none⟩ = some (.string s)) ∧ Kept W0 w')) := Lib.hid (fun w' h => ⟨(HC.out.below h).2, h⟩)
  have HK0 := Lib.hid (Kept.drew W0)
  go_region_held3 (fun w' => (w'.cell? ⟨w.heap.size, 0, none⟩ = some (.slice A n c) ∧ w'.cell? ⟨w.heap.size, 1, none⟩ = some (.string p) ∧ w'.cell? ⟨w.heap.size, 2, none⟩ = some (.string f) ∧ w'.cell? ⟨w.heap.size, 3, none⟩ = some (.string s)) ∧ Kept W0 w')
    (first | exact HS.out _ HK0.out | exact HS.out _ (by assumption) | exact HS.out _ (Kept.alloc (by assumption) _))
    (first
      | (go_at_call 94; refine (HG.out _ HK0.out).mono ?_; rintro e w7 ⟨rfl, b7⟩; have hk7 : Kept W0 w7 := Kept.next HK0.out b7)
      | (go_at_call 117; refine (l2Join _ _ 3 [gv, p, f] _ (rds_lit rfl) rfl (by simp [lens]; omega)).mono ?_; rintro e w8 ⟨rfl, rfl⟩))
  go_wp2_with fail
  go_ret
  exact ⟨by rw [HE.out]; rfl, HB.out.trans (Below.mono (Kept.alloc hk7 _) HB.out.size)⟩

set_option maxHeartbeats 2000000 in
theorem implShort (A : Option Addr) (c n : Nat) (xs : List ByteArray) (p f s : ByteArray) (w : World) (h : Rdn w A n xs) (hcp : ∀ x ∈ ls xs, capB x = true) (hn3 : n ≤ 1000) (hlim : n + lens xs + p.size + f.size + s.size ≤ 2097152) :
    Calls Tryd.prog 76 #[nmV (.slice A n c) p f s] w fun e w' => e = .returned (.string (ba (shortL xs p f s))) ∧ Below w.heap.size w w' := by
  have HB := Lib.hid ((Below.refl _ w).alloc (Nat.le_refl _) (.cells #[.slice A n c, .string p, .string f, .string s] 34))
  have HR := Lib.hid (h.below HB.out)
  have HC := Lib.hid (C4.new w (.slice A n c) p f s 34)
  have HE : Hid (shortL xs p f s = jn (ls [ba (iniL xs p f s), p, f])) := Lib.hid (by simp [shortL, ls, toList_ba])
  have hg : (ba (iniL xs p f s)).size ≤ 1048576 := by
    rw [ba_size]
    have h1 := jn_len (inis xs)
    have h2 := inis_lens (caps_size hcp)
    rw [inis_len] at h1
    have h3 := h.2.2
    unfold iniL
    omega
  have HG := Lib.hid (fun w' (hk : Below (w.alloc (.cells #[.slice A n c, .string p, .string f, .string s] 34)).heap.size (w.alloc (.cells #[.slice A n c, .string p, .string f, .string s] 34)) w') => implInitials A c n xs p f s w' (HR.out.below hk) hcp hn3)
  clear h hcp
  generalize ba (iniL xs p f s) = gv at *
  go_enter Tryd.func76, Tryd.ntmps76
  go_wp2_with fail
  generalize w.alloc (.cells #[.slice A n c, .string p, .string f, .string s] 34) = W0 at *
  have HS : Hid (∀ w', Kept W0 w' → ((w'.cell? ⟨w.heap.size, 0, none⟩ = some (.slice A n c) ∧ w'.cell? ⟨w.heap.size, 1, none⟩ = some (.string p) ∧ w'.cell? ⟨w.heap.size, 2, none⟩ = some (.string f) ∧ w'.cell? ⟨w.heap.size, 3, none⟩ = some (.string s)) ∧ Kept W0 w')) := Lib.hid (fun w' h => ⟨(HC.out.below h).2, h⟩)
  have HK0 := Lib.hid (Kept.drew W0)
  go_region_held3 (fun w' => (w'.cell? ⟨w.heap.size, 0, none⟩ = some (.slice A n c) ∧ w'.cell? ⟨w.heap.size, 1, none⟩ = some (.string p) ∧ w'.cell? ⟨w.heap.size, 2, none⟩ = some (.string f) ∧ w'.cell? ⟨w.heap.size, 3, none⟩ = some (.string s)) ∧ Kept W0 w')
    (first | exact HS.out _ HK0.out | exact HS.out _ (by assumption) | exact HS.out _ (Kept.alloc (by assumption) _))
    (first
      | (go_at_call 96; refine (HG.out _ HK0.out).mono ?_; rintro e w7 ⟨rfl, b7⟩; have hk7 : Kept W0 w7 := Kept.next HK0.out b7)
      | (go_at_call 106; refine (joinPresent _ _ 3 [gv, p, f] _ ⟨rds_lit rfl, (fun _ a ha => by cases ha; simp), rfl⟩ (by simp [lens]; omega)).mono ?_; rintro e w8 ⟨rfl, b8⟩; have hk8 : Kept W0 w8 := Kept.next (Kept.alloc hk7 _) b8))
  go_wp2_with fail
  go_ret
  exact ⟨by rw [HE.out]; rfl, HB.out.trans (Below.mono hk8 HB.out.size)⟩

set_option maxHeartbeats 2000000 in
theorem specShortForm (A : Option Addr) (c n : Nat) (xs : List ByteArray) (p f s : ByteArray) (w : World) (h : Rdn w A n xs) (hlim : n + lens xs + p.size + f.size + s.size ≤ 1048576) :
    Calls Tryd.prog 31 #[nmV (.slice A n c) p f s] w fun e w' => e = .returned (txV (shortL xs p f s) (okN xs p f s)) ∧ Below w.heap.size w w' := by
  have HB := Lib.hid ((Below.refl _ w).alloc (Nat.le_refl _) (.cells #[.slice A n c, .string p, .string f, .string s] 34))
  have HR := Lib.hid (h.below HB.out)
  have HC := Lib.hid (C4.new w (.slice A n c) p f s 34)
  have HX : Hid (∀ x ∈ xs, x.size ≤ 1048576) := Lib.hid (fun x hx => by have := mem_lens hx; omega)
  have hle : n ≤ 1048576 := by omega
  clear h
  cases hok : okN xs p f s with
  | false =>
    have HOK := Lib.hid hok
    clear hok
    go_enter Tryd.func31, Tryd.ntmps31
    go_wp2_with fail
    refine (l2Good_b A c n xs p f s false _ HR.out.1 HR.out.2.1 HR.out.2.2 hle HX.out (by omega) (by omega) (by omega) HOK.out).mono ?_
    rintro e w1 ⟨rfl, b1⟩
    go_wp2_with fail
    go_ret2
    exact ⟨rfl, HB.out.trans (b1.mono HB.out.size)⟩
  | true =>
    have HOK := Lib.hid hok
    clear hok
    have HT : Hid (txV (shortL xs p f s) true = .tuple #[.string (ba (shortL xs p f s)), .bool true]) := Lib.hid rfl
    have HIn := Lib.hid (fun w' (hk : Below (w.alloc (.cells #[.slice A n c, .string p, .string f, .string s] 34)).heap.size (w.alloc (.cells #[.slice A n c, .string p, .string f, .string s] 34)) w') => l2Short A c n xs p f s w' (HR.out.below hk) (okN_caps HOK.out) (by have := okN_three HOK.out; have := HR.out.2.2; omega) (by omega))
    generalize ba (shortL xs p f s) = t at *
    go_enter Tryd.func31, Tryd.ntmps31
    go_wp2_with fail
    refine (l2Good_b A c n xs p f s true _ HR.out.1 HR.out.2.1 HR.out.2.2 hle HX.out (by omega) (by omega) (by omega) HOK.out).mono ?_
    rintro e w1 ⟨rfl, b1⟩
    have HC1 := Lib.hid (HC.out.below b1)
    obtain ⟨hlb, ha0, ha1, ha2, ha3⟩ := HC1.out
    go_wp2_with fail
    refine (HIn.out _ b1).mono ?_
    rintro e w2 ⟨rfl, b2⟩
    have b12 := b1.trans (b2.mono b1.size)
    go_wp2_with fail
    go_ret2
    exact ⟨by rw [HT.out]; rfl, HB.out.trans (b12.mono HB.out.size)⟩

set_option maxHeartbeats 2000000 in
theorem implShortForm (A : Option Addr) (c n : Nat) (xs : List ByteArray) (p f s : ByteArray) (w : World) (h : Rdn w A n xs) (hlim : n + lens xs + p.size + f.size + s.size ≤ 1048576) :
    Calls Tryd.prog 30 #[nmV (.slice A n c) p f s] w fun e w' => e = .returned (txV (shortL xs p f s) (okN xs p f s)) ∧ Below w.heap.size w w' := by
  have HB := Lib.hid ((Below.refl _ w).alloc (Nat.le_refl _) (.cells #[.slice A n c, .string p, .string f, .string s] 34))
  have HR := Lib.hid (h.below HB.out)
  have HC := Lib.hid (C4.new w (.slice A n c) p f s 34)
  have HX : Hid (∀ x ∈ xs, x.size ≤ 1048576) := Lib.hid (fun x hx => by have := mem_lens hx; omega)
  have hle : n ≤ 1048576 := by omega
  clear h
  cases hok : okN xs p f s with
  | false =>
    have HOK := Lib.hid hok
    clear hok
    go_enter Tryd.func30, Tryd.ntmps30
    go_wp2_with fail
    refine (isValid_b A c n xs p f s false _ HR.out.1 HR.out.2.1 HR.out.2.2 hle (by omega) HOK.out).mono ?_
    rintro e w1 ⟨rfl, b1⟩
    go_wp2_with fail
    go_ret2
    exact ⟨rfl, HB.out.trans (b1.mono HB.out.size)⟩
  | true =>
    have HOK := Lib.hid hok
    clear hok
    have HT : Hid (txV (shortL xs p f s) true = .tuple #[.string (ba (shortL xs p f s)), .bool true]) := Lib.hid rfl
    have HIn := Lib.hid (fun w' (hk : Below (w.alloc (.cells #[.slice A n c, .string p, .string f, .string s] 34)).heap.size (w.alloc (.cells #[.slice A n c, .string p, .string f, .string s] 34)) w') => implShort A c n xs p f s w' (HR.out.below hk) (okN_caps HOK.out) (by have := okN_three HOK.out; have := HR.out.2.2; omega) (by omega))
    generalize ba (shortL xs p f s) = t at *
    go_enter Tryd.func30, Tryd.ntmps30
    go_wp2_with fail
    refine (isValid_b A c n xs p f s true _ HR.out.1 HR.out.2.1 HR.out.2.2 hle (by omega) HOK.out).mono ?_
    rintro e w1 ⟨rfl, b1⟩
    have HC1 := Lib.hid (HC.out.below b1)
    obtain ⟨hlb, ha0, ha1, ha2, ha3⟩ := HC1.out
    go_wp2_with fail
    refine (HIn.out _ b1).mono ?_
    rintro e w2 ⟨rfl, b2⟩
    have b12 := b1.trans (b2.mono b1.size)
    go_wp2_with fail
    go_ret2
    exact ⟨by rw [HT.out]; rfl, HB.out.trans (b12.mono HB.out.size)⟩

end Go.Proofs.YtkbjddppapjphaaDoor.Ini
