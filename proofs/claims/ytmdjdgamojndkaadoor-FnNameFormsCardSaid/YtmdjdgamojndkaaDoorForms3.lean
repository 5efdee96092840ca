/-
  Contracts of spec.l2Inverse and impl.inverseForm.
-/
import Derived.Test.YtmdjdgamojndkaaDoorForms2
namespace Go.Proofs.YtmdjdgamojndkaaDoor.Forms
open Go.RowKit Pl Strs Help Name Stands SplitPl NmPl Word Part NGood

set_option maxHeartbeats 2000000 in
theorem l2Inverse (A : Option Addr) (c n : Nat) (xs : List ByteArray) (p f s : ByteArray) (w : World) (h : Rdn w A n xs) (hlim : n + lens xs + p.size + f.size + s.size ≤ 1048576) :
    Calls Tryd.prog 25 #[nmV (.slice A n c) p f s] w fun e w' => e = .returned (.string (ba (invL xs p f s))) ∧ Below w.heap.size w w' := by
  obtain ⟨W1, hW1⟩ : ∃ W1, W1 = (w.alloc (.cells #[.slice A n c, .string p, .string f, .string s] 26)).alloc (.cells #[.string p, .string f] 9) := ⟨_, rfl⟩
  have HB : Hid (Below w.heap.size w W1) := Lib.hid (by rw [hW1]; exact ((Below.refl _ w).alloc (Nat.le_refl _) _).alloc (by simp) _)
  have HR := Lib.hid (h.below HB.out)
  have HC : Hid (C4 W1 w.heap.size (.slice A n c) p f s) := Lib.hid (by
    rw [hW1]; exact (C4.new w (.slice A n c) p f s 26).below ((Below.refl _ _).alloc (Nat.le_refl _) _))
  have HL : Hid (RdS W1 (some ⟨w.heap.size + 1, 0, none⟩) [p, f]) := Lib.hid (by
    have := rds_lit (w := w.alloc (.cells #[.slice A n c, .string p, .string f, .string s] 26)) (cs := #[.string p, .string f]) (t := 9) (xs := [p, f]) rfl
    rw [← hW1] at this
    simpa using this)
  have hz1 : W1.heap.size = w.heap.size + 1 + 1 := by rw [hW1]; simp
  have HW1 := Lib.hid hW1
  clear hW1
  have HZ1 := Lib.hid hz1
  clear hz1
  have HN := Lib.hid h.2.2
  have HG := Lib.hid (fun w' (hk : Kept W1 w') => l2Given A c n xs p f s w' (HR.out.below hk) (by omega))
  have h1 : (ba (jn (ls [p, f]))).size ≤ 2 + p.size + f.size := by rw [ba_size]; have := jn_len [p, f]; simp [lens] at this; omega
  have h2 : (ba (jn (ls xs))).size ≤ n + lens xs := by rw [ba_size, ← h.2.2]; exact jn_len xs
  have h44 := two44
  have HJ := Lib.hid (l2Join (some ⟨w.heap.size + 1, 0, none⟩) 2 2 [p, f] W1 HL.out rfl (by simp [lens]; omega))
  have E00 := Lib.hid (fun (h : xs.length = 0) => inv_00 (p := p) (f := f) h)
  have E10 := Lib.hid (fun (h : 0 < xs.length) => inv_10 (p := p) (f := f) h)
  have E1 := Lib.hid (fun (h : s.data.toList ≠ []) => inv_1 (xs := xs) (p := p) (f := f) h)
  clear h HL
  generalize ba (jn (ls [p, f])) = o1 at *
  generalize ba (jn (ls xs)) = gv at *
  generalize lens xs = ll at *
  by_cases hs0 : s.data.toList = []
  · obtain rfl := str_nil hs0
    clear hs0 E1
    by_cases hn0 : n = 0
    · have HV := Lib.hid (E00.out (by rw [HN.out]; exact hn0))
      subst hn0
      go_enter Tryd.func25, Tryd.ntmps25
      go_wp2_with fail
      rw [← HW1.out]
      refine HJ.out.mono ?_
      rintro e w' ⟨rfl, rfl⟩
      have hkw : Kept W1 W1 := Below.refl _ _
      have HCW := HC
      obtain ⟨hlb, ha0, ha1, ha2, ha3⟩ := HCW.out
      go_wp2_with fail
      go_ret
      exact ⟨by rw [HV.out]; rfl, HB.out.trans (Below.mono hkw HB.out.size)⟩
    · have hpos : 0 < n := by omega
      have HV := Lib.hid (E10.out (by rw [HN.out]; exact hpos))
      clear hn0
      go_enter Tryd.func25, Tryd.ntmps25
      go_wp2_with fail
      rw [← HW1.out]
      refine HJ.out.mono ?_
      rintro e w' ⟨rfl, rfl⟩
      have hkw : Kept W1 W1 := Below.refl _ _
      have HCW := HC
      obtain ⟨hlb, ha0, ha1, ha2, ha3⟩ := HCW.out
      go_wp2_with fail
      refine (HG.out _ hkw).mono ?_
      rintro e w3 ⟨rfl, b3⟩
      have hk3 := Kept.next hkw b3
      have HC3 := Lib.hid (HC.out.below hk3)
      clear hlb ha0 ha1 ha2 ha3
      obtain ⟨hlb, ha0, ha1, ha2, ha3⟩ := HC3.out
      go_wp2_with fail
      go_ret
      exact ⟨by rw [← HV.out]; rfl, HB.out.trans (Below.mono hk3 HB.out.size)⟩
  · obtain ⟨hse, hse'⟩ := str_ne hs0
    have HV := Lib.hid (E1.out hs0)
    clear hs0
    by_cases hn0 : n = 0
    · subst hn0
      go_enter Tryd.func25, Tryd.ntmps25
      go_wp2_with fail
      rw [← HW1.out]
      refine HJ.out.mono ?_
      rintro e w' ⟨rfl, rfl⟩
      have hkw : Kept W1 W1 := Below.refl _ _
      have HCW := HC
      obtain ⟨hlb, ha0, ha1, ha2, ha3⟩ := HCW.out
      go_wp2_with fail
      refine (HG.out _ hkw).mono ?_
      rintro e w3 ⟨rfl, b3⟩
      have hk3 := Kept.next hkw b3
      have HC3 := Lib.hid (HC.out.below hk3)
      clear hlb ha0 ha1 ha2 ha3
      obtain ⟨hlb, ha0, ha1, ha2, ha3⟩ := HC3.out
      go_wp2_with fail
      go_ret
      exact ⟨by rw [← HV.out]; rfl, HB.out.trans (Below.mono hk3 HB.out.size)⟩
    · have hpos : 0 < n := by omega
      clear hn0
      go_enter Tryd.func25, Tryd.ntmps25
      go_wp2_with fail
      rw [← HW1.out]
      refine HJ.out.mono ?_
      rintro e w' ⟨rfl, rfl⟩
      have hkw : Kept W1 W1 := Below.refl _ _
      have HCW := HC
      obtain ⟨hlb, ha0, ha1, ha2, ha3⟩ := HCW.out
      go_wp2_with fail
      refine (HG.out _ hkw).mono ?_
      rintro e w3 ⟨rfl, b3⟩
      have hk3 := Kept.next hkw b3
      have HC3 := Lib.hid (HC.out.below hk3)
      clear hlb ha0 ha1 ha2 ha3
      obtain ⟨hlb, ha0, ha1, ha2, ha3⟩ := HC3.out
      go_wp2_with fail
      go_ret
      exact ⟨by rw [← HV.out]; rfl, HB.out.trans (Below.mono hk3 HB.out.size)⟩

set_option maxHeartbeats 2000000 in
theorem implInverse (A : Option Addr) (c n : Nat) (xs : List ByteArray) (p f s : ByteArray) (w : World) (h : Rdn w A n xs) (hcap : n ≤ c) (hne : Nes xs) (hlim : n + lens xs + p.size + f.size + s.size ≤ 1048576) :
    Calls Tryd.prog 16 #[nmV (.slice A n c) p f s] w fun e w' => e = .returned (.string (ba (invL xs p f s))) ∧ Below w.heap.size w w' := by
  obtain ⟨W1, hW1⟩ : ∃ W1, W1 = (w.alloc (.cells #[.slice A n c, .string p, .string f, .string s] 26)).alloc (.cells #[.string p, .string f] 9) := ⟨_, rfl⟩
  have HB : Hid (Below w.heap.size w W1) := Lib.hid (by rw [hW1]; exact ((Below.refl _ w).alloc (Nat.le_refl _) _).alloc (by simp) _)
  have HR := Lib.hid (h.below HB.out)
  have HC : Hid (C4 W1 w.heap.size (.slice A n c) p f s) := Lib.hid (by
    rw [hW1]; exact (C4.new w (.slice A n c) p f s 26).below ((Below.refl _ _).alloc (Nat.le_refl _) _))
  have HL : Hid (RdS W1 (some ⟨w.heap.size + 1, 0, none⟩) [p, f]) := Lib.hid (by
    have := rds_lit (w := w.alloc (.cells #[.slice A n c, .string p, .string f, .string s] 26)) (cs := #[.string p, .string f]) (t := 9) (xs := [p, f]) rfl
    rw [← hW1] at this
    simpa using this)
  have hz1 : W1.heap.size = w.heap.size + 1 + 1 := by rw [hW1]; simp
  have HW1 := Lib.hid hW1
  clear hW1
  have HZ1 := Lib.hid hz1
  clear hz1
  have HN := Lib.hid h.2.2
  have hjn : Lib.join (ls xs) [32] = jn (ls xs) := jn_all hne
  have HG := Lib.hid (fun w' (hk : Kept W1 w') => joinSp A c n xs w' (HR.out.below hk) hcap (by omega))
  rw [hjn] at HG
  clear hne hjn
  have h1 : (ba (jn (ls [p, f]))).size ≤ 2 + p.size + f.size := by rw [ba_size]; have := jn_len [p, f]; simp [lens] at this; omega
  have h2 : (ba (jn (ls xs))).size ≤ n + lens xs := by rw [ba_size, ← h.2.2]; exact jn_len xs
  have h44 := two44
  have HJ := Lib.hid (joinPresent (some ⟨w.heap.size + 1, 0, none⟩) 2 2 [p, f] W1 ⟨HL.out, (fun _ a ha => by cases ha; have := HZ1.out; simp; omega), rfl⟩ (by simp [lens]; omega))
  have E00 := Lib.hid (fun (h : xs.length = 0) => inv_00 (p := p) (f := f) h)
  have E10 := Lib.hid (fun (h : 0 < xs.length) => inv_10' (p := p) (f := f) h)
  have E1 := Lib.hid (fun (h : s.data.toList ≠ []) => inv_1' (xs := xs) (p := p) (f := f) h)
  clear h HL
  generalize ba (jn (ls [p, f])) = o1 at *
  generalize ba (jn (ls xs)) = gv at *
  generalize lens xs = ll at *
  by_cases hs0 : s.data.toList = []
  · obtain rfl := str_nil hs0
    clear hs0 E1
    by_cases hn0 : n = 0
    · have HV := Lib.hid (E00.out (by rw [HN.out]; exact hn0))
      subst hn0
      go_enter Tryd.func16, Tryd.ntmps16
      go_wp2_with fail
      rw [← HW1.out]
      refine HJ.out.mono ?_
      rintro e w2 ⟨rfl, b2⟩
      have hkw : Kept W1 w2 := b2
      have HCW := Lib.hid (HC.out.below b2)
      obtain ⟨hlb, ha0, ha1, ha2, ha3⟩ := HCW.out
      go_wp2_with fail
      go_ret
      exact ⟨by rw [HV.out]; rfl, HB.out.trans (Below.mono hkw HB.out.size)⟩
    · have hpos : 0 < n := by omega
      have HV := Lib.hid (E10.out (by rw [HN.out]; exact hpos))
      clear hn0
      go_enter Tryd.func16, Tryd.ntmps16
      go_wp2_with fail
      rw [← HW1.out]
      refine HJ.out.mono ?_
      rintro e w2 ⟨rfl, b2⟩
      have hkw : Kept W1 w2 := b2
      have HCW := Lib.hid (HC.out.below b2)
      obtain ⟨hlb, ha0, ha1, ha2, ha3⟩ := HCW.out
      go_wp2_with fail
      refine (HG.out _ hkw).mono ?_
      rintro e w3 ⟨rfl, b3⟩
      have hk3 := Kept.next hkw b3
      have HC3 := Lib.hid (HC.out.below hk3)
      clear hlb ha0 ha1 ha2 ha3
      obtain ⟨hlb, ha0, ha1, ha2, ha3⟩ := HC3.out
      go_wp2_with fail
      go_ret
      exact ⟨by rw [← HV.out]; rfl, HB.out.trans (Below.mono hk3 HB.out.size)⟩
  · obtain ⟨hse, hse'⟩ := str_ne hs0
    have HV := Lib.hid (E1.out hs0)
    clear hs0
    by_cases hn0 : n = 0
    · subst hn0
      go_enter Tryd.func16, Tryd.ntmps16
      go_wp2_with fail
      rw [← HW1.out]
      refine HJ.out.mono ?_
      rintro e w2 ⟨rfl, b2⟩
      have hkw : Kept W1 w2 := b2
      have HCW := Lib.hid (HC.out.below b2)
      obtain ⟨hlb, ha0, ha1, ha2, ha3⟩ := HCW.out
      go_wp2_with fail
      refine (HG.out _ hkw).mono ?_
      rintro e w3 ⟨rfl, b3⟩
      have hk3 := Kept.next hkw b3
      have HC3 := Lib.hid (HC.out.below hk3)
      clear hlb ha0 ha1 ha2 ha3
      obtain ⟨hlb, ha0, ha1, ha2, ha3⟩ := HC3.out
      go_wp2_with fail
      go_ret
      exact ⟨by rw [← HV.out]; rfl, HB.out.trans (Below.mono hk3 HB.out.size)⟩
    · have hpos : 0 < n := by omega
      clear hn0
      go_enter Tryd.func16, Tryd.ntmps16
      go_wp2_with fail
      rw [← HW1.out]
      refine HJ.out.mono ?_
      rintro e w2 ⟨rfl, b2⟩
      have hkw : Kept W1 w2 := b2
      have HCW := Lib.hid (HC.out.below b2)
      obtain ⟨hlb, ha0, ha1, ha2, ha3⟩ := HCW.out
      go_wp2_with fail
      refine (HG.out _ hkw).mono ?_
      rintro e w3 ⟨rfl, b3⟩
      have hk3 := Kept.next hkw b3
      have HC3 := Lib.hid (HC.out.below hk3)
      clear hlb ha0 ha1 ha2 ha3
      obtain ⟨hlb, ha0, ha1, ha2, ha3⟩ := HC3.out
      go_wp2_with fail
      go_ret
      exact ⟨by rw [← HV.out]; rfl, HB.out.trans (Below.mono hk3 HB.out.size)⟩

end Go.Proofs.YtmdjdgamojndkaaDoor.Forms
