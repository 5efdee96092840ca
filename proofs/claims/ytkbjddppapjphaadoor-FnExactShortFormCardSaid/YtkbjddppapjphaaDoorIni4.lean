/-
  Contracts of InitialsOf, of the model and of the program.
-/
import Derived.Test.YtkbjddppapjphaaDoorIni3
namespace Go.Proofs.YtkbjddppapjphaaDoor.Ini
open Go.RowKit Pl Strs Help Name Stands SplitPl NmPl Word Part NGood Forms Cut IniPl

theorem okN_three {xs : List ByteArray} {p f s : ByteArray} (h : okN xs p f s = true) : xs.length ≤ 3 := by
  rw [okN_eq] at h
  simp only [Bool.and_eq_true, decide_eq_true_eq] at h
  exact h.1.1.1.2

set_option maxHeartbeats 2000000 in
theorem specInitialsOf (A : Option Addr) (c n : Nat) (xs : List ByteArray) (p f s : ByteArray) (w : World) (h : Rdn w A n xs) (hlim : n + lens xs + p.size + f.size + s.size ≤ 1048576) :
    Calls Tryd.prog 44 #[nmV (.slice A n c) p f s] w fun e w' => e = .returned (txV (iniL xs p f s) (okN xs p f s)) ∧ Below w.heap.size w w' := by
  have HB := Lib.hid ((Below.refl _ w).alloc (Nat.le_refl _) (.cells #[.slice A n c, .string p, .string f, .string s] 34))
  have HR := Lib.hid (h.below HB.out)
  have HC := Lib.hid (C4.new w (.slice A n c) p f s 34)
  have HX : Hid (∀ x ∈ xs, x.size ≤ 1048576) := Lib.hid (fun x hx => by have := mem_lens hx; omega)
  have hle : n ≤ 1048576 := by omega
  clear h
  cases hok : okN xs p f s with
  | false =>
    have HOK := Lib.hid hok
    clear hok
    go_enter Tryd.func44, Tryd.ntmps44
    go_wp2_with fail
    refine (l2Good_b A c n xs p f s false _ HR.out.1 HR.out.2.1 HR.out.2.2 hle HX.out (by omega) (by omega) (by omega) HOK.out).mono ?_
    rintro e w1 ⟨rfl, b1⟩
    go_wp2_with fail
    go_ret2
    exact ⟨rfl, HB.out.trans (b1.mono HB.out.size)⟩
  | true =>
    have HOK := Lib.hid hok
    clear hok
    have HT : Hid (txV (iniL xs p f s) true = .tuple #[.string (ba (iniL xs p f s)), .bool true]) := Lib.hid rfl
    have HIn := Lib.hid (fun w' (hk : Below (w.alloc (.cells #[.slice A n c, .string p, .string f, .string s] 34)).heap.size (w.alloc (.cells #[.slice A n c, .string p, .string f, .string s] 34)) w') => l2Initials A c n xs p f s w' (HR.out.below hk) (okN_caps HOK.out) (by have := okN_three HOK.out; have := HR.out.2.2; omega))
    generalize ba (iniL xs p f s) = t at *
    go_enter Tryd.func44, Tryd.ntmps44
    go_wp2_with fail
    refine (l2Good_b A c n xs p f s true _ HR.out.1 HR.out.2.1 HR.out.2.2 hle HX.out (by omega) (by omega) (by omega) HOK.out).mono ?_
    rintro e w1 ⟨rfl, b1⟩
    have HC1 := Lib.hid (HC.out.below b1)
    obtain ⟨hlb, ha0, ha1, ha2, ha3⟩ := HC1.out
    go_wp2_with fail
    refine (HIn.out _ b1).mono ?_
    rintro e w2 ⟨rfl, b2⟩
    have b12 := b1.trans (b2.mono b1.size)
    go_wp2_with fail
    go_ret2
    exact ⟨by rw [HT.out]; rfl, HB.out.trans (b12.mono HB.out.size)⟩

set_option maxHeartbeats 2000000 in
theorem implInitialsOf (A : Option Addr) (c n : Nat) (xs : List ByteArray) (p f s : ByteArray) (w : World) (h : Rdn w A n xs) (hlim : n + lens xs + p.size + f.size + s.size ≤ 1048576) :
    Calls Tryd.prog 46 #[nmV (.slice A n c) p f s] w fun e w' => e = .returned (txV (iniL xs p f s) (okN xs p f s)) ∧ Below w.heap.size w w' := by
  have HB := Lib.hid ((Below.refl _ w).alloc (Nat.le_refl _) (.cells #[.slice A n c, .string p, .string f, .string s] 34))
  have HR := Lib.hid (h.below HB.out)
  have HC := Lib.hid (C4.new w (.slice A n c) p f s 34)
  have HX : Hid (∀ x ∈ xs, x.size ≤ 1048576) := Lib.hid (fun x hx => by have := mem_lens hx; omega)
  have hle : n ≤ 1048576 := by omega
  clear h
  cases hok : okN xs p f s with
  | false =>
    have HOK := Lib.hid hok
    clear hok
    go_enter Tryd.func46, Tryd.ntmps46
    go_wp2_with fail
    refine (isValid_b A c n xs p f s false _ HR.out.1 HR.out.2.1 HR.out.2.2 hle (by omega) HOK.out).mono ?_
    rintro e w1 ⟨rfl, b1⟩
    go_wp2_with fail
    go_ret2
    exact ⟨rfl, HB.out.trans (b1.mono HB.out.size)⟩
  | true =>
    have HOK := Lib.hid hok
    clear hok
    have HT : Hid (txV (iniL xs p f s) true = .tuple #[.string (ba (iniL xs p f s)), .bool true]) := Lib.hid rfl
    have HIn := Lib.hid (fun w' (hk : Below (w.alloc (.cells #[.slice A n c, .string p, .string f, .string s] 34)).heap.size (w.alloc (.cells #[.slice A n c, .string p, .string f, .string s] 34)) w') => implInitials A c n xs p f s w' (HR.out.below hk) (okN_caps HOK.out) (by have := okN_three HOK.out; have := HR.out.2.2; omega))
    generalize ba (iniL xs p f s) = t at *
    go_enter Tryd.func46, Tryd.ntmps46
    go_wp2_with fail
    refine (isValid_b A c n xs p f s true _ HR.out.1 HR.out.2.1 HR.out.2.2 hle (by omega) HOK.out).mono ?_
    rintro e w1 ⟨rfl, b1⟩
    have HC1 := Lib.hid (HC.out.below b1)
    obtain ⟨hlb, ha0, ha1, ha2, ha3⟩ := HC1.out
    go_wp2_with fail
    refine (HIn.out _ b1).mono ?_
    rintro e w2 ⟨rfl, b2⟩
    have b12 := b1.trans (b2.mono b1.size)
    go_wp2_with fail
    go_ret2
    exact ⟨by rw [HT.out]; rfl, HB.out.trans (b12.mono HB.out.size)⟩

end Go.Proofs.YtkbjddppapjphaaDoor.Ini
