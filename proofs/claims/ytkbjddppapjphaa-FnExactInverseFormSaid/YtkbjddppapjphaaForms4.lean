/-
  Contracts of FullForm and InverseForm, of the model and of the program.
-/
import Derived.Test.YtkbjddppapjphaaForms3
namespace Go.Proofs.Ytkbjddppapjphaa.Forms
open Go.RowKit Pl Strs Help Name Stands SplitPl NmPl Word Part NGood

/-- a text and true, or nothing and false -/
def txV (l : List UInt8) : Bool → Value
  | true => .tuple #[.string (ba l), .bool true]
  | false => .tuple #[.string ⟨#[]⟩, .bool false]
theorem txV_form (l : List UInt8) (r : Bool) : ∃ t r', txV l r = .tuple #[.string t, .bool r'] := by cases r <;> exact ⟨_, _, rfl⟩
theorem okN_caps {xs : List ByteArray} {p f s : ByteArray} (h : okN xs p f s = true) : ∀ x ∈ ls xs, capB x = true := by
  rw [okN_eq] at h
  simp only [Bool.and_eq_true] at h
  exact fun x hx => List.all_eq_true.1 h.1.1.1.1 x hx
theorem okN_nes {xs : List ByteArray} {p f s : ByteArray} (h : okN xs p f s = true) : Nes xs := fun x hx => cap_ne (okN_caps h x hx)

set_option maxHeartbeats 2000000 in
theorem specFullForm (A : Option Addr) (c n : Nat) (xs : List ByteArray) (p f s : ByteArray) (w : World) (h : Rdn w A n xs) (hlim : n + lens xs + p.size + f.size + s.size ≤ 1048576) :
    Calls Try.prog 13 #[nmV (.slice A n c) p f s] w fun e w' => e = .returned (txV (fullL xs p f s) (okN xs p f s)) ∧ Below w.heap.size w w' := by
  have HB := Lib.hid ((Below.refl _ w).alloc (Nat.le_refl _) (.cells #[.slice A n c, .string p, .string f, .string s] 27))
  have HR := Lib.hid (h.below HB.out)
  have HC := Lib.hid (C4.new w (.slice A n c) p f s 27)
  have HX : Hid (∀ x ∈ xs, x.size ≤ 1048576) := Lib.hid (fun x hx => by have := mem_lens hx; omega)
  have hle : n ≤ 1048576 := by omega
  clear h
  cases hok : okN xs p f s with
  | false =>
    have HOK := Lib.hid hok
    clear hok
    go_enter Try.func13, Try.ntmps13
    go_wp2_with fail
    refine (l2Good_b A c n xs p f s false _ HR.out.1 HR.out.2.1 HR.out.2.2 hle HX.out (by omega) (by omega) (by omega) HOK.out).mono ?_
    rintro e w1 ⟨rfl, b1⟩
    go_wp2_with fail
    go_ret2
    exact ⟨rfl, HB.out.trans (b1.mono HB.out.size)⟩
  | true =>
    have HOK := Lib.hid hok
    have HNe := Lib.hid (okN_nes hok)
    clear hok
    have HT : Hid (txV (fullL xs p f s) true = .tuple #[.string (ba (fullL xs p f s)), .bool true]) := Lib.hid rfl
    have HIn := Lib.hid (fun w' (hk : Below (w.alloc (.cells #[.slice A n c, .string p, .string f, .string s] 27)).heap.size (w.alloc (.cells #[.slice A n c, .string p, .string f, .string s] 27)) w') => l2Full A c n xs p f s w' (HR.out.below hk) (by omega))
    generalize ba (fullL xs p f s) = t at *
    go_enter Try.func13, Try.ntmps13
    go_wp2_with fail
    refine (l2Good_b A c n xs p f s true _ HR.out.1 HR.out.2.1 HR.out.2.2 hle HX.out (by omega) (by omega) (by omega) HOK.out).mono ?_
    rintro e w1 ⟨rfl, b1⟩
    have HC1 := Lib.hid (HC.out.below b1)
    obtain ⟨hlb, ha0, ha1, ha2, ha3⟩ := HC1.out
    go_wp2_with fail
    refine (HIn.out _ b1).mono ?_
    rintro e w2 ⟨rfl, b2⟩
    have b12 := b1.trans (b2.mono b1.size)
    go_wp2_with fail
    go_ret2
    exact ⟨by rw [HT.out]; rfl, HB.out.trans (b12.mono HB.out.size)⟩

set_option maxHeartbeats 2000000 in
theorem implFullForm (A : Option Addr) (c n : Nat) (xs : List ByteArray) (p f s : ByteArray) (w : World) (h : Rdn w A n xs) (hcap : n ≤ c) (hlim : n + lens xs + p.size + f.size + s.size ≤ 1048576) :
    Calls Try.prog 14 #[nmV (.slice A n c) p f s] w fun e w' => e = .returned (txV (fullL xs p f s) (okN xs p f s)) ∧ Below w.heap.size w w' := by
  have HB := Lib.hid ((Below.refl _ w).alloc (Nat.le_refl _) (.cells #[.slice A n c, .string p, .string f, .string s] 27))
  have HR := Lib.hid (h.below HB.out)
  have HC := Lib.hid (C4.new w (.slice A n c) p f s 27)
  have HX : Hid (∀ x ∈ xs, x.size ≤ 1048576) := Lib.hid (fun x hx => by have := mem_lens hx; omega)
  have hle : n ≤ 1048576 := by omega
  clear h
  cases hok : okN xs p f s with
  | false =>
    have HOK := Lib.hid hok
    clear hok
    go_enter Try.func14, Try.ntmps14
    go_wp2_with fail
    refine (isValid_b A c n xs p f s false _ HR.out.1 HR.out.2.1 HR.out.2.2 hle (by omega) HOK.out).mono ?_
    rintro e w1 ⟨rfl, b1⟩
    go_wp2_with fail
    go_ret2
    exact ⟨rfl, HB.out.trans (b1.mono HB.out.size)⟩
  | true =>
    have HOK := Lib.hid hok
    have HNe := Lib.hid (okN_nes hok)
    clear hok
    have HT : Hid (txV (fullL xs p f s) true = .tuple #[.string (ba (fullL xs p f s)), .bool true]) := Lib.hid rfl
    have HIn := Lib.hid (fun w' (hk : Below (w.alloc (.cells #[.slice A n c, .string p, .string f, .string s] 27)).heap.size (w.alloc (.cells #[.slice A n c, .string p, .string f, .string s] 27)) w') => implFull A c n xs p f s w' (HR.out.below hk) hcap HNe.out (by omega))
    generalize ba (fullL xs p f s) = t at *
    go_enter Try.func14, Try.ntmps14
    go_wp2_with fail
    refine (isValid_b A c n xs p f s true _ HR.out.1 HR.out.2.1 HR.out.2.2 hle (by omega) HOK.out).mono ?_
    rintro e w1 ⟨rfl, b1⟩
    have HC1 := Lib.hid (HC.out.below b1)
    obtain ⟨hlb, ha0, ha1, ha2, ha3⟩ := HC1.out
    go_wp2_with fail
    refine (HIn.out _ b1).mono ?_
    rintro e w2 ⟨rfl, b2⟩
    have b12 := b1.trans (b2.mono b1.size)
    go_wp2_with fail
    go_ret2
    exact ⟨by rw [HT.out]; rfl, HB.out.trans (b12.mono HB.out.size)⟩

set_option maxHeartbeats 2000000 in
theorem specInverseForm (A : Option Addr) (c n : Nat) (xs : List ByteArray) (p f s : ByteArray) (w : World) (h : Rdn w A n xs) (hlim : n + lens xs + p.size + f.size + s.size ≤ 1048576) :
    Calls Try.prog 15 #[nmV (.slice A n c) p f s] w fun e w' => e = .returned (txV (invL xs p f s) (okN xs p f s)) ∧ Below w.heap.size w w' := by
  have HB := Lib.hid ((Below.refl _ w).alloc (Nat.le_refl _) (.cells #[.slice A n c, .string p, .string f, .string s] 27))
  have HR := Lib.hid (h.below HB.out)
  have HC := Lib.hid (C4.new w (.slice A n c) p f s 27)
  have HX : Hid (∀ x ∈ xs, x.size ≤ 1048576) := Lib.hid (fun x hx => by have := mem_lens hx; omega)
  have hle : n ≤ 1048576 := by omega
  clear h
  cases hok : okN xs p f s with
  | false =>
    have HOK := Lib.hid hok
    clear hok
    go_enter Try.func15, Try.ntmps15
    go_wp2_with fail
    refine (l2Good_b A c n xs p f s false _ HR.out.1 HR.out.2.1 HR.out.2.2 hle HX.out (by omega) (by omega) (by omega) HOK.out).mono ?_
    rintro e w1 ⟨rfl, b1⟩
    go_wp2_with fail
    go_ret2
    exact ⟨rfl, HB.out.trans (b1.mono HB.out.size)⟩
  | true =>
    have HOK := Lib.hid hok
    have HNe := Lib.hid (okN_nes hok)
    clear hok
    have HT : Hid (txV (invL xs p f s) true = .tuple #[.string (ba (invL xs p f s)), .bool true]) := Lib.hid rfl
    have HIn := Lib.hid (fun w' (hk : Below (w.alloc (.cells #[.slice A n c, .string p, .string f, .string s] 27)).heap.size (w.alloc (.cells #[.slice A n c, .string p, .string f, .string s] 27)) w') => l2Inverse A c n xs p f s w' (HR.out.below hk) (by omega))
    generalize ba (invL xs p f s) = t at *
    go_enter Try.func15, Try.ntmps15
    go_wp2_with fail
    refine (l2Good_b A c n xs p f s true _ HR.out.1 HR.out.2.1 HR.out.2.2 hle HX.out (by omega) (by omega) (by omega) HOK.out).mono ?_
    rintro e w1 ⟨rfl, b1⟩
    have HC1 := Lib.hid (HC.out.below b1)
    obtain ⟨hlb, ha0, ha1, ha2, ha3⟩ := HC1.out
    go_wp2_with fail
    refine (HIn.out _ b1).mono ?_
    rintro e w2 ⟨rfl, b2⟩
    have b12 := b1.trans (b2.mono b1.size)
    go_wp2_with fail
    go_ret2
    exact ⟨by rw [HT.out]; rfl, HB.out.trans (b12.mono HB.out.size)⟩

set_option maxHeartbeats 2000000 in
theorem implInverseForm (A : Option Addr) (c n : Nat) (xs : List ByteArray) (p f s : ByteArray) (w : World) (h : Rdn w A n xs) (hcap : n ≤ c) (hlim : n + lens xs + p.size + f.size + s.size ≤ 1048576) :
    Calls Try.prog 16 #[nmV (.slice A n c) p f s] w fun e w' => e = .returned (txV (invL xs p f s) (okN xs p f s)) ∧ Below w.heap.size w w' := by
  have HB := Lib.hid ((Below.refl _ w).alloc (Nat.le_refl _) (.cells #[.slice A n c, .string p, .string f, .string s] 27))
  have HR := Lib.hid (h.below HB.out)
  have HC := Lib.hid (C4.new w (.slice A n c) p f s 27)
  have HX : Hid (∀ x ∈ xs, x.size ≤ 1048576) := Lib.hid (fun x hx => by have := mem_lens hx; omega)
  have hle : n ≤ 1048576 := by omega
  clear h
  cases hok : okN xs p f s with
  | false =>
    have HOK := Lib.hid hok
    clear hok
    go_enter Try.func16, Try.ntmps16
    go_wp2_with fail
    refine (isValid_b A c n xs p f s false _ HR.out.1 HR.out.2.1 HR.out.2.2 hle (by omega) HOK.out).mono ?_
    rintro e w1 ⟨rfl, b1⟩
    go_wp2_with fail
    go_ret2
    exact ⟨rfl, HB.out.trans (b1.mono HB.out.size)⟩
  | true =>
    have HOK := Lib.hid hok
    have HNe := Lib.hid (okN_nes hok)
    clear hok
    have HT : Hid (txV (invL xs p f s) true = .tuple #[.string (ba (invL xs p f s)), .bool true]) := Lib.hid rfl
    have HIn := Lib.hid (fun w' (hk : Below (w.alloc (.cells #[.slice A n c, .string p, .string f, .string s] 27)).heap.size (w.alloc (.cells #[.slice A n c, .string p, .string f, .string s] 27)) w') => implInverse A c n xs p f s w' (HR.out.below hk) hcap HNe.out (by omega))
    generalize ba (invL xs p f s) = t at *
    go_enter Try.func16, Try.ntmps16
    go_wp2_with fail
    refine (isValid_b A c n xs p f s true _ HR.out.1 HR.out.2.1 HR.out.2.2 hle (by omega) HOK.out).mono ?_
    rintro e w1 ⟨rfl, b1⟩
    have HC1 := Lib.hid (HC.out.below b1)
    obtain ⟨hlb, ha0, ha1, ha2, ha3⟩ := HC1.out
    go_wp2_with fail
    refine (HIn.out _ b1).mono ?_
    rintro e w2 ⟨rfl, b2⟩
    have b12 := b1.trans (b2.mono b1.size)
    go_wp2_with fail
    go_ret2
    exact ⟨by rw [HT.out]; rfl, HB.out.trans (b12.mono HB.out.size)⟩

end Go.Proofs.Ytkbjddppapjphaa.Forms
