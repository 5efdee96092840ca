/-
  Contracts of FullForm and InverseForm, of the model and of the program.
-/
import Derived.Test.YtmdjdgamojndkaaDoorTx
import Derived.Test.YtmdjdgamojndkaaDoorFormsF
import Derived.Test.YtmdjdgamojndkaaDoorForms2F
import Derived.Test.YtmdjdgamojndkaaDoorForms4i
namespace Go.Proofs.YtmdjdgamojndkaaDoor.Forms
open Go.RowKit Pl Strs Help Name Stands SplitPl NmPl Word Part NGood


set_option maxHeartbeats 2000000 in
theorem implFullForm (A : Option Addr) (c n : Nat) (xs : List ByteArray) (p f s : ByteArray) (w : World) (h : Rdn w A n xs) (hcap : n ≤ c) (hlim : n + lens xs + p.size + f.size + s.size ≤ 1048576) :
    Calls Tryd.prog 12 #[nmV (.slice A n c) p f s] w fun e w' => e = .returned (txV (fullL xs p f s) (okN xs p f s)) ∧ Below w.heap.size w w' := by
  have HB := Lib.hid ((Below.refl _ w).alloc (Nat.le_refl _) (.cells #[.slice A n c, .string p, .string f, .string s] 26))
  have HR := Lib.hid (h.below HB.out)
  have HC := Lib.hid (C4.new w (.slice A n c) p f s 26)
  have HX : Hid (∀ x ∈ xs, x.size ≤ 1048576) := Lib.hid (fun x hx => by have := mem_lens hx; omega)
  have hle : n ≤ 1048576 := by omega
  clear h
  cases hok : okN xs p f s with
  | false =>
    have HOK := Lib.hid hok
    clear hok
    go_enter Tryd.func12, Tryd.ntmps12
    go_wp2_with fail
    refine (isValid_b A c n xs p f s false _ HR.out.1 HR.out.2.1 HR.out.2.2 hle (by omega) HOK.out).mono ?_
    rintro e w1 ⟨rfl, b1⟩
    go_wp2_with fail
    go_ret2
    exact ⟨rfl, HB.out.trans (b1.mono HB.out.size)⟩
  | true =>
    have HOK := Lib.hid hok
    have HNe := Lib.hid (okN_nes hok)
    clear hok
    have HT : Hid (txV (fullL xs p f s) true = .tuple #[.string (ba (fullL xs p f s)), .bool true]) := Lib.hid rfl
    have HIn := Lib.hid (fun w' (hk : Below (w.alloc (.cells #[.slice A n c, .string p, .string f, .string s] 26)).heap.size (w.alloc (.cells #[.slice A n c, .string p, .string f, .string s] 26)) w') => implFull A c n xs p f s w' (HR.out.below hk) hcap HNe.out (by omega))
    generalize ba (fullL xs p f s) = t at *
    go_enter Tryd.func12, Tryd.ntmps12
    go_wp2_with fail
    refine (isValid_b A c n xs p f s true _ HR.out.1 HR.out.2.1 HR.out.2.2 hle (by omega) HOK.out).mono ?_
    rintro e w1 ⟨rfl, b1⟩
    have HC1 := Lib.hid (HC.out.below b1)
    obtain ⟨hlb, ha0, ha1, ha2, ha3⟩ := HC1.out
    go_wp2_with fail
    refine (HIn.out _ b1).mono ?_
    rintro e w2 ⟨rfl, b2⟩
    have b12 := b1.trans (b2.mono b1.size)
    go_wp2_with fail
    go_ret2
    exact ⟨by rw [HT.out]; rfl, HB.out.trans (b12.mono HB.out.size)⟩

end Go.Proofs.YtmdjdgamojndkaaDoor.Forms
