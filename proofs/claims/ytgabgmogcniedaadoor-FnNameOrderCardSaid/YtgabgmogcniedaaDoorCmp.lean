/-
  Contracts of spec.l2Text, cmp.Compare and slices.Compare at strings: -1, 0 or 1.
-/
import Derived.Test.YtgabgmogcniedaaDoorRows
import Derived.Test.YtgabgmogcniedaaDoorStrs
import Derived.Test.YtgabgmogcniedaaDoorPlain
import Derived.WalkKit
import Derived.LoopTactic
import Derived.Lib.Hide
import Derived.Laws.Cover1
namespace Go.Proofs.YtgabgmogcniedaaDoor.Cmp
open Go.RowKit Pl Strs

/-- how two strings compare -/
def cmpS (a b : ByteArray) : Int := if Op.bytesLess a.toList b.toList = true then -1 else if (a.toList == b.toList) = true then 0 else 1

theorem l2Text_any (a b : ByteArray) (w : World) :
    Calls Tryd.prog 30 #[.string a, .string b] w fun e w' => e = .returned (.int .i64 (cmpS a b)) ∧ w = w' := by
  have HE := Lib.hid (show cmpS a b = if Op.bytesLess a.toList b.toList = true then -1 else if (a.toList == b.toList) = true then 0 else 1 from rfl)
  cases h1 : Op.bytesLess a.toList b.toList with
  | true =>
    rw [h1] at HE
    go_enter Tryd.func30, Tryd.ntmps30
    go_wp2
    go_ret
    exact ⟨by rw [HE.out]; rfl, rfl⟩
  | false =>
    rw [h1] at HE
    cases h2 : (a.toList == b.toList) with
    | true =>
      rw [h2] at HE
      go_enter Tryd.func30, Tryd.ntmps30
      go_wp2
      go_ret
      exact ⟨by rw [HE.out]; rfl, rfl⟩
    | false =>
      rw [h2] at HE
      go_enter Tryd.func30, Tryd.ntmps30
      go_wp2
      go_ret
      exact ⟨by rw [HE.out]; rfl, rfl⟩
theorem cmp_any (a b : ByteArray) (w : World) :
    Calls Tryd.prog 23 #[.string a, .string b] w fun e w' => e = .returned (.int .i64 (cmpS a b)) ∧ w = w' := by
  have HE := Lib.hid (show cmpS a b = if Op.bytesLess a.toList b.toList = true then -1 else if (a.toList == b.toList) = true then 0 else 1 from rfl)
  cases h1 : Op.bytesLess a.toList b.toList with
  | true =>
    rw [h1] at HE
    go_enter Tryd.func23, Tryd.ntmps23
    go_wp2
    go_ret
    exact ⟨by rw [HE.out]; rfl, rfl⟩
  | false =>
    rw [h1] at HE
    cases h2 : (a.toList == b.toList) with
    | true =>
      rw [h2] at HE
      go_enter Tryd.func23, Tryd.ntmps23
      go_wp2
      go_ret
      exact ⟨by rw [HE.out]; rfl, rfl⟩
    | false =>
      rw [h2] at HE
      go_enter Tryd.func23, Tryd.ntmps23
      go_wp2
      go_ret
      exact ⟨by rw [HE.out]; rfl, rfl⟩

/-- how two lists of strings of one length compare -/
def cmpL : List ByteArray → List ByteArray → Int
  | a :: x, b :: y => if cmpS a b = 0 then cmpL x y else cmpS a b
  | _, _ => 0
theorem cmpL_drop {xs ys : List ByteArray} {k : Nat} {x y : ByteArray} (hx : xs[k]? = some x) (hy : ys[k]? = some y) : cmpL (xs.drop k) (ys.drop k) = if cmpS x y = 0 then cmpL (xs.drop (k + 1)) (ys.drop (k + 1)) else cmpS x y := by
  obtain ⟨k1, e1⟩ := List.getElem?_eq_some_iff.1 hx
  obtain ⟨k2, e2⟩ := List.getElem?_eq_some_iff.1 hy
  rw [List.drop_eq_getElem_cons k1, List.drop_eq_getElem_cons k2, e1, e2]
  rfl

set_option maxHeartbeats 1000000 in
theorem compareS (A B : Option Addr) (c d n : Nat) (xs ys : List ByteArray) (w : World) (h1 : RdS w A xs) (h2 : RdS w B ys) (hn : xs.length = n) (hm : ys.length = n) (hN : n ≤ 1048576) :
    Calls Tryd.prog 13 #[.slice A n c, .slice B n d] w fun e w' => e = .returned (.int .i64 (cmpL xs ys)) ∧ w = w' := by
  have H1 := Lib.hid h1
  have H2 := Lib.hid h2
  have HN := Lib.hid hn
  have HM := Lib.hid hm
  clear h1 h2 hn hm
  go_enter Tryd.func13, Tryd.ntmps13
  go_wp2_with fail
  go_loop [11] (fun i => ∃ k : Nat, k ≤ n ∧ i = .int .i64 k ∧ Hid (cmpL (xs.drop k) (ys.drop k) = cmpL xs ys)) (fun i => n - (intOf i).toNat)
  case atStart => exact ⟨0, Nat.zero_le _, rfl, Lib.hid rfl⟩
  case round =>
    obtain ⟨k, hk, rfl, HD⟩ := hrel
    by_cases hlt : k < n
    · have hkx : k < xs.length := by rw [HN.out]; exact hlt
      have hky : k < ys.length := by rw [HM.out]; exact hlt
      have hx? := List.getElem?_eq_getElem hkx
      have hy? := List.getElem?_eq_getElem hky
      obtain ⟨g, o, rfl, hc⟩ := H1.out k xs[k] hx?
      obtain ⟨g2, o2, rfl, hd⟩ := H2.out k ys[k] hy?
      have HC := Lib.hid (cmpL_drop hx? hy?)
      clear hx? hy?
      generalize xs[k] = x at *
      generalize ys[k] = y at *
      by_cases h0 : cmpS x y = 0
      · rw [if_pos h0] at HC
        have HK : Hid (Calls Tryd.prog 23 #[.string x, .string y] w fun e w' => e = .returned (.int .i64 0) ∧ w = w') := Lib.hid (by rw [← h0]; exact cmp_any x y w)
        clear h0
        go_wp2_with fail
        refine HK.out.mono ?_
        rintro e w' ⟨rfl, rfl⟩
        go_wp2_with fail
        go_round
        case rel => exact ⟨k + 1, by omega, by go_num, Lib.hid (by rw [← HD.out, HC.out])⟩
        case measure => simp [intOf]; omega
      · rw [if_neg h0] at HC
        have HK := Lib.hid (cmp_any x y w)
        have HE : Hid (cmpL xs ys = cmpS x y) := Lib.hid (by rw [← HD.out, HC.out])
        generalize cmpS x y = r at *
        have hr : (r != 0) = true := by rw [bne_iff_ne]; exact h0
        clear h0
        go_wp2_with fail
        refine HK.out.mono ?_
        rintro e w' ⟨rfl, rfl⟩
        go_wp2_with fail
        go_ret
        exact ⟨by rw [HE.out]; rfl, rfl⟩
    · have HE : Hid (cmpL xs ys = 0) := Lib.hid (by rw [← HD.out, List.drop_eq_nil_of_le (by rw [HN.out]; omega)]; rfl)
      go_wp2_with fail
      go_ret
      exact ⟨by rw [HE.out]; rfl, rfl⟩
end Go.Proofs.YtgabgmogcniedaaDoor.Cmp
