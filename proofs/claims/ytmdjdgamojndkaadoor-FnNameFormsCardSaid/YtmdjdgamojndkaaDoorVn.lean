/-
  Contracts of the laws' helpers vTexts and vName.
-/
import Derived.Test.YtmdjdgamojndkaaDoorName
import Derived.Deep.QuietTactic
import Derived.BigQuiet
namespace Go.Proofs.YtmdjdgamojndkaaDoor.Vn
open Go.RowKit Pl Strs Help Name
set_option linter.unusedVariables false
set_option linter.unusedSimpArgs false

theorem eqb (a b : ByteArray) : (a.toList == b.toList) = decide (a = b) := by
  rw [Bool.eq_iff_iff, beq_iff_eq, decide_eq_true_eq, Lib.toList_data, Lib.toList_data]
  exact ⟨fun e => ByteArray.ext (Array.toList_inj.1 e), fun e => by rw [e]⟩
theorem drew_more {w wr : World} (h : ∃ q, wr = w.drewN q) (n : Nat) : ∃ q, wr.drewN n = w.drewN q := by
  obtain ⟨q, rfl⟩ := h
  exact ⟨_, World.drewN_drewN ..⟩
theorem take_eq {xs ys : List ByteArray} {k : Nat} {x y : ByteArray} (hx : xs[k]? = some x) (hy : ys[k]? = some y) (h : xs.take k = ys.take k) : (xs.take (k + 1) = ys.take (k + 1)) ↔ x = y := by
  rw [List.take_add_one, List.take_add_one, hx, hy, h]
  simp
set_option maxHeartbeats 1000000 in
theorem vTexts_any (A B : Option Addr) (c d n m : Nat) (xs ys : List ByteArray) (w : World) (h1 : RdS w A xs) (h2 : RdS w B ys) (hn : xs.length = n) (hm : ys.length = m) (n1 : n ≤ 1048576) (n2 : m ≤ 1048576) (hc : n ≤ c) (hd : m ≤ d) :
    Calls Tryd.prog 24 #[.slice A n c, .slice B m d] w fun e w' => e = .returned (.bool (decide (xs = ys))) ∧ ∃ q, w' = w.drewN q := by
  have H1 := Lib.hid h1
  have H2 := Lib.hid h2
  have HN := Lib.hid hn
  have HM := Lib.hid hm
  clear h1 h2 hn hm
  by_cases hnm : n = m
  · subst hnm
    have hne : ((n : Int) != (n : Int)) = false := by simp
    go_enter Tryd.func24, Tryd.ntmps24
    go_wp2_with fail
    go_loopw [5] (fun i wr => ∃ k : Nat, k ≤ n ∧ i = .int .i64 k ∧ Hid (xs.take k = ys.take k) ∧ Hid (∃ q, wr = w.drewN q)) (fun i _ => n - (intOf i).toNat)
    case atStart => exact ⟨0, Nat.zero_le _, rfl, Lib.hid rfl, Lib.hid ⟨0, rfl⟩⟩
    case round =>
      obtain ⟨k, hk, rfl, HT, HQ⟩ := hrel
      by_cases hlt : k < n
      · obtain ⟨x, hx⟩ : ∃ x, xs[k]? = some x := ⟨_, List.getElem?_eq_getElem (by rw [HN.out]; exact hlt)⟩
        obtain ⟨y, hy⟩ : ∃ y, ys[k]? = some y := ⟨_, List.getElem?_eq_getElem (by rw [HM.out]; exact hlt)⟩
        obtain ⟨g, o, rfl, hc0⟩ := H1.out k x hx
        obtain ⟨g2, o2, rfl, hd0⟩ := H2.out k y hy
        have hc1 : wr.cell? ⟨g, o + k, none⟩ = some (.string x) := by obtain ⟨q, e⟩ := HQ.out; rw [e]; exact hc0
        have hd1 : wr.cell? ⟨g2, o2 + k, none⟩ = some (.string y) := by obtain ⟨q, e⟩ := HQ.out; rw [e]; exact hd0
        have HTk := Lib.hid (take_eq hx hy HT.out)
        have hkc : k < c := by omega
        have hkd : k < d := by omega
        have he := eqb x y
        clear hc0 hd0 hx hy
        by_cases hxy : x = y
        · have HT' := Lib.hid (HTk.out.2 hxy)
          rw [decide_eq_true hxy] at he
          have he2 : (x.toList != y.toList) = false := by rw [bne, he]; rfl
          clear hxy HTk
          go_wp2_with fail
          go_quiet (fail)
          go_wp2_with fail
          go_roundw
          case rel => exact ⟨k + 1, by omega, by go_num, HT', Lib.hid (drew_more HQ.out _)⟩
          case measure => simp [intOf]; omega
        · have HF : Hid (decide (xs = ys) = false) := Lib.hid (decide_eq_false (fun e => hxy (HTk.out.1 (by rw [e]))))
          rw [decide_eq_false hxy] at he
          have he2 : (x.toList != y.toList) = true := by rw [bne, he]; rfl
          clear hxy HTk
          go_wp2_with fail
          go_quiet (fail)
          go_wp2_with fail
          go_ret
          exact ⟨by rw [HF.out]; rfl, drew_more HQ.out _⟩
      · have HF : Hid (decide (xs = ys) = true) := Lib.hid (decide_eq_true (by
          have := HT.out
          rw [List.take_of_length_le (by rw [HN.out]; omega), List.take_of_length_le (by rw [HM.out]; omega)] at this
          exact this))
        go_wp2_with fail
        go_ret
        exact ⟨by rw [HF.out]; rfl, HQ.out⟩
  · have hne : ((n : Int) != (m : Int)) = true := by rw [bne_iff_ne]; omega
    have HF : Hid (decide (xs = ys) = false) := Lib.hid (decide_eq_false (fun e => hnm (by rw [← HN.out, ← HM.out, e])))
    go_enter Tryd.func24, Tryd.ntmps24
    go_wp2_with fail
    go_ret
    exact ⟨by rw [HF.out]; rfl, 0, rfl⟩
set_option maxHeartbeats 2000000 in
theorem vName_any (A B : Option Addr) (c d n m : Nat) (xs ys : List ByteArray) (p f s p2 f2 s2 : ByteArray) (w : World) (h1 : Rdn w A n xs) (h2 : Rdn w B m ys) (n1 : n ≤ 1048576) (n2 : m ≤ 1048576) (hc : n ≤ c) (hd : m ≤ d) :
    Calls Tryd.prog 10 #[nmV (.slice A n c) p f s, nmV (.slice B m d) p2 f2 s2] w fun e w' => e = .returned (.bool (decide (xs = ys) && decide (p = p2) && decide (f = f2) && decide (s = s2))) ∧ Below w.heap.size w w' := by
  obtain ⟨W0, hW0⟩ : ∃ W0, W0 = (w.alloc (.cells #[.slice A n c, .string p, .string f, .string s] 26)).alloc (.cells #[.slice B m d, .string p2, .string f2, .string s2] 26) := ⟨_, rfl⟩
  have HB : Hid (Below w.heap.size w W0) := Lib.hid (by rw [hW0]; exact ((Below.refl _ w).alloc (Nat.le_refl _) _).alloc (by simp) _)
  have R1 := Lib.hid (h1.below HB.out)
  have R2 := Lib.hid (h2.below HB.out)
  have HCa : Hid (C4 W0 w.heap.size (.slice A n c) p f s) := Lib.hid (by rw [hW0]; exact (C4.new w (.slice A n c) p f s 26).below ((Below.refl _ _).alloc (Nat.le_refl _) _))
  have HCb : Hid (C4 W0 (w.heap.size + 1) (.slice B m d) p2 f2 s2) := Lib.hid (by
    rw [hW0]
    have := C4.new (w.alloc (.cells #[.slice A n c, .string p, .string f, .string s] 26)) (.slice B m d) p2 f2 s2 26
    simpa using this)
  have HV := Lib.hid (vTexts_any A B c d n m xs ys W0 R1.out.1 R2.out.1 R1.out.2.2 R2.out.2.2 n1 n2 hc hd)
  have HW0 := Lib.hid hW0
  have hp := eqb p p2
  have hf := eqb f f2
  have hs := eqb s s2
  clear h1 h2 hW0
  generalize decide (xs = ys) = b0 at *
  generalize decide (p = p2) = b1 at *
  generalize decide (f = f2) = b2 at *
  generalize decide (s = s2) = b3 at *
  obtain ⟨la, a0, a1, a2, a3⟩ := HCa.out
  obtain ⟨lb, q0, q1, q2, q3⟩ := HCb.out
  cases b0 <;> cases b1 <;> cases b2
  all_goals
    go_enter Tryd.func10, Tryd.ntmps10
    go_wp2_with fail
    rw [← HW0.out]
    refine HV.out.mono ?_
    rintro e w1 ⟨rfl, q, rfl⟩
    have e0 : (W0.drewN q).cell? ⟨w.heap.size, 1, none⟩ = some (.string p) := a1
    have e1 : (W0.drewN q).cell? ⟨w.heap.size, 2, none⟩ = some (.string f) := a2
    have e2 : (W0.drewN q).cell? ⟨w.heap.size, 3, none⟩ = some (.string s) := a3
    have e3 : (W0.drewN q).cell? ⟨w.heap.size + 1, 1, none⟩ = some (.string p2) := q1
    have e4 : (W0.drewN q).cell? ⟨w.heap.size + 1, 2, none⟩ = some (.string f2) := q2
    have e5 : (W0.drewN q).cell? ⟨w.heap.size + 1, 3, none⟩ = some (.string s2) := q3
    have hb : Below w.heap.size w (W0.drewN q) := HB.out.trans ⟨rfl, rfl, rfl, Nat.le_refl _, fun _ _ => rfl⟩
    go_wp2_with fail
    go_ret
    refine ⟨?_, hb⟩
    first
      | rfl
      | (rw [← hs]; rfl)
end Go.Proofs.YtmdjdgamojndkaaDoor.Vn
