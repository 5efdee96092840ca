/-
  Contracts of the laws' helpers over nodes and styles that count: szNode, szNodeS, szStyle.
-/
import Derived.Test.YtbibjcmfgpmddaaDoorNdPl
import Derived.LoopTactic
import Derived.ProofKit
namespace Go.Proofs.YtbibjcmfgpmddaaDoor.Nd
open Go.RowKit NdPl
set_option linter.unusedSimpArgs false
set_option linter.unusedVariables false

theorem box_below (w : World) (o : Obj) : Below w.heap.size w (w.alloc o) := (Below.refl _ w).alloc (Nat.le_refl _) o
/-- what szNode answers of a node whose parts are d deep -/
def SzT (d : Nat) : Prop := ∀ (x : Tr) (B : Option Addr) (c left : Nat) (w : World), RdL d w B x.ps → LimL d x.ps → x.wd.size ≤ maxLen → x.tx.size ≤ maxLen → x.af.size ≤ maxLen → left ≤ 1048576 →
  Calls Tryd.prog 13 #[ndV x.op x.wd x.tx x.af B x.ps.length c, .int .i64 left] w fun e w' => e = .returned (.int .i64 (szR left (szT x))) ∧ Below w.heap.size w w'
def SzL (d : Nat) : Prop := ∀ (L : List Tr) (A : Option Addr) (c N left : Nat) (w : World), RdL d w A L → LimL d L → L.length = N → left ≤ 1048576 →
  Calls Tryd.prog 24 #[.slice A N c, .int .i64 left] w fun e w' => e = .returned (.int .i64 (szR left (N + szS L))) ∧ Below w.heap.size w w'

set_option maxHeartbeats 1000000 in
theorem szT_step (d : Nat) (hL : SzL d) : SzT d := by
  intro x B c left w hr hm h1 h2 h3 hl
  have HE := Lib.hid (szT_eq x)
  generalize szT x = S at *
  obtain ⟨op, wd, tx, af, ps⟩ := x
  simp only [Tr.op, Tr.wd, Tr.tx, Tr.af, Tr.ps] at *
  unfold maxLen at h1 h2 h3
  have HR := Lib.hid hr
  have HM := Lib.hid hm
  clear hr hm
  by_cases b1 : wd.size ≤ left
  · obtain ⟨l1, hl1⟩ : ∃ l1 : Nat, l1 + wd.size = left := ⟨left - wd.size, by omega⟩
    have e1 : (left : Int) - wd.size = (l1 : Int) := by omega
    have g1 : (0 : Int) ≤ l1 := by omega
    by_cases b2 : tx.size ≤ l1
    · obtain ⟨l2, hl2⟩ : ∃ l2 : Nat, l2 + tx.size = l1 := ⟨l1 - tx.size, by omega⟩
      have e2 : (l1 : Int) - tx.size = (l2 : Int) := by omega
      by_cases b3 : af.size ≤ l2
      · obtain ⟨l3, hl3⟩ : ∃ l3 : Nat, l3 + af.size = l2 := ⟨l2 - af.size, by omega⟩
        have e3 : (l2 : Int) - af.size = (l3 : Int) := by omega
        have HC := Lib.hid (fun w1 hb => hL ps B c ps.length l3 w1 (HR.out.below hb) HM.out rfl (by omega))
        by_cases b4 : ps.length + szS ps ≤ l3
        · rw [szR_ok b4] at HC
          have HF : Hid (szR left S = ((l3 - (ps.length + szS ps) : Nat) : Int)) := Lib.hid (by rw [HE.out, szR_ok (by omega)]; omega)
          generalize l3 - (ps.length + szS ps) = t at *
          clear HE b4
          have q0 := Lib.hid hl
          go_enter Tryd.func13, Tryd.ntmps13
          go_wp2_with fail
          refine (HC.out _ (box_below _ _)).mono ?_
          rintro e w1 ⟨rfl, k1⟩
          go_wp2_with fail
          go_ret
          exact ⟨by rw [HF.out]; rfl, (box_below _ _).trans (k1.mono (by simp))⟩
        · rw [szR_no b4] at HC
          have HF : Hid (szR left S = -1) := Lib.hid (by rw [HE.out, szR_no (by omega)])
          clear HE b4
          go_enter Tryd.func13, Tryd.ntmps13
          go_wp2_with fail
          refine (HC.out _ (box_below _ _)).mono ?_
          rintro e w1 ⟨rfl, k1⟩
          go_wp2_with fail
          go_ret
          exact ⟨by rw [HF.out]; rfl, (box_below _ _).trans (k1.mono (by simp))⟩
      · have HF : Hid (szR left S = -1) := Lib.hid (by rw [HE.out, szR_no (by omega)])
        clear HE
        go_enter Tryd.func13, Tryd.ntmps13
        go_wp2_with fail
        go_ret
        exact ⟨by rw [HF.out]; rfl, box_below _ _⟩
    · have HF : Hid (szR left S = -1) := Lib.hid (by rw [HE.out, szR_no (by omega)])
      clear HE
      go_enter Tryd.func13, Tryd.ntmps13
      go_wp2_with fail
      go_ret
      exact ⟨by rw [HF.out]; rfl, box_below _ _⟩
  · have HF : Hid (szR left S = -1) := Lib.hid (by rw [HE.out, szR_no (by omega)])
    clear HE
    go_enter Tryd.func13, Tryd.ntmps13
    go_wp2_with fail
    go_ret
    exact ⟨by rw [HF.out]; rfl, box_below _ _⟩

set_option maxHeartbeats 1000000 in
theorem szL_step (d : Nat) (hT : ∀ d', d = d' + 1 → SzT d') : SzL d := by
  intro L A c N left w h hm hn hl
  have hNm := hm.len
  rw [hn] at hNm
  have H := Lib.hid h
  have HM := Lib.hid hm
  have HN := Lib.hid hn
  unfold maxLen at hNm
  clear h hm hn
  by_cases h0 : N ≤ left
  · go_enter Tryd.func24, Tryd.ntmps24
    go_wp2_with fail
    go_loopw [1, 5] (fun l i wr => ∃ k : Nat, k ≤ N ∧ i = .int .i64 k ∧ (∃ t : Nat, t + N + szS (L.take k) = left ∧ l = .int .i64 t) ∧ Below w.heap.size w wr) (fun _ i _ => N - (intOf i).toNat)
    case atStart => exact ⟨0, Nat.zero_le _, rfl, ⟨left - N, by simp [szS]; omega, by congr 1; omega⟩, Below.refl _ _⟩
    case round =>
      obtain ⟨k, hk, rfl, ⟨t, ht, rfl⟩, hb⟩ := hrel
      by_cases hlt : k < N
      · have hkx : k < L.length := by rw [HN.out]; exact hlt
        have hx? := List.getElem?_eq_getElem hkx
        obtain ⟨d', g, o, B, cc, hd, rfl, hg, c0, c1, c2, c3, c4, hr⟩ := (H.out.below hb).get hx?
        subst hd
        have l1 := HM.out.2 _ (List.getElem_mem hkx)
        have HT := Lib.hid (szS_take hx?)
        have HLe := Lib.hid (szS_le L (k + 1))
        clear hx?
        generalize L[k] = x at *
        have HS := Lib.hid (hT d' rfl x B cc t wr hr l1.2.2.2 l1.1 l1.2.1 l1.2.2.1 (by omega))
        clear l1 hr
        by_cases h1 : szT x ≤ t
        · rw [szR_ok h1] at HS
          obtain ⟨t', ht'⟩ : ∃ t' : Nat, t' + szT x = t := ⟨t - szT x, by omega⟩
          have e2 : t - szT x = t' := by omega
          rw [e2] at HS
          clear e2 h1
          have HT' := Lib.hid ht'
          have htl : t' ≤ 1048576 := by omega
          clear ht'
          have HTt := Lib.hid ht
          clear ht
          go_wp2_with fail
          refine HS.out.mono ?_
          rintro e w1 ⟨rfl, b1⟩
          have hb1 := hb.trans (b1.mono hb.size)
          clear b1
          go_wp2_with fail
          go_roundw
          case rel =>
            have := HT.out
            have := HTt.out
            have := HT'.out
            exact ⟨k + 1, by omega, by go_num, ⟨t', by omega, rfl⟩, hb1⟩
          case measure => simp [intOf]; omega
        · rw [szR_no h1] at HS
          have HF : Hid (szR left (N + szS L) = -1) := Lib.hid (by rw [szR_no]; have := HT.out; have := HLe.out; omega)
          clear h1 ht
          go_wp2_with fail
          refine HS.out.mono ?_
          rintro e w1 ⟨rfl, b1⟩
          have hb1 := hb.trans (b1.mono hb.size)
          clear b1
          go_wp2_with fail
          go_ret
          exact ⟨by rw [HF.out]; rfl, hb1⟩
      · have hkN : k = N := by omega
        have HF : Hid (szR left (N + szS L) = (t : Int)) := Lib.hid (by
          have e : L.take k = L := List.take_of_length_le (by rw [HN.out]; omega)
          rw [e] at ht
          rw [szR_ok (by omega)]
          omega)
        clear ht
        go_wp2_with fail
        go_ret
        exact ⟨by rw [HF.out]; rfl, hb⟩
  · have HF : Hid (szR left (N + szS L) = -1) := Lib.hid (by rw [szR_no (by omega)])
    go_enter Tryd.func24, Tryd.ntmps24
    go_wp2_with fail
    go_ret
    exact ⟨by rw [HF.out]; rfl, Below.refl _ _⟩

theorem szL_all (d : Nat) : SzL d := by
  induction d with
  | zero => exact szL_step 0 (fun d' h => by omega)
  | succ d ih => exact szL_step (d + 1) (fun d' h => by have e : d' = d := (by omega); subst e; exact szT_step _ ih)
theorem szT_all (d : Nat) : SzT d := szT_step d (szL_all d)

set_option maxHeartbeats 1000000 in
theorem szStyle (d : Nat) (nm : Int) (x : Tr) (B : Option Addr) (c : Nat) (w : World) (hr : RdL d w B x.ps) (hm : LimL d x.ps) (h1 : x.wd.size ≤ maxLen) (h2 : x.tx.size ≤ maxLen) (h3 : x.af.size ≤ maxLen) :
    Calls Tryd.prog 4 #[stV nm x.op x.wd x.tx x.af B x.ps.length c, .int .i64 1048576] w fun e w' => e = .returned (.int .i64 (szR 1048576 (szT x))) ∧ Below w.heap.size w w' := by
  have HC := Lib.hid (fun w1 hb => szT_all d x B c 1048576 w1 (hr.below hb) hm h1 h2 h3 (Nat.le_refl _))
  have e0 : ((1048576 : Nat) : Int) = 1048576 := rfl
  rw [e0] at HC
  clear hr hm h1 h2 h3 e0
  by_cases h : szT x ≤ 1048576
  · rw [szR_ok h] at HC ⊢
    generalize 1048576 - szT x = t at *
    clear h
    go_enter Tryd.func4, Tryd.ntmps4
    go_wp2_with fail
    refine (HC.out _ (box_below _ _)).mono ?_
    rintro e w1 ⟨rfl, k1⟩
    go_wp2_with fail
    go_ret
    exact ⟨rfl, (box_below _ _).trans (k1.mono (by simp))⟩
  · rw [szR_no h] at HC ⊢
    clear h
    go_enter Tryd.func4, Tryd.ntmps4
    go_wp2_with fail
    refine (HC.out _ (box_below _ _)).mono ?_
    rintro e w1 ⟨rfl, k1⟩
    go_wp2_with fail
    go_ret
    exact ⟨rfl, (box_below _ _).trans (k1.mono (by simp))⟩
end Go.Proofs.YtbibjcmfgpmddaaDoor.Nd
