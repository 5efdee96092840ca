/-
  SplitSpans, of the program and of the model.
-/
import Derived.Test.YtglgkgkcilkinaaSpCs
import Derived.Test.YtglgkgkcilkinaaSpT
import Derived.OwnWalk
namespace Go.Proofs.Ytglgkgkcilkinaa.SpC
open Go.RowKit SpPl Sp SpA SpB SpG SpNs SpNi SpN SpCi SpCs SpT
open Dt (l1In_any)
set_option linter.unusedSimpArgs false
set_option linter.unusedVariables false

/-- has the list such a place -/
def cutOk (L : List Sp1) (a : Int) : Bool := okS L && decide (0 ≤ a ∧ a ≤ (szL L : Int))
/-- what SplitSpans answers -/
def cutF (ok : Bool) (L : List Sp1) (a : Int) : List Sp1 := if ok then nmL (fs a.toNat L) else []
def cutB (ok : Bool) (L : List Sp1) (a : Int) : List Sp1 := if ok then nmL (bs a.toNat L) else []
theorem nm_len (L : List Sp1) : (nmL L).length ≤ L.length := (nm_facts L).2
theorem cutF_len {ok : Bool} {L R : List Sp1} {a : Int} (hr : cutF ok L a = R) : R.length ≤ L.length := by
  cases ok with
  | false => rw [← hr]; exact Nat.zero_le _
  | true => rw [← hr]; have := nm_len (fs a.toNat L); rw [fs_len] at this; exact this
theorem cutB_len {ok : Bool} {L R : List Sp1} {a : Int} (hr : cutB ok L a = R) : R.length ≤ L.length := by
  cases ok with
  | false => rw [← hr]; exact Nat.zero_le _
  | true => rw [← hr]; have := nm_len (bs a.toNat L); rw [bs_len] at this; exact this
theorem cut_80 {ok : Bool} {L : List Sp1} {a : Int} (hz : cutOk L a = ok) : (cutF ok L a).length ≤ 80 ∧ (cutB ok L a).length ≤ 80 := by
  cases ok with
  | false => exact ⟨Nat.zero_le _, Nat.zero_le _⟩
  | true =>
    have h : okS L = true := by unfold cutOk at hz; rw [Bool.and_eq_true] at hz; exact hz.1
    have h1 := (okS_yes h).1
    have h2 := cutF_len (R := cutF true L a) rfl
    have h3 := cutB_len (R := cutB true L a) rfl
    exact ⟨by omega, by omega⟩
/-- two empty rows -/
theorem two_nil {W w : World} (hb : Below W.heap.size W w) :
    ((w.alloc (.cells #[] 38)).alloc (.cells #[] 38)).ownsRow W.heap.size 38 3 (.slice (some ⟨w.heap.size, 0, none⟩) 0 0) 0 (pcells []) ∧ ((w.alloc (.cells #[] 38)).alloc (.cells #[] 38)).ownsRow W.heap.size 38 3 (.slice (some ⟨w.heap.size + 1, 0, none⟩) 0 0) 0 (pcells []) ∧ Below W.heap.size W ((w.alloc (.cells #[] 38)).alloc (.cells #[] 38)) :=
  ⟨own_lit0 (heap_at1 _ _ _) hb.size, own_lit0 (heap_at2 _ _ _) (Nat.le_succ_of_le hb.size), (Below.alloc hb hb.size _).alloc (by have := hb.size; simp; omega) _⟩
theorem ap_lit {g g' n n' c c' : Nat} (h : g ≠ g') : ((Value.slice (some ⟨g, 0, none⟩) n c).ownBlock = none ∨ (Value.slice (some ⟨g, 0, none⟩) n c).ownBlock ≠ (Value.slice (some ⟨g', 0, none⟩) n' c').ownBlock) := by
  refine .inr ?_
  intro h9
  cases h9
  exact h rfl

set_option maxHeartbeats 2000000 in
theorem cut_i (A : Option Addr) (c N : Nat) (L : List Sp1) (a : Int) (ok : Bool) (R0 R1 : List Sp1) (w : World) (h : RdSp w A L) (hn : L.length = N) (hN : N ≤ 1048576) (hs : szL L ≤ 1048576) (hok : cutOk L a = ok) (hr0 : cutF ok L a = R0) (hr1 : cutB ok L a = R1) :
    Calls Try.prog 13 #[.slice A N c, .int .i64 a] w fun e w' => ∃ v v', e = .returned (.tuple #[v, v', .bool ok]) ∧ w'.ownsRow w.heap.size 38 3 v R0.length (pcells R0) ∧ w'.ownsRow w.heap.size 38 3 v' R1.length (pcells R1) ∧ (v.ownBlock = none ∨ v.ownBlock ≠ v'.ownBlock) ∧ (v'.ownBlock = none ∨ v'.ownBlock ≠ v.ownBlock) ∧ Below w.heap.size w w' := by
  have HG := Lib.hid (fun z (hz : okS L = z) => good_i A c N L z w h hn hN hs hz)
  obtain ⟨s, hps⟩ : ∃ s, plB L = s := ⟨_, rfl⟩
  have hss : s.size = szL L := by rw [← hps, plB_size]
  have HP := Lib.hid (fun w' (hb : Below w.heap.size w w') => plain_i A c N L w' (h.below hb) hn hN hs)
  rw [hps] at HP
  have hsz : s.size ≤ 1048576 := by omega
  cases hz : okS L with
  | false =>
    obtain rfl : ok = false := by rw [← hok]; unfold cutOk; rw [hz]; rfl
    obtain rfl : R0 = [] := hr0.symm
    obtain rfl : R1 = [] := hr1.symm
    have HG1 := Lib.hid (HG.out false hz)
    clear h hz hr0 hr1 hok HG HP hps hss
    go_enter Try.func13, Try.ntmps13
    go_wp2_with fail
    refine HG1.out.mono ?_
    rintro e w1 ⟨rfl, b1⟩
    obtain ⟨t0, t1, tb⟩ := two_nil b1
    have T0 := Lib.hid t0
    have T1 := Lib.hid t1
    have TB := Lib.hid tb
    clear t0 t1 tb
    go_wp2_with fail
    go_ret3
    exact ⟨_, _, rfl, T0.out, T1.out, ap_lit (by omega), ap_lit (by omega), TB.out⟩
  | true =>
    have HG1 := Lib.hid (HG.out true hz)
    have hok' : decide (0 ≤ a ∧ a ≤ (szL L : Int)) = ok := by rw [← hok]; unfold cutOk; rw [hz]; rfl
    clear HG hz hok
    by_cases h0 : a < 0
    · obtain rfl : ok = false := by rw [← hok', decide_eq_false (by omega)]
      obtain rfl : R0 = [] := hr0.symm
      obtain rfl : R1 = [] := hr1.symm
      clear h hr0 hr1 hok' HP hps hss
      go_enter Try.func13, Try.ntmps13
      go_wp2_with fail
      refine HG1.out.mono ?_
      rintro e w1 ⟨rfl, b1⟩
      obtain ⟨t0, t1, tb⟩ := two_nil b1
      have T0 := Lib.hid t0
      have T1 := Lib.hid t1
      have TB := Lib.hid tb
      clear t0 t1 tb
      go_wp2_with fail
      go_ret3
      exact ⟨_, _, rfl, T0.out, T1.out, ap_lit (by omega), ap_lit (by omega), TB.out⟩
    · by_cases h1 : (s.size : Int) < a
      · obtain rfl : ok = false := by rw [← hok', decide_eq_false (by omega)]
        obtain rfl : R0 = [] := hr0.symm
        obtain rfl : R1 = [] := hr1.symm
        clear h hr0 hr1 hok' hps hss
        go_enter Try.func13, Try.ntmps13
        go_wp2_with fail
        refine HG1.out.mono ?_
        rintro e w1 ⟨rfl, b1⟩
        go_wp2_with fail
        refine (HP.out _ b1).mono ?_
        rintro e w2 ⟨rfl, b2⟩
        have k2 := b1.trans (b2.mono b1.size)
        clear b1 b2
        obtain ⟨t0, t1, tb⟩ := two_nil k2
        have T0 := Lib.hid t0
        have T1 := Lib.hid t1
        have TB := Lib.hid tb
        clear t0 t1 tb
        go_wp2_with fail
        go_ret3
        exact ⟨_, _, rfl, T0.out, T1.out, ap_lit (by omega), ap_lit (by omega), TB.out⟩
      · obtain rfl : ok = true := by rw [← hok', decide_eq_true (by omega)]
        obtain ⟨q, rfl⟩ : ∃ q : Nat, a = q := ⟨a.toNat, by omega⟩
        obtain rfl : R0 = nmL (fs q L) := by rw [← hr0]; unfold cutF; rw [if_pos rfl, Int.toNat_natCast]
        obtain rfl : R1 = nmL (bs q L) := by rw [← hr1]; unfold cutB; rw [if_pos rfl, Int.toNat_natCast]
        have HC := Lib.hid (fun w' (hb : Below w.heap.size w w') => split_i A c N L q w' (h.below hb) hn hN hs (by omega))
        have h1' : ¬ s.size < q := by omega
        clear h hr0 hr1 hok' hps hss h0
        go_enter Try.func13, Try.ntmps13
        go_wp2_with fail
        refine HG1.out.mono ?_
        rintro e w1 ⟨rfl, b1⟩
        go_wp2_with fail
        refine (HP.out _ b1).mono ?_
        rintro e w2 ⟨rfl, b2⟩
        have k2 := b1.trans (b2.mono b1.size)
        clear b1 b2
        go_wp2_with fail
        refine (HC.out _ k2).mono ?_
        rintro e w3 ⟨v, v', rfl, o0, o1, ap, aq, b3⟩
        have T0 := Lib.hid (row_base' k2.size o0)
        have T1 := Lib.hid (row_base' k2.size o1)
        have TA := Lib.hid ap
        have TQ := Lib.hid aq
        have k3 := k2.trans (b3.mono k2.size)
        obtain ⟨A6, c6, rfl, _, _, _⟩ := own_rdp o0
        obtain ⟨A7, c7, rfl, _, _, _⟩ := own_rdp o1
        clear o0 o1 ap aq b3 k2
        go_wp2_with fail
        go_ret3
        exact ⟨_, _, rfl, T0.out, T1.out, TA.out, TQ.out, k3⟩

set_option maxHeartbeats 2000000 in
theorem cut_s (A : Option Addr) (c N : Nat) (L : List Sp1) (a : Int) (ok : Bool) (R0 R1 : List Sp1) (w : World) (h : RdSp w A L) (hn : L.length = N) (hN : N ≤ 1048576) (hs : szL L ≤ 1048576) (hok : cutOk L a = ok) (hr0 : cutF ok L a = R0) (hr1 : cutB ok L a = R1) :
    Calls Try.prog 12 #[.slice A N c, .int .i64 a] w fun e w' => ∃ v v', e = .returned (.tuple #[v, v', .bool ok]) ∧ w'.ownsRow w.heap.size 38 3 v R0.length (pcells R0) ∧ w'.ownsRow w.heap.size 38 3 v' R1.length (pcells R1) ∧ (v.ownBlock = none ∨ v.ownBlock ≠ v'.ownBlock) ∧ (v'.ownBlock = none ∨ v'.ownBlock ≠ v.ownBlock) ∧ Below w.heap.size w w' := by
  have HG := Lib.hid (fun z (hz : okS L = z) => good_s A c N L z w h hn hN hs hz)
  obtain ⟨s, hps⟩ : ∃ s, plB L = s := ⟨_, rfl⟩
  have hss : s.size = szL L := by rw [← hps, plB_size]
  have HP := Lib.hid (fun w' (hb : Below w.heap.size w w') => plain_s A c N L w' (h.below hb) hn hN hs)
  rw [hps] at HP
  have hsz : s.size ≤ 1048576 := by omega
  cases hz : okS L with
  | false =>
    obtain rfl : ok = false := by rw [← hok]; unfold cutOk; rw [hz]; rfl
    obtain rfl : R0 = [] := hr0.symm
    obtain rfl : R1 = [] := hr1.symm
    have HG1 := Lib.hid (HG.out false hz)
    clear h hz hr0 hr1 hok HG HP hps hss
    go_enter Try.func12, Try.ntmps12
    go_wp2_with fail
    refine HG1.out.mono ?_
    rintro e w1 ⟨rfl, hw1⟩
    obtain rfl := hw1
    have b1 := Below.refl w.heap.size w
    obtain ⟨t0, t1, tb⟩ := two_nil b1
    have T0 := Lib.hid t0
    have T1 := Lib.hid t1
    have TB := Lib.hid tb
    clear t0 t1 tb
    go_wp2_with fail
    go_ret3
    exact ⟨_, _, rfl, T0.out, T1.out, ap_lit (by omega), ap_lit (by omega), TB.out⟩
  | true =>
    have HG1 := Lib.hid (HG.out true hz)
    have hok' : decide (0 ≤ a ∧ a ≤ (szL L : Int)) = ok := by rw [← hok]; unfold cutOk; rw [hz]; rfl
    clear HG hz hok
    have HI := Lib.hid (fun w => l1In_any a 0 (s.size : Int) ok w (by rw [hss]; exact hok'))
    cases ok with
    | false =>
      obtain rfl : R0 = [] := hr0.symm
      obtain rfl : R1 = [] := hr1.symm
      clear h hr0 hr1 hok' hps hss
      go_enter Try.func12, Try.ntmps12
      go_wp2_with fail
      refine HG1.out.mono ?_
      rintro e w1 ⟨rfl, hw1⟩
      obtain rfl := hw1
      go_wp2_with fail
      refine (HP.out _ (Below.refl _ _)).mono ?_
      rintro e w2 ⟨rfl, b2⟩
      go_wp2_with fail
      refine (HI.out _).mono ?_
      rintro e w3 ⟨rfl, hw3⟩
      obtain rfl := hw3
      obtain ⟨t0, t1, tb⟩ := two_nil b2
      have T0 := Lib.hid t0
      have T1 := Lib.hid t1
      have TB := Lib.hid tb
      clear t0 t1 tb
      go_wp2_with fail
      go_ret3
      exact ⟨_, _, rfl, T0.out, T1.out, ap_lit (by omega), ap_lit (by omega), TB.out⟩
    | true =>
      have hq9 := of_decide_eq_true hok'
      obtain ⟨q, rfl⟩ : ∃ q : Nat, a = q := ⟨a.toNat, by omega⟩
      obtain rfl : R0 = nmL (fs q L) := by rw [← hr0]; unfold cutF; rw [if_pos rfl, Int.toNat_natCast]
      obtain rfl : R1 = nmL (bs q L) := by rw [← hr1]; unfold cutB; rw [if_pos rfl, Int.toNat_natCast]
      have HC := Lib.hid (fun w' (hb : Below w.heap.size w w') => split_s A c N L q w' (h.below hb) hn hN hs (by omega))
      clear h hr0 hr1 hok' hps hss hq9
      go_enter Try.func12, Try.ntmps12
      go_wp2_with fail
      refine HG1.out.mono ?_
      rintro e w1 ⟨rfl, hw1⟩
      obtain rfl := hw1
      go_wp2_with fail
      refine (HP.out _ (Below.refl _ _)).mono ?_
      rintro e w2 ⟨rfl, k2⟩
      go_wp2_with fail
      refine (HI.out _).mono ?_
      rintro e w3 ⟨rfl, hw3⟩
      obtain rfl := hw3
      go_wp2_with fail
      refine (HC.out _ k2).mono ?_
      rintro e w3 ⟨v, v', rfl, o0, o1, ap, aq, b3⟩
      have T0 := Lib.hid (row_base' k2.size o0)
      have T1 := Lib.hid (row_base' k2.size o1)
      have TA := Lib.hid ap
      have TQ := Lib.hid aq
      have k3 := k2.trans (b3.mono k2.size)
      obtain ⟨A6, c6, rfl, _, _, _⟩ := own_rdp o0
      obtain ⟨A7, c7, rfl, _, _, _⟩ := own_rdp o1
      clear o0 o1 ap aq b3 k2
      go_wp2_with fail
      go_ret3
      exact ⟨_, _, rfl, T0.out, T1.out, TA.out, TQ.out, k3⟩
end Go.Proofs.Ytglgkgkcilkinaa.SpC
