/-
  Contracts of areValidSpans and l10Good: is a list of spans valid.
-/
import Derived.Test.YtljbbmefemfjpaaSpH
import Derived.Test.YtljbbmefemfjpaaPr
import Derived.Test.YtljbbmefemfjpaaL1In
namespace Go.Proofs.Ytljbbmefemfjpaa.SpG
open Go.RowKit SpPl Sp Pl
open Dt (l1In_any)
open Kt (pr isPrint all_at all_end ret_bool)
set_option linter.unusedSimpArgs false
set_option linter.unusedVariables false

/-- are all bytes of the text printable -/
def prS (x : Sp1) : Bool := x.l.data.toList.all pr
/-- is the list of spans valid -/
def okS (L : List Sp1) : Bool := decide (L.length ≤ 80) && (decide (szL L ≤ 4000) && L.all prS)
theorem prs_drop {L : List Sp1} {k : Nat} {x : Sp1} (h : L[k]? = some x) : (L.drop k).all prS = (prS x && (L.drop (k + 1)).all prS) := by
  obtain ⟨hk, e⟩ := List.getElem?_eq_some_iff.1 h
  rw [List.drop_eq_getElem_cons hk, e]
  rfl
theorem okS_yes {L : List Sp1} (h : okS L = true) : L.length ≤ 80 ∧ szL L ≤ 4000 ∧ ∀ x ∈ L, prS x = true := by
  unfold okS at h
  rw [Bool.and_eq_true, Bool.and_eq_true, decide_eq_true_eq, decide_eq_true_eq] at h
  exact ⟨h.1, h.2.1, List.all_eq_true.1 h.2.2⟩

set_option maxHeartbeats 2000000 in
theorem good_i (A : Option Addr) (c N : Nat) (L : List Sp1) (z : Bool) (w : World) (h : RdSp w A L) (hn : L.length = N) (hN : N ≤ 1048576) (hs : szL L ≤ 1048576) (hz : okS L = z) :
    Calls Try.prog 40 #[.slice A N c] w fun e w' => e = .returned (.bool z) ∧ Below w.heap.size w w' := by
  have H := Lib.hid h
  have HN := Lib.hid hn
  have HZ : Hid ((decide (N ≤ 80) && (decide (szL L ≤ 4000) && L.all prS)) = z) := Lib.hid (by rw [← hz, ← hn]; rfl)
  have HL := Lib.hid hs
  clear h hn hz hs
  by_cases h80 : N ≤ 80
  · have HE : Hid ((decide (szL L ≤ 4000) && L.all prS) = z) := Lib.hid (by rw [← HZ.out, decide_eq_true h80]; rfl)
    clear HZ
    go_enter Try.func40, Try.ntmps40
    go_wp2_with fail
    go_loopw [3, 11] (fun s i wr => ∃ k : Nat, k ≤ N ∧ i = .int .i64 k ∧ (∃ t : Nat, t ≤ 4000 ∧ Hid (szL (L.take k) = t) ∧ s = .int .i64 t) ∧ Hid ((L.drop k).all prS = L.all prS) ∧ Below w.heap.size w wr) (fun _ i _ => N - (intOf i).toNat)
    case atStart => exact ⟨0, Nat.zero_le _, rfl, ⟨0, by omega, Lib.hid rfl, rfl⟩, Lib.hid rfl, Below.refl _ _⟩
    case round =>
      obtain ⟨k, hk, rfl, ⟨t, ht, HT, rfl⟩, HD, hb⟩ := hrel
      by_cases hlt : k < N
      · have hkx : k < L.length := by rw [HN.out]; exact hlt
        have hx? := List.getElem?_eq_getElem hkx
        obtain ⟨g, o, rfl, hg, c0, c1, c2⟩ := (H.out.below hb) k L[k] hx?
        have HO := Lib.hid (prs_drop hx?)
        have HT1 := Lib.hid (szL_take hx?)
        have HLe := Lib.hid (szL_le L (k + 1))
        clear hx?
        generalize L[k] = x at *
        obtain ⟨l, f, b⟩ := x
        dsimp only at c0 c1 c2 HT1
        have HT2 : Hid (szL (L.take (k + 1)) = t + l.size) := Lib.hid (by rw [HT1.out, HT.out])
        have hls : l.size ≤ 1048576 := by have := HL.out; have := HLe.out; have := HT2.out; omega
        have HB5 := Lib.hid (box_below wr (.cells #[.string l, .bool f, .bool b] 70))
        clear HT1 HT
        by_cases h4 : t + l.size ≤ 4000
        · have hd4 : decide ((4000 : Int) < (t : Int) + (l.size : Int)) = false := by simp; omega
          obtain ⟨q, hq⟩ : ∃ q : Nat, q = t + l.size := ⟨_, rfl⟩
          have hqe : (t : Int) + (l.size : Int) = (q : Int) := by omega
          rw [hqe] at hd4
          rw [← hq] at HT2
          have hq4 : q ≤ 4000 := by omega
          clear h4 hq
          generalize hok : l.data.toList.all pr = ok
          have HOK := Lib.hid hok
          clear hok
          cases ok with
          | false =>
            have HF : Hid (z = false) := Lib.hid (by rw [← HE.out, ← HD.out, HO.out]; unfold prS; dsimp only; rw [HOK.out]; simp)
            go_wp2_with (first | (go_at_call 48; refine (isPrint l _ _ hls HOK.out).mono ?_; rintro e w' ⟨rfl, rfl⟩))
            go_ret
            exact ⟨by rw [HF.out]; rfl, hb.trans (HB5.out.mono hb.size)⟩
          | true =>
            go_wp2_with (first | (go_at_call 48; refine (isPrint l _ _ hls HOK.out).mono ?_; rintro e w' ⟨rfl, rfl⟩))
            go_roundw
            case rel => exact ⟨k + 1, by omega, by go_num, ⟨q, hq4, HT2, rfl⟩, Lib.hid (by rw [← HD.out, HO.out]; unfold prS; dsimp only; rw [HOK.out]; rfl), hb.trans (HB5.out.mono hb.size)⟩
            case measure => simp [intOf]; omega
        · have hd4 : decide ((4000 : Int) < (t : Int) + (l.size : Int)) = true := by simp; omega
          have HF : Hid (z = false) := Lib.hid (by rw [← HE.out, decide_eq_false (by have := HLe.out; have := HT2.out; omega)]; rfl)
          clear h4
          go_wp2_with fail
          go_ret
          exact ⟨by rw [HF.out]; rfl, hb.trans (HB5.out.mono hb.size)⟩
      · have HX : Hid (z = true) := Lib.hid (by
          have e1 := HD.out
          have e2 := HT.out
          rw [List.drop_eq_nil_of_le (by rw [HN.out]; omega)] at e1
          rw [List.take_of_length_le (by rw [HN.out]; omega)] at e2
          rw [← HE.out, ← e1, decide_eq_true (by omega)]
          rfl)
        go_wp2_with fail
        go_ret
        exact ⟨by rw [HX.out]; rfl, hb⟩
  · have HF : Hid (z = false) := Lib.hid (by rw [← HZ.out, decide_eq_false h80]; rfl)
    clear HZ
    go_enter Try.func40, Try.ntmps40
    go_wp2_with fail
    go_ret
    exact ⟨by rw [HF.out]; rfl, Below.refl _ _⟩

set_option maxHeartbeats 2000000 in
theorem good_s (A : Option Addr) (c N : Nat) (L : List Sp1) (z : Bool) (w : World) (h : RdSp w A L) (hn : L.length = N) (hN : N ≤ 1048576) (hs : szL L ≤ 1048576) (hz : okS L = z) :
    Calls Try.prog 45 #[.slice A N c] w fun e w' => e = .returned (.bool z) ∧ w = w' := by
  have H := Lib.hid h
  have HN := Lib.hid hn
  have HZ : Hid ((decide (N ≤ 80) && (decide (szL L ≤ 4000) && L.all prS)) = z) := Lib.hid (by rw [← hz, ← hn]; rfl)
  have HL := Lib.hid hs
  clear h hn hz hs
  by_cases h80 : N ≤ 80
  · have HE : Hid ((decide (szL L ≤ 4000) && L.all prS) = z) := Lib.hid (by rw [← HZ.out, decide_eq_true h80]; rfl)
    clear HZ
    go_enter Try.func45, Try.ntmps45
    go_wp2_with fail
    go_loop [3, 4] (fun s i => ∃ k : Nat, k ≤ N ∧ i = .int .i64 k ∧ (∃ t : Nat, t ≤ 1048576 ∧ Hid (szL (L.take k) = t) ∧ s = .int .i64 t) ∧ Hid ((L.drop k).all prS = L.all prS)) (fun _ i => N - (intOf i).toNat)
    case atStart => exact ⟨0, Nat.zero_le _, rfl, ⟨0, by omega, Lib.hid rfl, rfl⟩, Lib.hid rfl⟩
    case round =>
      obtain ⟨k, hk, rfl, ⟨t, ht, HT, rfl⟩, HD⟩ := hrel
      by_cases hlt : k < N
      · have hkx : k < L.length := by rw [HN.out]; exact hlt
        have hx? := List.getElem?_eq_getElem hkx
        obtain ⟨g, o, rfl, hg, c0, c1, c2⟩ := H.out k L[k] hx?
        have HO := Lib.hid (prs_drop hx?)
        have HT1 := Lib.hid (szL_take hx?)
        have HLe := Lib.hid (szL_le L (k + 1))
        clear hx?
        generalize L[k] = x at *
        obtain ⟨l, f, b⟩ := x
        dsimp only at c0 c1 c2 HT1
        have HT2 : Hid (szL (L.take (k + 1)) = t + l.size) := Lib.hid (by rw [HT1.out, HT.out])
        have hls : t + l.size ≤ 1048576 := by have := HL.out; have := HLe.out; have := HT2.out; omega
        obtain ⟨q, hq⟩ : ∃ q : Nat, q = t + l.size := ⟨_, rfl⟩
        have hqe : (t : Int) + (l.size : Int) = (q : Int) := by omega
        rw [← hq] at HT2
        have hq4 : q ≤ 1048576 := by omega
        clear HT1 HT hq
        go_wp2_with fail
        go_loop [5] (fun j => ∃ p : Nat, p ≤ l.size ∧ j = .int .i64 p ∧ Hid ((l.data.toList.drop p).all pr = l.data.toList.all pr)) (fun j => l.size - (intOf j).toNat)
        case atStart => exact ⟨0, Nat.zero_le _, rfl, Lib.hid rfl⟩
        case round =>
          obtain ⟨p, hp, rfl, HP⟩ := hrel
          by_cases hlp : p < l.size
          · have HA := Lib.hid (all_at pr l p hlp)
            have hcl := l[p].toNat_lt
            generalize hok : decide ((32 : Int) ≤ (l[p].toNat : Int) ∧ (l[p].toNat : Int) ≤ 126) = ok
            have HOK := Lib.hid hok
            have HK : Hid (pr l[p] = ok) := Lib.hid (by rw [← hok]; unfold pr; rw [Bool.eq_iff_iff]; simp; omega)
            clear hok
            cases ok with
            | false =>
              have HF : Hid (z = false) := Lib.hid (by rw [← HE.out, ← HD.out, HO.out]; unfold prS; dsimp only; rw [← HP.out, HA.out, HK.out]; simp)
              go_wp2_with (first | (go_at_call 64; refine (l1In_any _ 32 126 _ _ HOK.out).mono ?_; rintro e w' ⟨rfl, rfl⟩))
              go_ret
              exact ⟨by rw [HF.out]; rfl, rfl⟩
            | true =>
              go_wp2_with (first | (go_at_call 64; refine (l1In_any _ 32 126 _ _ HOK.out).mono ?_; rintro e w' ⟨rfl, rfl⟩))
              go_round
              case rel => exact ⟨p + 1, by omega, by go_num, Lib.hid (by rw [← HP.out, HA.out, HK.out]; rfl)⟩
              case measure => simp [intOf]; omega
          · have HX : Hid (l.data.toList.all pr = true) := Lib.hid (by rw [← HP.out]; exact all_end pr l p (by omega))
            go_wp2_with fail
            go_round
            case rel => exact ⟨k + 1, by omega, by go_num, ⟨q, hq4, HT2, rfl⟩, Lib.hid (by rw [← HD.out, HO.out]; unfold prS; dsimp only; rw [HX.out]; rfl)⟩
            case measure => simp [intOf]; omega
      · have HX : Hid (decide ((t : Int) ≤ 4000) = z) := Lib.hid (by
          have e1 := HD.out
          have e2 := HT.out
          rw [List.drop_eq_nil_of_le (by rw [HN.out]; omega)] at e1
          rw [List.take_of_length_le (by rw [HN.out]; omega)] at e2
          rw [← HE.out, ← e1, e2, Bool.eq_iff_iff]
          simp
          omega)
        go_wp2_with fail
        go_ret
        exact ⟨by rw [← HX.out]; rfl, rfl⟩
  · have HF : Hid (z = false) := Lib.hid (by rw [← HZ.out, decide_eq_false h80]; rfl)
    clear HZ
    go_enter Try.func45, Try.ntmps45
    go_wp2_with fail
    go_ret
    exact ⟨by rw [HF.out]; rfl, rfl⟩
end Go.Proofs.Ytljbbmefemfjpaa.SpG
