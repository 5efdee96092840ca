/-
  Contracts of HasPage, of the program and of the model.
-/
import Derived.Test.YtlnbkedhleffoaaPgH
namespace Go.Proofs.Ytlnbkedhleffoaa.Pg
open Go.RowKit PgPl NmPl
open Dt (l1In_any)
set_option linter.unusedSimpArgs false
set_option linter.unusedVariables false

theorem str_neq {a b : ByteArray} (h : a ≠ b) : (a.toList == b.toList) = false := by
  rw [beq_eq_false_iff_ne, Lib.toList_data, Lib.toList_data]
  intro e
  exact h (ByteArray.ext (Array.ext' e))
theorem str_same (a : ByteArray) : (a.toList == a.toList) = true := beq_self_eq_true _
theorem below_drewN {n : Nat} {w w' : World} (h : Below n w w') (q : Nat) : Below n w (w'.drewN q) := ⟨h.os, h.tape, h.output, h.size, h.block⟩
/-- is the page in the range -/
def hit (l : ByteArray) (p : Int) (x : Pr) : Bool := decide (x.l = l) && decide (x.f ≤ p ∧ p ≤ x.t)
def hits (l : ByteArray) (p : Int) (L : List Pr) : Bool := L.any (hit l p)
theorem hits_drop {l : ByteArray} {p : Int} {L : List Pr} {k : Nat} {x : Pr} (h : L[k]? = some x) : hits l p (L.drop k) = (hit l p x || hits l p (L.drop (k + 1))) := by
  obtain ⟨hk, e⟩ := List.getElem?_eq_some_iff.1 h
  rw [List.drop_eq_getElem_cons hk, e]
  rfl
/-- may it be asked -/
def hasOk (L : List Pr) (l : ByteArray) (p : Int) : Bool := okL L && okR l p p
theorem in_q (x a b : Int) (r : Bool) (w : World) (hr : decide (a ≤ x ∧ x ≤ b) = r) : Calls Try.prog 18 #[.int .i64 x, .int .i64 a, .int .i64 b] w fun e w' => e = .returned (.bool r) ∧ w' = w :=
  (l1In_any x a b r w hr).mono fun _ _ ⟨he, hw⟩ => ⟨he, hw.symm⟩
theorem hit_ne {l : ByteArray} {p : Int} {x : Pr} (h : x.l ≠ l) : hit l p x = false := by unfold hit; rw [decide_eq_false h]; rfl
theorem hit_eq {l : ByteArray} {p f t : Int} : hit l p ⟨l, f, t⟩ = decide (f ≤ p ∧ p ≤ t) := by unfold hit; rw [decide_eq_true rfl]; rfl

set_option maxHeartbeats 2000000 in
theorem has_s (A : Option Addr) (c N : Nat) (L : List Pr) (l : ByteArray) (p : Int) (z r : Bool) (w : World) (h : RdP w A L) (hn : L.length = N) (hN : N ≤ 1048576) (hz : hasOk L l p = z) (hr : (z && hits l p L) = r) :
    Calls Try.prog 10 #[.slice A N c, .string l, .int .i64 p] w fun e w' => e = .returned (.tuple #[.bool r, .bool z]) ∧ Below w.heap.size w w' := by
  have H := Lib.hid h
  have HN := Lib.hid hn
  have HR := Lib.hid hr
  have HZ : Hid ((okL L && (lB l && decide (1 ≤ p ∧ p ≤ 99999))) = z) := Lib.hid (by rw [← hz]; unfold hasOk okR; rw [show decide (1 ≤ p ∧ p ≤ p ∧ p ≤ 99999) = decide (1 ≤ p ∧ p ≤ 99999) by rw [Bool.eq_iff_iff]; simp])
  clear hz hr hn
  generalize hg : okL L = g at HZ
  have HG := Lib.hid (good_s A c N L g w h HN.out hN hg)
  clear h
  generalize hb : lB l = b at HZ
  have HB := Lib.hid hb
  generalize hq : decide (1 ≤ p ∧ p ≤ 99999) = q at HZ
  have HQ := Lib.hid hq
  clear hg hb hq
  cases g with
  | false =>
    have HZ' : Hid (z = false) := Lib.hid (by rw [← HZ.out]; rfl)
    have HR' : Hid (r = false) := Lib.hid (by rw [← HR.out, HZ'.out]; rfl)
    go_enter Try.func10, Try.ntmps10
    go_wp2_with fail
    refine HG.out.mono ?_
    rintro e w1 ⟨rfl, b1⟩
    go_wp2_with fail
    go_ret2
    exact ⟨by rw [HZ'.out, HR'.out]; rfl, b1⟩
  | true =>
    cases b with
    | false =>
      have HZ' : Hid (z = false) := Lib.hid (by rw [← HZ.out]; rfl)
      have HR' : Hid (r = false) := Lib.hid (by rw [← HR.out, HZ'.out]; rfl)
      go_enter Try.func10, Try.ntmps10
      go_wp2_with fail
      refine HG.out.mono ?_
      rintro e w1 ⟨rfl, b1⟩
      go_wp2_with fail
      refine (letter_s l false _ HB.out).mono ?_
      rintro e w2 ⟨rfl, rfl⟩
      go_wp2_with fail
      go_ret2
      exact ⟨by rw [HZ'.out, HR'.out]; rfl, b1⟩
    | true =>
      cases q with
      | false =>
        have HZ' : Hid (z = false) := Lib.hid (by rw [← HZ.out]; rfl)
        have HR' : Hid (r = false) := Lib.hid (by rw [← HR.out, HZ'.out]; rfl)
        go_enter Try.func10, Try.ntmps10
        go_wp2_with fail
        refine HG.out.mono ?_
        rintro e w1 ⟨rfl, b1⟩
        go_wp2_with fail
        refine (letter_s l true _ HB.out).mono ?_
        rintro e w2 ⟨rfl, rfl⟩
        go_wp2_with fail
        refine (l1In_any p 1 99999 false _ HQ.out).mono ?_
        rintro e w2 ⟨rfl, rfl⟩
        go_wp2_with fail
        go_ret2
        exact ⟨by rw [HZ'.out, HR'.out]; rfl, b1⟩
      | true =>
        have HZ' : Hid (z = true) := Lib.hid (by rw [← HZ.out]; rfl)
        have HR' : Hid (r = hits l p L) := Lib.hid (by rw [← HR.out, HZ'.out]; rfl)
        go_enter Try.func10, Try.ntmps10
        go_wp2_with fail
        refine HG.out.mono ?_
        rintro e w1 ⟨rfl, b1⟩
        go_wp2_with fail
        refine (letter_s l true _ HB.out).mono ?_
        rintro e w2 ⟨rfl, rfl⟩
        go_wp2_with fail
        refine (l1In_any p 1 99999 true _ HQ.out).mono ?_
        rintro e w2 ⟨rfl, rfl⟩
        go_wp2_with fail
        go_loopw [8] (fun i wr => ∃ k : Nat, k ≤ N ∧ i = .int .i64 k ∧ Hid (hits l p (L.drop k) = hits l p L) ∧ Below w.heap.size w wr) (fun i _ => N - (intOf i).toNat)
        case atStart => exact ⟨0, Nat.zero_le _, rfl, Lib.hid rfl, b1⟩
        case round =>
          obtain ⟨k, hk, rfl, HD, hb⟩ := hrel
          by_cases hlt : k < N
          · have hkx : k < L.length := by rw [HN.out]; exact hlt
            have hx? := List.getElem?_eq_getElem hkx
            obtain ⟨g, o, rfl, hg, c0, c1, c2⟩ := (H.out.below hb) k L[k] hx?
            have HO := Lib.hid (hits_drop (l := l) (p := p) hx?)
            clear hx?
            generalize L[k] = x at *
            obtain ⟨l', f, t⟩ := x
            dsimp only at c0 c1 c2
            by_cases hl : l' = l
            · subst hl
              have hss := str_same l'
              generalize hh : decide (f ≤ p ∧ p ≤ t) = y
              have HH := Lib.hid hh
              clear hh
              have HY : Hid (hit l' p ⟨l', f, t⟩ = y) := Lib.hid (by rw [hit_eq]; exact HH.out)
              cases y with
              | true =>
                have HF : Hid (r = true) := Lib.hid (by rw [HR'.out, ← HD.out, HO.out, HY.out]; rfl)
                go_wp2_with fail
                go_quiet ((go_at_call 18; exact Calls.quiet_of_same (in_q p f t true _ HH.out)))
                go_wp2_with fail
                go_ret2
                exact ⟨by rw [HZ'.out, HF.out]; rfl, below_drewN hb _⟩
              | false =>
                go_wp2_with fail
                go_quiet ((go_at_call 18; exact Calls.quiet_of_same (in_q p f t false _ HH.out)))
                go_wp2_with fail
                go_roundw
                case rel => exact ⟨k + 1, by omega, by go_num, Lib.hid (by rw [← HD.out, HO.out, HY.out]; rfl), below_drewN hb _⟩
                case measure => simp [intOf]; omega
            · have hss := str_neq hl
              have HY : Hid (hit l p ⟨l', f, t⟩ = false) := Lib.hid (hit_ne hl)
              clear hl
              go_wp2_with fail
              go_quiet (fail)
              go_wp2_with fail
              go_roundw
              case rel => exact ⟨k + 1, by omega, by go_num, Lib.hid (by rw [← HD.out, HO.out, HY.out]; rfl), below_drewN hb _⟩
              case measure => simp [intOf]; omega
          · have HF : Hid (r = false) := Lib.hid (by rw [HR'.out, ← HD.out, List.drop_eq_nil_of_le (by rw [HN.out]; omega)]; rfl)
            go_wp2_with fail
            go_ret2
            exact ⟨by rw [HZ'.out, HF.out]; rfl, hb⟩

set_option maxHeartbeats 2000000 in
theorem has_i (A : Option Addr) (c N : Nat) (L : List Pr) (l : ByteArray) (p : Int) (z r : Bool) (w : World) (h : RdP w A L) (hn : L.length = N) (hN : N ≤ 1048576) (hz : hasOk L l p = z) (hr : (z && hits l p L) = r) :
    Calls Try.prog 11 #[.slice A N c, .string l, .int .i64 p] w fun e w' => e = .returned (.tuple #[.bool r, .bool z]) ∧ Below w.heap.size w w' := by
  have hb0 := box_below w (.cells #[.string l, .int .i64 p, .int .i64 p] 35)
  have HB0 := Lib.hid hb0
  have H := Lib.hid h
  have HN := Lib.hid hn
  have HR := Lib.hid hr
  have HZ : Hid ((okL L && okR l p p) = z) := Lib.hid hz
  clear hz hr hn
  have HC : Hid (∀ w1, Below (w.alloc (.cells #[.string l, .int .i64 p, .int .i64 p] 35)).heap.size (w.alloc (.cells #[.string l, .int .i64 p, .int .i64 p] 35)) w1 → w1.cell? ⟨w.heap.size, 0, none⟩ = some (.string l) ∧ w1.cell? ⟨w.heap.size, 1, none⟩ = some (.int .i64 p) ∧ w1.cell? ⟨w.heap.size, 2, none⟩ = some (.int .i64 p)) := Lib.hid (fun w1 hb => ⟨(hb.cell (p := ⟨w.heap.size, 0, none⟩) (by simp)).trans (by simp), (hb.cell (p := ⟨w.heap.size, 1, none⟩) (by simp)).trans (by simp), (hb.cell (p := ⟨w.heap.size, 2, none⟩) (by simp)).trans (by simp)⟩)
  generalize hg : okL L = g at HZ
  have HG := Lib.hid (pages_i A c N L g _ (h.below hb0) HN.out hN hg)
  clear h hb0
  generalize hb : okR l p p = b at HZ
  have HB := Lib.hid hb
  clear hg hb
  cases g with
  | false =>
    have HZ' : Hid (z = false) := Lib.hid (by rw [← HZ.out]; rfl)
    have HR' : Hid (r = false) := Lib.hid (by rw [← HR.out, HZ'.out]; rfl)
    go_enter Try.func11, Try.ntmps11
    go_wp2_with fail
    refine HG.out.mono ?_
    rintro e w1 ⟨rfl, b1⟩
    go_wp2_with fail
    go_ret2
    exact ⟨by rw [HZ'.out, HR'.out]; rfl, HB0.out.trans (b1.mono HB0.out.size)⟩
  | true =>
    cases b with
    | false =>
      have HZ' : Hid (z = false) := Lib.hid (by rw [← HZ.out]; rfl)
      have HR' : Hid (r = false) := Lib.hid (by rw [← HR.out, HZ'.out]; rfl)
      go_enter Try.func11, Try.ntmps11
      go_wp2_with fail
      refine HG.out.mono ?_
      rintro e w1 ⟨rfl, b1⟩
      obtain ⟨d0, d1, d2⟩ := HC.out _ b1
      have k1 := HB0.out.trans (b1.mono HB0.out.size)
      clear b1
      go_wp2_with fail
      refine (valid_i l p p false _ HB.out).mono ?_
      rintro e w2 ⟨rfl, b2⟩
      have k2 := k1.trans (b2.mono k1.size)
      clear d0 d1 d2 b2 k1
      go_wp2_with fail
      go_ret2
      exact ⟨by rw [HZ'.out, HR'.out]; rfl, k2⟩
    | true =>
      have HZ' : Hid (z = true) := Lib.hid (by rw [← HZ.out]; rfl)
      have HR' : Hid (r = hits l p L) := Lib.hid (by rw [← HR.out, HZ'.out]; rfl)
      go_enter Try.func11, Try.ntmps11
      go_wp2_with fail
      refine HG.out.mono ?_
      rintro e w1 ⟨rfl, b1⟩
      obtain ⟨d0, d1, d2⟩ := HC.out _ b1
      have k1 := HB0.out.trans (b1.mono HB0.out.size)
      clear b1
      go_wp2_with fail
      refine (valid_i l p p true _ HB.out).mono ?_
      rintro e w2 ⟨rfl, b2⟩
      have k2 := k1.trans (b2.mono k1.size)
      clear d0 d1 d2 b2 k1
      go_wp2_with fail
      go_loopw [25] (fun i wr => ∃ k : Nat, k ≤ N ∧ i = .int .i64 k ∧ Hid (hits l p (L.drop k) = hits l p L) ∧ Below w.heap.size w wr) (fun i _ => N - (intOf i).toNat)
      case atStart => exact ⟨0, Nat.zero_le _, rfl, Lib.hid rfl, k2⟩
      case round =>
        obtain ⟨k, hk, rfl, HD, hb⟩ := hrel
        by_cases hlt : k < N
        · have hkx : k < L.length := by rw [HN.out]; exact hlt
          have hx? := List.getElem?_eq_getElem hkx
          obtain ⟨g, o, rfl, hg, c0, c1, c2⟩ := (H.out.below hb) k L[k] hx?
          have HO := Lib.hid (hits_drop (l := l) (p := p) hx?)
          clear hx?
          generalize L[k] = x at *
          obtain ⟨l', f, t⟩ := x
          dsimp only at c0 c1 c2
          have HBx := Lib.hid (hb.alloc hb.size (.cells #[.string l', .int .i64 f, .int .i64 t] 35))
          by_cases hl : l' = l
          · subst hl
            have hss := str_same l'
            by_cases h1 : f ≤ p
            · by_cases h2 : p ≤ t
              · have HF : Hid (r = true) := Lib.hid (by rw [HR'.out, ← HD.out, HO.out, hit_eq, decide_eq_true ⟨h1, h2⟩]; rfl)
                go_wp2_with fail
                go_ret2
                exact ⟨by rw [HZ'.out, HF.out]; rfl, HBx.out⟩
              · have HY : Hid (hit l' p ⟨l', f, t⟩ = false) := Lib.hid (by rw [hit_eq]; exact decide_eq_false (by omega))
                go_wp2_with fail
                go_roundw
                case rel => exact ⟨k + 1, by omega, by go_num, Lib.hid (by rw [← HD.out, HO.out, HY.out]; rfl), HBx.out⟩
                case measure => simp [intOf]; omega
            · have HY : Hid (hit l' p ⟨l', f, t⟩ = false) := Lib.hid (by rw [hit_eq]; exact decide_eq_false (by omega))
              go_wp2_with fail
              go_roundw
              case rel => exact ⟨k + 1, by omega, by go_num, Lib.hid (by rw [← HD.out, HO.out, HY.out]; rfl), HBx.out⟩
              case measure => simp [intOf]; omega
          · have hss := str_neq hl
            have HY : Hid (hit l p ⟨l', f, t⟩ = false) := Lib.hid (hit_ne hl)
            clear hl
            go_wp2_with fail
            go_roundw
            case rel => exact ⟨k + 1, by omega, by go_num, Lib.hid (by rw [← HD.out, HO.out, HY.out]; rfl), HBx.out⟩
            case measure => simp [intOf]; omega
        · have HF : Hid (r = false) := Lib.hid (by rw [HR'.out, ← HD.out, List.drop_eq_nil_of_le (by rw [HN.out]; omega)]; rfl)
          go_wp2_with fail
          go_ret2
          exact ⟨by rw [HZ'.out, HF.out]; rfl, hb⟩
end Go.Proofs.Ytlnbkedhleffoaa.Pg
