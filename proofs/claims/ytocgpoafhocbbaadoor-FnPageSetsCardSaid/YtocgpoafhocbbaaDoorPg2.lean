/-
  Contracts of HasPage, of the program and of the model.
-/
import Derived.Test.YtocgpoafhocbbaaDoorPgHr
import Derived.Test.YtocgpoafhocbbaaDoorPgHit
namespace Go.Proofs.YtocgpoafhocbbaaDoor.Pg
open Go.RowKit PgPl NmPl PgHit
open Dt (l1In_any)
set_option linter.unusedSimpArgs false
set_option linter.unusedVariables false

theorem str_neq {a b : ByteArray} (h : a ≠ b) : (a.toList == b.toList) = false := by
  rw [beq_eq_false_iff_ne, Lib.toList_data, Lib.toList_data]
  intro e
  exact h (ByteArray.ext (Array.ext' e))
theorem str_same (a : ByteArray) : (a.toList == a.toList) = true := beq_self_eq_true _
theorem below_drewN {n : Nat} {w w' : World} (h : Below n w w') (q : Nat) : Below n w (w'.drewN q) := ⟨h.os, h.tape, h.output, h.size, h.block⟩
theorem in_q (x a b : Int) (r : Bool) (w : World) (hr : decide (a ≤ x ∧ x ≤ b) = r) : Calls Tryd.prog 31 #[.int .i64 x, .int .i64 a, .int .i64 b] w fun e w' => e = .returned (.bool r) ∧ w' = w :=
  (l1In_any x a b r w hr).mono fun _ _ ⟨he, hw⟩ => ⟨he, hw.symm⟩

set_option maxHeartbeats 2000000 in
theorem has_i (A : Option Addr) (c N : Nat) (L : List Pr) (l : ByteArray) (p : Int) (z r : Bool) (w : World) (h : RdP w A L) (hn : L.length = N) (hN : N ≤ 1048576) (hz : hasOk L l p = z) (hr : (z && hits l p L) = r) :
    Calls Tryd.prog 10 #[.slice A N c, .string l, .int .i64 p] w fun e w' => e = .returned (.tuple #[.bool r, .bool z]) ∧ Below w.heap.size w w' := by
  have hb0 := box_below w (.cells #[.string l, .int .i64 p, .int .i64 p] 34)
  have HB0 := Lib.hid hb0
  have H := Lib.hid h
  have HN := Lib.hid hn
  have HR := Lib.hid hr
  have HZ : Hid ((okL L && okR l p p) = z) := Lib.hid hz
  clear hz hr hn
  have HC : Hid (∀ w1, Below (w.alloc (.cells #[.string l, .int .i64 p, .int .i64 p] 34)).heap.size (w.alloc (.cells #[.string l, .int .i64 p, .int .i64 p] 34)) w1 → w1.cell? ⟨w.heap.size, 0, none⟩ = some (.string l) ∧ w1.cell? ⟨w.heap.size, 1, none⟩ = some (.int .i64 p) ∧ w1.cell? ⟨w.heap.size, 2, none⟩ = some (.int .i64 p)) := Lib.hid (fun w1 hb => ⟨(hb.cell (p := ⟨w.heap.size, 0, none⟩) (by simp)).trans (by simp), (hb.cell (p := ⟨w.heap.size, 1, none⟩) (by simp)).trans (by simp), (hb.cell (p := ⟨w.heap.size, 2, none⟩) (by simp)).trans (by simp)⟩)
  generalize hg : okL L = g at HZ
  have HG := Lib.hid (pages_i A c N L g _ (h.below hb0) HN.out hN hg)
  clear h hb0
  generalize hb : okR l p p = b at HZ
  have HB := Lib.hid hb
  clear hg hb
  cases g with
  | false =>
    have HZ' : Hid (z = false) := Lib.hid (by rw [← HZ.out]; rfl)
    have HR' : Hid (r = false) := Lib.hid (by rw [← HR.out, HZ'.out]; rfl)
    go_enter Tryd.func10, Tryd.ntmps10
    go_wp2_with fail
    refine HG.out.mono ?_
    rintro e w1 ⟨rfl, b1⟩
    go_wp2_with fail
    go_ret2
    exact ⟨by rw [HZ'.out, HR'.out]; rfl, HB0.out.trans (b1.mono HB0.out.size)⟩
  | true =>
    cases b with
    | false =>
      have HZ' : Hid (z = false) := Lib.hid (by rw [← HZ.out]; rfl)
      have HR' : Hid (r = false) := Lib.hid (by rw [← HR.out, HZ'.out]; rfl)
      go_enter Tryd.func10, Tryd.ntmps10
      go_wp2_with fail
      refine HG.out.mono ?_
      rintro e w1 ⟨rfl, b1⟩
      obtain ⟨d0, d1, d2⟩ := HC.out _ b1
      have k1 := HB0.out.trans (b1.mono HB0.out.size)
      clear b1
      go_wp2_with fail
      refine (valid_i l p p false _ HB.out).mono ?_
      rintro e w2 ⟨rfl, b2⟩
      have k2 := k1.trans (b2.mono k1.size)
      clear d0 d1 d2 b2 k1
      go_wp2_with fail
      go_ret2
      exact ⟨by rw [HZ'.out, HR'.out]; rfl, k2⟩
    | true =>
      have HZ' : Hid (z = true) := Lib.hid (by rw [← HZ.out]; rfl)
      have HR' : Hid (r = hits l p L) := Lib.hid (by rw [← HR.out, HZ'.out]; rfl)
      go_enter Tryd.func10, Tryd.ntmps10
      go_wp2_with fail
      refine HG.out.mono ?_
      rintro e w1 ⟨rfl, b1⟩
      obtain ⟨d0, d1, d2⟩ := HC.out _ b1
      have k1 := HB0.out.trans (b1.mono HB0.out.size)
      clear b1
      go_wp2_with fail
      refine (valid_i l p p true _ HB.out).mono ?_
      rintro e w2 ⟨rfl, b2⟩
      have k2 := k1.trans (b2.mono k1.size)
      clear d0 d1 d2 b2 k1
      go_wp2_with fail
      go_loopw [25] (fun i wr => ∃ k : Nat, k ≤ N ∧ i = .int .i64 k ∧ Hid (hits l p (L.drop k) = hits l p L) ∧ Below w.heap.size w wr) (fun i _ => N - (intOf i).toNat)
      case atStart => exact ⟨0, Nat.zero_le _, rfl, Lib.hid rfl, k2⟩
      case round =>
        obtain ⟨k, hk, rfl, HD, hb⟩ := hrel
        by_cases hlt : k < N
        · have hkx : k < L.length := by rw [HN.out]; exact hlt
          have hx? := List.getElem?_eq_getElem hkx
          obtain ⟨g, o, rfl, hg, c0, c1, c2⟩ := (H.out.below hb) k L[k] hx?
          have HO := Lib.hid (hits_drop (l := l) (p := p) hx?)
          clear hx?
          generalize L[k] = x at *
          obtain ⟨l', f, t⟩ := x
          dsimp only at c0 c1 c2
          have HBx := Lib.hid (hb.alloc hb.size (.cells #[.string l', .int .i64 f, .int .i64 t] 34))
          by_cases hl : l' = l
          · subst hl
            have hss := str_same l'
            by_cases h1 : f ≤ p
            · by_cases h2 : p ≤ t
              · have HF : Hid (r = true) := Lib.hid (by rw [HR'.out, ← HD.out, HO.out, hit_eq, decide_eq_true ⟨h1, h2⟩]; rfl)
                go_wp2_with fail
                go_ret2
                exact ⟨by rw [HZ'.out, HF.out]; rfl, HBx.out⟩
              · have HY : Hid (hit l' p ⟨l', f, t⟩ = false) := Lib.hid (by rw [hit_eq]; exact decide_eq_false (by omega))
                go_wp2_with fail
                go_roundw
                case rel => exact ⟨k + 1, by omega, by go_num, Lib.hid (by rw [← HD.out, HO.out, HY.out]; rfl), HBx.out⟩
                case measure => simp [intOf]; omega
            · have HY : Hid (hit l' p ⟨l', f, t⟩ = false) := Lib.hid (by rw [hit_eq]; exact decide_eq_false (by omega))
              go_wp2_with fail
              go_roundw
              case rel => exact ⟨k + 1, by omega, by go_num, Lib.hid (by rw [← HD.out, HO.out, HY.out]; rfl), HBx.out⟩
              case measure => simp [intOf]; omega
          · have hss := str_neq hl
            have HY : Hid (hit l p ⟨l', f, t⟩ = false) := Lib.hid (hit_ne hl)
            clear hl
            go_wp2_with fail
            go_roundw
            case rel => exact ⟨k + 1, by omega, by go_num, Lib.hid (by rw [← HD.out, HO.out, HY.out]; rfl), HBx.out⟩
            case measure => simp [intOf]; omega
        · have HF : Hid (r = false) := Lib.hid (by rw [HR'.out, ← HD.out, List.drop_eq_nil_of_le (by rw [HN.out]; omega)]; rfl)
          go_wp2_with fail
          go_ret2
          exact ⟨by rw [HZ'.out, HF.out]; rfl, hb⟩
end Go.Proofs.YtocgpoafhocbbaaDoor.Pg
