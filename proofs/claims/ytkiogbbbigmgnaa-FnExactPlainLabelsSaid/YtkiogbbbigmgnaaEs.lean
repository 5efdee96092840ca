/-
  A slice of entries: where each lies and what it reads as; contract of the laws' helper szEntryS.
-/
import Derived.Test.YtkiogbbbigmgnaaEn3
namespace Go.Proofs.Ytkiogbbbigmgnaa.Ens
open Go.RowKit Pl Strs Help Name Stands SplitPl NmPl Word Part NGood Nms
set_option linter.unusedSimpArgs false
set_option linter.unusedVariables false

/-- the entry's cells at place j of a slice -/
def En.At (e : En) (w : World) (A : Option Addr) (j : Nat) : Prop :=
  ∃ g o, A = some ⟨g, o, none⟩ ∧ g < w.heap.size ∧ w.cell? ⟨g, o + j * 14, none⟩ = some (.string e.key) ∧ w.cell? ⟨g, o + j * 14 + 1, none⟩ = some (.int .i64 e.kind) ∧ w.cell? ⟨g, o + j * 14 + 2, none⟩ = some (.slice e.auA e.auN e.auc) ∧ w.cell? ⟨g, o + j * 14 + 3, none⟩ = some (.slice e.edA e.edN e.edc) ∧ w.cell? ⟨g, o + j * 14 + 4, none⟩ = some (.string e.ti) ∧ w.cell? ⟨g, o + j * 14 + 5, none⟩ = some (.string e.co) ∧ w.cell? ⟨g, o + j * 14 + 6, none⟩ = some (.string e.pu) ∧ w.cell? ⟨g, o + j * 14 + 7, none⟩ = some (.int .i64 e.y) ∧ w.cell? ⟨g, o + j * 14 + 8, none⟩ = some (.int .i64 e.m) ∧ w.cell? ⟨g, o + j * 14 + 9, none⟩ = some (.int .i64 e.d) ∧ w.cell? ⟨g, o + j * 14 + 10, none⟩ = some (.bool e.ci) ∧ w.cell? ⟨g, o + j * 14 + 11, none⟩ = some (.int .i64 e.vol) ∧ w.cell? ⟨g, o + j * 14 + 12, none⟩ = some (.string e.pa) ∧ w.cell? ⟨g, o + j * 14 + 13, none⟩ = some (.string e.cr)
theorem En.At.below {e : En} {w w' : World} {A : Option Addr} {j : Nat} (h : e.At w A j) (hb : Below w.heap.size w w') : e.At w' A j := by
  obtain ⟨g, o, e, hg, c0, c1, c2, c3, c4, c5, c6, c7, c8, c9, c10, c11, c12, c13⟩ := h
  exact ⟨g, o, e, Nat.lt_of_lt_of_le hg hb.size, (hb.cell (p := ⟨g, o + j * 14, none⟩) hg).trans c0, (hb.cell (p := ⟨g, o + j * 14 + 1, none⟩) hg).trans c1, (hb.cell (p := ⟨g, o + j * 14 + 2, none⟩) hg).trans c2, (hb.cell (p := ⟨g, o + j * 14 + 3, none⟩) hg).trans c3, (hb.cell (p := ⟨g, o + j * 14 + 4, none⟩) hg).trans c4, (hb.cell (p := ⟨g, o + j * 14 + 5, none⟩) hg).trans c5, (hb.cell (p := ⟨g, o + j * 14 + 6, none⟩) hg).trans c6, (hb.cell (p := ⟨g, o + j * 14 + 7, none⟩) hg).trans c7, (hb.cell (p := ⟨g, o + j * 14 + 8, none⟩) hg).trans c8, (hb.cell (p := ⟨g, o + j * 14 + 9, none⟩) hg).trans c9, (hb.cell (p := ⟨g, o + j * 14 + 10, none⟩) hg).trans c10, (hb.cell (p := ⟨g, o + j * 14 + 11, none⟩) hg).trans c11, (hb.cell (p := ⟨g, o + j * 14 + 12, none⟩) hg).trans c12, (hb.cell (p := ⟨g, o + j * 14 + 13, none⟩) hg).trans c13⟩
/-- the slice at A holds the entries L -/
def RdE (w : World) (A : Option Addr) (L : List En) : Prop := ∀ (j : Nat) (x : En), L[j]? = some x → x.Rd w ∧ x.At w A j
theorem RdE.below {w w' : World} {A : Option Addr} {L : List En} (h : RdE w A L) (hb : Below w.heap.size w w') : RdE w' A L :=
  fun j x hx => ⟨(h j x hx).1.below hb, (h j x hx).2.below hb⟩
def szEs (L : List En) : Nat := (L.map En.sz).sum
theorem szEs_take {L : List En} {k : Nat} {x : En} (h : L[k]? = some x) : szEs (L.take (k + 1)) = szEs (L.take k) + x.sz := by
  unfold szEs
  rw [List.take_add_one, h, List.map_append, List.sum_append]
  simp
theorem szEs_le (L : List En) (k : Nat) : szEs (L.take k) ≤ szEs L := by
  conv => rhs; rw [← List.take_append_drop k L]
  unfold szEs
  rw [List.map_append, List.sum_append]
  omega
theorem szEs_mem {L : List En} {x : En} (h : x ∈ L) : x.sz ≤ szEs L := by
  obtain ⟨k, hk, rfl⟩ := List.getElem_of_mem h
  have := szEs_take (List.getElem?_eq_getElem hk)
  have := szEs_le L (k + 1)
  omega
/-- what szEntryS answers -/
def szEl (left : Nat) (L : List En) : Int := if L.length + szEs L ≤ left then (left : Int) - L.length - szEs L else -1

set_option maxRecDepth 100000 in
set_option maxHeartbeats 4000000 in
theorem szEntryS_any (A : Option Addr) (c N : Nat) (L : List En) (left : Nat) (w : World) (h : RdE w A L) (hn : L.length = N) (hm : N ≤ maxLen) (hx : ∀ x ∈ L, x.Lim) (hl : left ≤ 1048576) :
    Calls Try.prog 18 #[.slice A N c, .int .i64 left] w fun e w' => e = .returned (.int .i64 (szEl left L)) ∧ Below w.heap.size w w' := by
  have H := Lib.hid h
  have HN := Lib.hid hn
  have HX := Lib.hid hx
  have HZ := Lib.hid (show szEl left L = if L.length + szEs L ≤ left then (left : Int) - L.length - szEs L else -1 from rfl)
  rw [hn] at HZ
  unfold maxLen at hm
  clear h hn hx
  by_cases h0 : N ≤ left
  · go_enter Try.func18, Try.ntmps18
    go_wp2_with fail
    go_loopw [1, 5] (fun l i wr => ∃ k : Nat, k ≤ N ∧ i = .int .i64 k ∧ (∃ t : Nat, t + N + szEs (L.take k) = left ∧ l = .int .i64 t) ∧ Below w.heap.size w wr) (fun _ i _ => N - (intOf i).toNat)
    case atStart => exact ⟨0, Nat.zero_le _, rfl, ⟨left - N, by simp [szEs]; omega, by congr 1; omega⟩, Below.refl _ _⟩
    case round =>
      obtain ⟨k, hk, rfl, ⟨t, ht, rfl⟩, hb⟩ := hrel
      by_cases hlt : k < N
      · have hkx : k < L.length := by rw [HN.out]; exact hlt
        have hx? := List.getElem?_eq_getElem hkx
        obtain ⟨hr, g, o, rfl, hg, c0, c1, c2, c3, c4, c5, c6, c7, c8, c9, c10, c11, c12, c13⟩ := (H.out.below hb) k L[k] hx?
        have hlm := HX.out _ (List.getElem_mem hkx)
        have HT := Lib.hid (szEs_take hx?)
        have HLe := Lib.hid (szEs_le L (k + 1))
        clear hx?
        generalize L[k] = x at *
        have HS := Lib.hid (szEntry_any x.key x.kind x.auA x.auN x.auc x.auL x.edA x.edN x.edc x.edL x.ti x.co x.pu x.y x.m x.d x.ci x.vol x.pa x.cr t wr hr hlm (by omega))
        clear hlm hr
        have HSz : Hid (szE t x = if x.sz ≤ t then (t : Int) - x.sz else -1) := Lib.hid rfl
        have HS : Hid (Calls Try.prog 33 #[.agg #[.string x.key, .int .i64 x.kind, .slice x.auA x.auN x.auc, .slice x.edA x.edN x.edc, .string x.ti, .string x.co, .string x.pu, .int .i64 x.y, .int .i64 x.m, .int .i64 x.d, .bool x.ci, .int .i64 x.vol, .string x.pa, .string x.cr], .int .i64 t] wr fun e w' => e = .returned (.int .i64 (szE t x)) ∧ Below wr.heap.size wr w') := HS
        by_cases h1 : x.sz ≤ t
        · have e1 := HSz.out
          rw [if_pos h1] at e1
          obtain ⟨t', ht'⟩ : ∃ t' : Nat, t' + x.sz = t := ⟨t - x.sz, by omega⟩
          have e2 : (t : Int) - x.sz = (t' : Int) := by omega
          rw [e2] at e1
          rw [e1] at HS
          clear e1 e2 HSz h1
          have HT' := Lib.hid ht'
          have htl : t' ≤ 1048576 := by omega
          clear ht'
          have HTt := Lib.hid ht
          clear ht
          go_wp2_with fail
          refine HS.out.mono ?_
          rintro e w1 ⟨rfl, b1⟩
          have hb1 := hb.trans (b1.mono hb.size)
          clear b1
          go_wp2_with fail
          go_roundw
          case rel =>
            have := HT.out
            have := HTt.out
            have := HT'.out
            exact ⟨k + 1, by omega, by go_num, ⟨t', by omega, rfl⟩, hb1⟩
          case measure => simp [intOf]; omega
        · have e1 := HSz.out
          rw [if_neg h1] at e1
          rw [e1] at HS
          have HF : Hid (szEl left L = -1) := Lib.hid (by rw [HZ.out, if_neg]; have := HT.out; have := HLe.out; omega)
          clear e1 HSz h1 ht
          go_wp2_with fail
          refine HS.out.mono ?_
          rintro e w1 ⟨rfl, b1⟩
          have hb1 := hb.trans (b1.mono hb.size)
          clear b1
          go_wp2_with fail
          go_ret
          exact ⟨by rw [HF.out]; rfl, hb1⟩
      · have hkN : k = N := by omega
        have HF : Hid (szEl left L = (t : Int)) := Lib.hid (by
          have e : L.take k = L := List.take_of_length_le (by rw [HN.out]; omega)
          rw [e] at ht
          rw [HZ.out, if_pos (by omega)]
          omega)
        clear ht
        go_wp2_with fail
        go_ret
        exact ⟨by rw [HF.out]; rfl, hb⟩
  · have HF : Hid (szEl left L = -1) := Lib.hid (by rw [HZ.out, if_neg (by omega)])
    go_enter Try.func18, Try.ntmps18
    go_wp2_with fail
    go_ret
    exact ⟨by rw [HF.out]; rfl, Below.refl _ _⟩
end Go.Proofs.Ytkiogbbbigmgnaa.Ens
