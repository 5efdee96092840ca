/-
  Contracts of l2People, of slices.EqualFunc at mayBeSame, and of SamePeople of both.
-/
import Derived.Test.YtdjkgkfgnmcldaaDoorNmL
import Derived.Test.YtdjkgkfgnmcldaaDoorNmH
import Derived.Test.YtdjkgkfgnmcldaaDoorMay2
import Derived.Deep.RegionHeld3
namespace Go.Proofs.YtdjkgkfgnmcldaaDoor.Pe
open Go.RowKit Pl Strs Help Name Stands SplitPl NmPl Word Part NGood Nms Jn
open Cmp (ok_small)
set_option linter.unusedSimpArgs false
set_option linter.unusedVariables false

theorem boxes (w : World) (o o' : Obj) : Below w.heap.size w ((w.alloc o).alloc o') := ((Below.refl _ w).alloc (Nat.le_refl _) o).alloc (by simp) o'
theorem nes_of {xs : List ByteArray} {p f s : ByteArray} (h : okN xs p f s = true) : ∀ x ∈ ls xs, x ≠ [] := by
  rw [okN_eq] at h
  simp only [Bool.and_eq_true] at h
  exact fun x hx => cap_ne (List.all_eq_true.1 h.1.1.1.1 x hx)
def mayN (x y : Nm) : Bool := May.mayB x.xs x.p x.f x.s y.xs y.p y.f y.s
def zmay (L M : List Nm) : Bool := (L.zip M).all fun q => mayN q.1 q.2
/-- may two lists denote the same people -/
def peB (L M : List Nm) : Bool := decide (L.length = M.length) && zmay L M
theorem zmay_drop {L M : List Nm} {k : Nat} {x y : Nm} (hx : L[k]? = some x) (hy : M[k]? = some y) : zmay (L.drop k) (M.drop k) = (mayN x y && zmay (L.drop (k + 1)) (M.drop (k + 1))) := by
  obtain ⟨k1, e1⟩ := List.getElem?_eq_some_iff.1 hx
  obtain ⟨k2, e2⟩ := List.getElem?_eq_some_iff.1 hy
  rw [List.drop_eq_getElem_cons k1, List.drop_eq_getElem_cons k2, e1, e2]
  rfl
theorem zmay_end {L M : List Nm} {k : Nat} (h : L.length ≤ k ∨ M.length ≤ k) : zmay (L.drop k) (M.drop k) = true := by
  rcases h with h | h
  · rw [List.drop_eq_nil_of_le h]; rfl
  · rw [List.drop_eq_nil_of_le h]; unfold zmay; simp
theorem may_b (A B : Option Addr) (c d n m : Nat) (xs ys : List ByteArray) (p f s p2 f2 s2 : ByteArray) (r : Bool) (w : World) (h1 : Rdn w A n xs) (h2 : Rdn w B m ys) (hn : n ≤ 1048576) (hm : m ≤ 1048576) (hx : ∀ x ∈ ls xs, x ≠ []) (hy : ∀ x ∈ ls ys, x ≠ []) (hr : May.mayB xs p f s ys p2 f2 s2 = r) :
    Calls Tryd.prog 37 #[nmV (.slice A n c) p f s, nmV (.slice B m d) p2 f2 s2] w fun e w' => e = .returned (.bool r) ∧ Below w.heap.size w w' := by
  subst hr; exact May.l2May A B c d n m xs ys p f s p2 f2 s2 w h1 h2 hn hm hx hy
theorem may_i (A B : Option Addr) (c d n m : Nat) (xs ys : List ByteArray) (p f s p2 f2 s2 : ByteArray) (r : Bool) (w : World) (h1 : Rdn w A n xs) (h2 : Rdn w B m ys) (hn : n ≤ 1048576) (hm : m ≤ 1048576) (hx : ∀ x ∈ ls xs, x ≠ []) (hy : ∀ x ∈ ls ys, x ≠ []) (hr : May.mayB xs p f s ys p2 f2 s2 = r) :
    Calls Tryd.prog 24 #[nmV (.slice A n c) p f s, nmV (.slice B m d) p2 f2 s2] w fun e w' => e = .returned (.bool r) ∧ Below w.heap.size w w' := by
  subst hr; exact May.implMay A B c d n m xs ys p f s p2 f2 s2 w h1 h2 hn hm hx hy

set_option maxRecDepth 100000 in
set_option maxHeartbeats 4000000 in
theorem l2People (A B : Option Addr) (c d N N' : Nat) (L M : List Nm) (w : World) (h1 : RdN0 w A L) (h2 : RdN0 w B M) (hn : L.length = N) (hm : M.length = N') (hN : N ≤ 4) (hN' : N' ≤ 4) (ok1 : ∀ x ∈ L, x.ok = true) (ok2 : ∀ x ∈ M, x.ok = true) :
    Calls Tryd.prog 25 #[.slice A N c, .slice B N' d] w fun e w' => e = .returned (.bool (peB L M)) ∧ Below w.heap.size w w' := by
  have H1 := Lib.hid h1
  have H2 := Lib.hid h2
  have HN := Lib.hid hn
  have HM := Lib.hid hm
  have HK1 := Lib.hid ok1
  have HK2 := Lib.hid ok2
  have HE : Hid (peB L M = (decide (N = N') && zmay L M)) := Lib.hid (by unfold peB; rw [hn, hm])
  clear h1 h2 hn hm ok1 ok2
  go_enter Tryd.func25, Tryd.ntmps25
  go_wp2_with fail
  go_loopw [5] (fun i wr => ∃ k : Nat, k ≤ N ∧ k ≤ N' ∧ i = .int .i64 k ∧ Hid (zmay (L.drop k) (M.drop k) = zmay L M) ∧ Below w.heap.size w wr) (fun i _ => N - (intOf i).toNat)
  case atStart => exact ⟨0, Nat.zero_le _, Nat.zero_le _, rfl, Lib.hid rfl, Below.refl _ _⟩
  case round =>
    obtain ⟨k, hk, hk', rfl, HD, hb⟩ := hrel
    by_cases hlt : k < N ∧ k < N'
    · obtain ⟨hl1, hl2⟩ := hlt
      have hkx : k < L.length := by rw [HN.out]; omega
      have hky : k < M.length := by rw [HM.out]; omega
      have hx? := List.getElem?_eq_getElem hkx
      have hy? := List.getElem?_eq_getElem hky
      obtain ⟨hr, g, o, rfl, hg, a0, a1, a2, a3⟩ := (H1.out.below hb) k L[k] hx?
      obtain ⟨hr', g', o', rfl, hg', d0, d1, d2, d3⟩ := (H2.out.below hb) k M[k] hy?
      have hxk := HK1.out _ (List.getElem_mem hkx)
      have hyk := HK2.out _ (List.getElem_mem hky)
      have HO := Lib.hid (zmay_drop hx? hy?)
      clear hx? hy?
      generalize L[k] = x at *
      generalize M[k] = y at *
      obtain ⟨A1, n1, c1, xs, p, f, s⟩ := x
      obtain ⟨A2, n2, c2, ys, p2, f2, s2⟩ := y
      dsimp only at hr hr' a0 a1 a2 a3 d0 d1 d2 d3
      have ok1 : okN xs p f s = true := hxk
      have ok2 : okN ys p2 f2 s2 = true := hyk
      have hsm1 := ok_small ok1
      have hsm2 := ok_small ok2
      have hn1 := hr.2.2
      have hn2 := hr'.2.2
      have HN1 := Lib.hid (nes_of ok1)
      have HN2 := Lib.hid (nes_of ok2)
      have HR1 := Lib.hid hr
      have HR2 := Lib.hid hr'
      have hle1 : n1 ≤ 1048576 := by omega
      have hle2 : n2 ≤ 1048576 := by omega
      have HO2 : Hid (zmay (L.drop k) (M.drop k) = (May.mayB xs p f s ys p2 f2 s2 && zmay (L.drop (k + 1)) (M.drop (k + 1)))) := HO
      clear hr hr' hxk hyk ok1 ok2 hsm1 hsm2 hn1 hn2 HO
      have HS : Hid (∀ w', Kept wr w' → ((w'.cell? ⟨g, o + k * 4, none⟩ = some (.slice A1 n1 c1) ∧ w'.cell? ⟨g, o + k * 4 + 1, none⟩ = some (.string p) ∧ w'.cell? ⟨g, o + k * 4 + 2, none⟩ = some (.string f) ∧ w'.cell? ⟨g, o + k * 4 + 3, none⟩ = some (.string s) ∧ w'.cell? ⟨g', o' + k * 4, none⟩ = some (.slice A2 n2 c2) ∧ w'.cell? ⟨g', o' + k * 4 + 1, none⟩ = some (.string p2) ∧ w'.cell? ⟨g', o' + k * 4 + 2, none⟩ = some (.string f2) ∧ w'.cell? ⟨g', o' + k * 4 + 3, none⟩ = some (.string s2)) ∧ Kept wr w')) := Lib.hid (fun w' h => ⟨⟨(h.cell (p := ⟨g, o + k * 4, none⟩) hg).trans a0, (h.cell (p := ⟨g, o + k * 4 + 1, none⟩) hg).trans a1, (h.cell (p := ⟨g, o + k * 4 + 2, none⟩) hg).trans a2, (h.cell (p := ⟨g, o + k * 4 + 3, none⟩) hg).trans a3, (h.cell (p := ⟨g', o' + k * 4, none⟩) hg').trans d0, (h.cell (p := ⟨g', o' + k * 4 + 1, none⟩) hg').trans d1, (h.cell (p := ⟨g', o' + k * 4 + 2, none⟩) hg').trans d2, (h.cell (p := ⟨g', o' + k * 4 + 3, none⟩) hg').trans d3⟩, h⟩)
      have HK0 := Lib.hid (Kept.drew wr)
      clear a0 a1 a2 a3 d0 d1 d2 d3
      cases hz : May.mayB xs p f s ys p2 f2 s2 with
      | false =>
        have HZ := Lib.hid hz
        clear hz
        have HF : Hid (peB L M = false) := Lib.hid (by rw [HE.out, ← HD.out, HO2.out, HZ.out]; simp)
        go_wp2_with fail
        go_region_held3 (fun w' => (w'.cell? ⟨g, o + k * 4, none⟩ = some (.slice A1 n1 c1) ∧ w'.cell? ⟨g, o + k * 4 + 1, none⟩ = some (.string p) ∧ w'.cell? ⟨g, o + k * 4 + 2, none⟩ = some (.string f) ∧ w'.cell? ⟨g, o + k * 4 + 3, none⟩ = some (.string s) ∧ w'.cell? ⟨g', o' + k * 4, none⟩ = some (.slice A2 n2 c2) ∧ w'.cell? ⟨g', o' + k * 4 + 1, none⟩ = some (.string p2) ∧ w'.cell? ⟨g', o' + k * 4 + 2, none⟩ = some (.string f2) ∧ w'.cell? ⟨g', o' + k * 4 + 3, none⟩ = some (.string s2)) ∧ Kept wr w')
          (first | exact HS.out _ HK0.out | exact HS.out _ (by assumption))
          (first
            | (go_at_call 37; refine (may_b A1 A2 c1 c2 n1 n2 xs ys p f s p2 f2 s2 false _ (HR1.out.below HK0.out) (HR2.out.below HK0.out) hle1 hle2 HN1.out HN2.out HZ.out).mono ?_; rintro e w1 ⟨rfl, b1⟩; have hk1 : Kept wr w1 := Kept.next HK0.out b1))
        have hb1 := hb.trans (Below.mono hk1 hb.size)
        clear HS HK0 hk1 b1
        (try clear hHeld)
        go_wp2_with fail
        go_ret
        exact ⟨by rw [HF.out]; rfl, hb1⟩
      | true =>
        have HZ := Lib.hid hz
        clear hz
        go_wp2_with fail
        go_region_held3 (fun w' => (w'.cell? ⟨g, o + k * 4, none⟩ = some (.slice A1 n1 c1) ∧ w'.cell? ⟨g, o + k * 4 + 1, none⟩ = some (.string p) ∧ w'.cell? ⟨g, o + k * 4 + 2, none⟩ = some (.string f) ∧ w'.cell? ⟨g, o + k * 4 + 3, none⟩ = some (.string s) ∧ w'.cell? ⟨g', o' + k * 4, none⟩ = some (.slice A2 n2 c2) ∧ w'.cell? ⟨g', o' + k * 4 + 1, none⟩ = some (.string p2) ∧ w'.cell? ⟨g', o' + k * 4 + 2, none⟩ = some (.string f2) ∧ w'.cell? ⟨g', o' + k * 4 + 3, none⟩ = some (.string s2)) ∧ Kept wr w')
          (first | exact HS.out _ HK0.out | exact HS.out _ (by assumption))
          (first
            | (go_at_call 37; refine (may_b A1 A2 c1 c2 n1 n2 xs ys p f s p2 f2 s2 true _ (HR1.out.below HK0.out) (HR2.out.below HK0.out) hle1 hle2 HN1.out HN2.out HZ.out).mono ?_; rintro e w1 ⟨rfl, b1⟩; have hk1 : Kept wr w1 := Kept.next HK0.out b1))
        have hb1 := hb.trans (Below.mono hk1 hb.size)
        clear HS HK0 hk1 b1
        (try clear hHeld)
        go_wp2_with fail
        go_roundw
        case rel => exact ⟨k + 1, by omega, by omega, by go_num, Lib.hid (by rw [← HD.out, HO2.out, HZ.out]; rfl), hb1⟩
        case measure => simp [intOf]; omega
    · have HF : Hid (peB L M = decide (N = N')) := Lib.hid (by rw [HE.out, ← HD.out, zmay_end (by rw [HN.out, HM.out]; omega), Bool.and_true])
      by_cases hl1 : k < N
      · have hl2 : ¬ k < N' := fun h => hlt ⟨hl1, h⟩
        clear hlt
        go_wp2_with fail
        go_ret
        exact ⟨by rw [HF.out]; exact ret_bool' (by rw [Bool.eq_iff_iff]; simp <;> omega), hb⟩
      · clear hlt
        go_wp2_with fail
        go_ret
        exact ⟨by rw [HF.out]; exact ret_bool' (by rw [Bool.eq_iff_iff]; simp <;> omega), hb⟩

set_option maxRecDepth 100000 in
set_option maxHeartbeats 4000000 in
theorem equalF (A B : Option Addr) (c d N N' : Nat) (L M : List Nm) (w : World) (h1 : RdN0 w A L) (h2 : RdN0 w B M) (hn : L.length = N) (hm : M.length = N') (hN : N ≤ 4) (hN' : N' ≤ 4) (ok1 : ∀ x ∈ L, x.ok = true) (ok2 : ∀ x ∈ M, x.ok = true) :
    Calls Tryd.prog 23 #[.slice A N c, .slice B N' d, .func (.func 24) #[] #[]] w fun e w' => e = .returned (.bool (peB L M)) ∧ Below w.heap.size w w' := by
  have H1 := Lib.hid h1
  have H2 := Lib.hid h2
  have HN := Lib.hid hn
  have HM := Lib.hid hm
  have HK1 := Lib.hid ok1
  have HK2 := Lib.hid ok2
  have HE : Hid (peB L M = (decide (N = N') && zmay L M)) := Lib.hid (by unfold peB; rw [hn, hm])
  clear h1 h2 hn hm ok1 ok2
  by_cases hNN : N = N'
  · subst hNN
    rw [decide_eq_true rfl, Bool.true_and] at HE
    go_enter Tryd.func23, Tryd.ntmps23
    go_wp2_with fail
    go_loopw [17] (fun i wr => ∃ k : Nat, k ≤ N ∧ i = .int .i64 k ∧ Hid (zmay (L.drop k) (M.drop k) = zmay L M) ∧ Below w.heap.size w wr) (fun i _ => N - (intOf i).toNat)
    case atStart => exact ⟨0, Nat.zero_le _, rfl, Lib.hid rfl, Below.refl _ _⟩
    case round =>
      obtain ⟨k, hk, rfl, HD, hb⟩ := hrel
      by_cases hlt : k < N
      · have hl1 : k < N := hlt
        have hkx : k < L.length := by rw [HN.out]; omega
        have hky : k < M.length := by rw [HM.out]; omega
        have hx? := List.getElem?_eq_getElem hkx
        have hy? := List.getElem?_eq_getElem hky
        obtain ⟨hr, g, o, rfl, hg, a0, a1, a2, a3⟩ := (H1.out.below hb) k L[k] hx?
        obtain ⟨hr', g', o', rfl, hg', d0, d1, d2, d3⟩ := (H2.out.below hb) k M[k] hy?
        have hxk := HK1.out _ (List.getElem_mem hkx)
        have hyk := HK2.out _ (List.getElem_mem hky)
        have HO := Lib.hid (zmay_drop hx? hy?)
        clear hx? hy?
        generalize L[k] = x at *
        generalize M[k] = y at *
        obtain ⟨A1, n1, c1, xs, p, f, s⟩ := x
        obtain ⟨A2, n2, c2, ys, p2, f2, s2⟩ := y
        dsimp only at hr hr' a0 a1 a2 a3 d0 d1 d2 d3
        have ok1 : okN xs p f s = true := hxk
        have ok2 : okN ys p2 f2 s2 = true := hyk
        have hsm1 := ok_small ok1
        have hsm2 := ok_small ok2
        have hn1 := hr.2.2
        have hn2 := hr'.2.2
        have HN1 := Lib.hid (nes_of ok1)
        have HN2 := Lib.hid (nes_of ok2)
        have HR1 := Lib.hid hr
        have HR2 := Lib.hid hr'
        have hle1 : n1 ≤ 1048576 := by omega
        have hle2 : n2 ≤ 1048576 := by omega
        have HO2 : Hid (zmay (L.drop k) (M.drop k) = (May.mayB xs p f s ys p2 f2 s2 && zmay (L.drop (k + 1)) (M.drop (k + 1)))) := HO
        clear hr hr' hxk hyk ok1 ok2 hsm1 hsm2 hn1 hn2 HO
        have bb := boxes wr (.cells #[.slice A1 n1 c1, .string p, .string f, .string s] 43) (.cells #[.slice A2 n2 c2, .string p2, .string f2, .string s2] 43)
        have HR1b := Lib.hid (HR1.out.below bb)
        have HR2b := Lib.hid (HR2.out.below bb)
        have hbb := hb.trans (bb.mono hb.size)
        have d0' := ((Below.refl _ wr).alloc (Nat.le_refl _) (.cells #[.slice A1 n1 c1, .string p, .string f, .string s] 43)).cell (p := ⟨g', o' + k * 4, none⟩) hg'
        have d1' := ((Below.refl _ wr).alloc (Nat.le_refl _) (.cells #[.slice A1 n1 c1, .string p, .string f, .string s] 43)).cell (p := ⟨g', o' + k * 4 + 1, none⟩) hg'
        have d2' := ((Below.refl _ wr).alloc (Nat.le_refl _) (.cells #[.slice A1 n1 c1, .string p, .string f, .string s] 43)).cell (p := ⟨g', o' + k * 4 + 2, none⟩) hg'
        have d3' := ((Below.refl _ wr).alloc (Nat.le_refl _) (.cells #[.slice A1 n1 c1, .string p, .string f, .string s] 43)).cell (p := ⟨g', o' + k * 4 + 3, none⟩) hg'
        rw [d0] at d0'
        rw [d1] at d1'
        rw [d2] at d2'
        rw [d3] at d3'
        have HCa := Lib.hid ((C4.new wr (.slice A1 n1 c1) p f s 43).below ((Below.refl _ _).alloc (Nat.le_refl _) (.cells #[.slice A2 n2 c2, .string p2, .string f2, .string s2] 43)))
        cases hz : May.mayB xs p f s ys p2 f2 s2 with
        | false =>
          have HZ := Lib.hid hz
          clear hz bb
          have HF : Hid (peB L M = false) := Lib.hid (by rw [HE.out, ← HD.out, HO2.out, HZ.out]; rfl)
          obtain ⟨la, ca0, ca1, ca2, ca3⟩ := HCa.out
          go_wp2_with fail
          refine (may_i A1 A2 c1 c2 n1 n2 xs ys p f s p2 f2 s2 false _ HR1b.out HR2b.out hle1 hle2 HN1.out HN2.out HZ.out).mono ?_
          rintro e w1 ⟨rfl, b1⟩
          have hb1 := hbb.trans (b1.mono hbb.size)
          go_wp2_with fail
          go_ret
          exact ⟨by rw [HF.out]; rfl, hb1⟩
        | true =>
          have HZ := Lib.hid hz
          clear hz bb
          obtain ⟨la, ca0, ca1, ca2, ca3⟩ := HCa.out
          go_wp2_with fail
          refine (may_i A1 A2 c1 c2 n1 n2 xs ys p f s p2 f2 s2 true _ HR1b.out HR2b.out hle1 hle2 HN1.out HN2.out HZ.out).mono ?_
          rintro e w1 ⟨rfl, b1⟩
          have hb1 := hbb.trans (b1.mono hbb.size)
          go_wp2_with fail
          go_roundw
          case rel => exact ⟨k + 1, by omega, by go_num, Lib.hid (by rw [← HD.out, HO2.out, HZ.out]; rfl), hb1⟩
          case measure => simp [intOf]; omega
      · have HF : Hid (peB L M = true) := Lib.hid (by rw [HE.out, ← HD.out, zmay_end (by rw [HN.out]; omega)])
        go_wp2_with fail
        go_ret
        exact ⟨by rw [HF.out]; rfl, hb⟩
  · rw [decide_eq_false hNN, Bool.false_and] at HE
    have hne : ((N : Int) != (N' : Int)) = true := by simp; omega
    go_enter Tryd.func23, Tryd.ntmps23
    go_wp2_with fail
    go_ret
    exact ⟨by rw [HE.out]; rfl, Below.refl _ _⟩

/-- what SamePeople answers -/
def spV (L M : List Nm) : Value := if okL L = true ∧ okL M = true then .tuple #[.bool (peB L M), .bool true] else .tuple #[.bool false, .bool false]
theorem spV_form (L M : List Nm) : ∃ a b, spV L M = .tuple #[.bool a, .bool b] := by unfold spV; split <;> exact ⟨_, _, rfl⟩
theorem zmay_key (L M : List Nm) : zmay L M = ((L.map Nm.key).zip (M.map Nm.key)).all fun q => May.mayB q.1.1 q.1.2.1 q.1.2.2.1 q.1.2.2.2 q.2.1 q.2.2.1 q.2.2.2.1 q.2.2.2.2 := by
  unfold zmay
  rw [List.zip_map, List.all_map]
  rfl
theorem all_key (L : List Nm) : L.all Nm.ok = (L.map Nm.key).all fun k => okN k.1 k.2.1 k.2.2.1 k.2.2.2 := by
  rw [List.all_map]; rfl
theorem okL_k {L M : List Nm} (h : L.map Nm.key = M.map Nm.key) : okL L = okL M := by
  unfold okL
  rw [all_key, all_key, h, len_of_key h]
theorem spV_key {L M L' M' : List Nm} (h : L.map Nm.key = L'.map Nm.key) (h' : M.map Nm.key = M'.map Nm.key) : spV L M = spV L' M' := by
  unfold spV peB
  rw [okL_k h, okL_k h', zmay_key, zmay_key, h, h', len_of_key h, len_of_key h']

set_option maxHeartbeats 4000000 in
theorem specPeople (A B : Option Addr) (c d N N' : Nat) (L M : List Nm) (w : World) (h1 : RdN0 w A L) (h2 : RdN0 w B M) (hn : L.length = N) (hm : M.length = N') (hN : N ≤ 1048576) (hN' : N' ≤ 1048576) (hz : ∀ x ∈ L, x.sz ≤ 1048576) (hz' : ∀ x ∈ M, x.sz ≤ 1048576) :
    Calls Tryd.prog 10 #[.slice A N c, .slice B N' d] w fun e w' => e = .returned (spV L M) ∧ Below w.heap.size w w' := by
  have HL1 := Lib.hid (l2List A c N L w h1 hn hN hz)
  have HL2 := Lib.hid (fun w' (hk : Below w.heap.size w w') => l2List B d N' M w' (h2.below hk) hm hN' hz')
  have H1 := Lib.hid h1
  have H2 := Lib.hid h2
  cases k1 : okL L with
  | false =>
    have HE : Hid (spV L M = .tuple #[.bool false, .bool false]) := Lib.hid (if_neg (fun h => by rw [k1] at h; cases h.1))
    rw [k1] at HL1
    clear h1 h2 k1
    go_enter Tryd.func10, Tryd.ntmps10
    go_wp2_with fail
    refine HL1.out.mono ?_
    rintro e w1 ⟨rfl, b1⟩
    go_wp2_with fail
    go_ret2
    exact ⟨by rw [HE.out]; rfl, b1⟩
  | true =>
    rw [k1] at HL1
    cases k2 : okL M with
    | false =>
      have HE : Hid (spV L M = .tuple #[.bool false, .bool false]) := Lib.hid (if_neg (fun h => by rw [k2] at h; cases h.2))
      rw [k2] at HL2
      clear h1 h2 k1 k2
      go_enter Tryd.func10, Tryd.ntmps10
      go_wp2_with fail
      refine HL1.out.mono ?_
      rintro e w1 ⟨rfl, b1⟩
      go_wp2_with fail
      refine (HL2.out _ b1).mono ?_
      rintro e w2 ⟨rfl, b2⟩
      have k2 := b1.trans (b2.mono b1.size)
      go_wp2_with fail
      go_ret2
      exact ⟨by rw [HE.out]; rfl, k2⟩
    | true =>
      rw [k2] at HL2
      have HE : Hid (spV L M = .tuple #[.bool (peB L M), .bool true]) := Lib.hid (if_pos ⟨k1, k2⟩)
      obtain ⟨a1, a2⟩ := okL_yes k1
      obtain ⟨c1, c2⟩ := okL_yes k2
      have HP := Lib.hid (fun w' (hk : Below w.heap.size w w') => l2People A B c d N N' L M w' (H1.out.below hk) (H2.out.below hk) hn hm (by omega) (by omega) a2 c2)
      clear h1 h2 k1 k2 a1 a2 c1 c2
      generalize peB L M = r at *
      go_enter Tryd.func10, Tryd.ntmps10
      go_wp2_with fail
      refine HL1.out.mono ?_
      rintro e w1 ⟨rfl, b1⟩
      go_wp2_with fail
      refine (HL2.out _ b1).mono ?_
      rintro e w2 ⟨rfl, b2⟩
      have k2 := b1.trans (b2.mono b1.size)
      go_wp2_with fail
      refine (HP.out _ k2).mono ?_
      rintro e w3 ⟨rfl, b3⟩
      have k3 := k2.trans (b3.mono k2.size)
      go_wp2_with fail
      go_ret2
      exact ⟨by rw [HE.out]; rfl, k3⟩

set_option maxHeartbeats 4000000 in
theorem implPeople (A B : Option Addr) (c d N N' : Nat) (L M : List Nm) (w : World) (h1 : RdN0 w A L) (h2 : RdN0 w B M) (hn : L.length = N) (hm : M.length = N') (hN : N ≤ 1048576) (hN' : N' ≤ 1048576) (hz : ∀ x ∈ L, x.sz ≤ 1048576) (hz' : ∀ x ∈ M, x.sz ≤ 1048576) :
    Calls Tryd.prog 9 #[.slice A N c, .slice B N' d] w fun e w' => e = .returned (spV L M) ∧ Below w.heap.size w w' := by
  have lim : ∀ (K : List Nm) (C : Option Addr), RdN0 w C K → (∀ x ∈ K, x.sz ≤ 1048576) → ∀ x ∈ K, x.n ≤ 1048576 ∧ x.p.size ≤ 1048576 := fun K C h hz x hx => by
    have h1 := hz x hx
    obtain ⟨k, hk, rfl⟩ := List.getElem_of_mem hx
    have h2 := (h k _ (List.getElem?_eq_getElem hk)).1.2.2
    unfold Nm.sz at h1
    omega
  have l1 := lim L A h1 hz
  have l2 := lim M B h2 hz'
  have HL1 := Lib.hid (isList A c N L w (h1.sized l1) hn hN)
  have HL2 := Lib.hid (fun w' (hk : Below w.heap.size w w') => isList B d N' M w' ((h2.below hk).sized l2) hm hN')
  have H1 := Lib.hid h1
  have H2 := Lib.hid h2
  cases k1 : okL L with
  | false =>
    have HE : Hid (spV L M = .tuple #[.bool false, .bool false]) := Lib.hid (if_neg (fun h => by rw [k1] at h; cases h.1))
    rw [k1] at HL1
    clear h1 h2 k1
    go_enter Tryd.func9, Tryd.ntmps9
    go_wp2_with fail
    refine HL1.out.mono ?_
    rintro e w1 ⟨rfl, b1⟩
    go_wp2_with fail
    go_ret2
    exact ⟨by rw [HE.out]; rfl, b1⟩
  | true =>
    rw [k1] at HL1
    cases k2 : okL M with
    | false =>
      have HE : Hid (spV L M = .tuple #[.bool false, .bool false]) := Lib.hid (if_neg (fun h => by rw [k2] at h; cases h.2))
      rw [k2] at HL2
      clear h1 h2 k1 k2
      go_enter Tryd.func9, Tryd.ntmps9
      go_wp2_with fail
      refine HL1.out.mono ?_
      rintro e w1 ⟨rfl, b1⟩
      go_wp2_with fail
      refine (HL2.out _ b1).mono ?_
      rintro e w2 ⟨rfl, b2⟩
      have k2 := b1.trans (b2.mono b1.size)
      go_wp2_with fail
      go_ret2
      exact ⟨by rw [HE.out]; rfl, k2⟩
    | true =>
      rw [k2] at HL2
      have HE : Hid (spV L M = .tuple #[.bool (peB L M), .bool true]) := Lib.hid (if_pos ⟨k1, k2⟩)
      obtain ⟨a1, a2⟩ := okL_yes k1
      obtain ⟨c1, c2⟩ := okL_yes k2
      have HP := Lib.hid (fun w' (hk : Below w.heap.size w w') => equalF A B c d N N' L M w' (H1.out.below hk) (H2.out.below hk) hn hm (by omega) (by omega) a2 c2)
      clear h1 h2 k1 k2 a1 a2 c1 c2
      generalize peB L M = r at *
      go_enter Tryd.func9, Tryd.ntmps9
      go_wp2_with fail
      refine HL1.out.mono ?_
      rintro e w1 ⟨rfl, b1⟩
      go_wp2_with fail
      refine (HL2.out _ b1).mono ?_
      rintro e w2 ⟨rfl, b2⟩
      have k2 := b1.trans (b2.mono b1.size)
      go_wp2_with fail
      refine (HP.out _ k2).mono ?_
      rintro e w3 ⟨rfl, b3⟩
      have k3 := k2.trans (b3.mono k2.size)
      go_wp2_with fail
      go_ret2
      exact ⟨by rw [HE.out]; rfl, k3⟩
end Go.Proofs.YtdjkgkfgnmcldaaDoor.Pe
