/-
  Contracts of impl.mayBeSame and spec.l2May.
-/
import Derived.Test.YtdjkgkfgnmcldaaDoorMay
import Derived.Deep.QuietTactic
import Derived.BigQuiet
namespace Go.Proofs.YtdjkgkfgnmcldaaDoor.May
open Go.RowKit Pl Strs Help Name Stands SplitPl NmPl Word Part NGood

def zfit (a b : List (List UInt8)) : Bool := (a.zip b).all fun q => fitB q.1 q.2
theorem zfit_drop {xs ys : List ByteArray} {k : Nat} {x y : ByteArray} (hx : xs[k]? = some x) (hy : ys[k]? = some y) : zfit ((ls xs).drop k) ((ls ys).drop k) = (fitB x.data.toList y.data.toList && zfit ((ls xs).drop (k + 1)) ((ls ys).drop (k + 1))) := by
  have h1 : (ls xs)[k]? = some x.data.toList := by simp [ls, hx]
  have h2 : (ls ys)[k]? = some y.data.toList := by simp [ls, hy]
  obtain ⟨k1, e1⟩ := List.getElem?_eq_some_iff.1 h1
  obtain ⟨k2, e2⟩ := List.getElem?_eq_some_iff.1 h2
  rw [List.drop_eq_getElem_cons k1, List.drop_eq_getElem_cons k2, e1, e2]
  rfl
theorem zfit_end {xs ys : List ByteArray} {k : Nat} (h : xs.length ≤ k ∨ ys.length ≤ k) : zfit ((ls xs).drop k) ((ls ys).drop k) = true := by
  rcases h with h | h
  · rw [List.drop_eq_nil_of_le (by rw [ls_len]; exact h)]; rfl
  · have : (ls ys).drop k = [] := List.drop_eq_nil_of_le (by rw [ls_len]; exact h)
    rw [this]; unfold zfit; simp
def mayB (xs : List ByteArray) (p f s : ByteArray) (ys : List ByteArray) (p2 f2 s2 : ByteArray) : Bool := zfit (ls xs) (ls ys) && decide (p = p2) && decide (f = f2) && decide (s = s2)
/-- the words at one place are there -/
theorem nes_at {xs : List ByteArray} (h : ∀ x ∈ ls xs, x ≠ []) {k : Nat} {x : ByteArray} (hx : xs[k]? = some x) : x.data.toList ≠ [] :=
  h _ (by unfold ls; exact List.mem_map.2 ⟨x, List.mem_of_getElem? hx, rfl⟩)

theorem sameWord_q (a b : ByteArray) (r : Bool) (w : World) (ha : a.data.toList ≠ []) (hb : b.data.toList ≠ []) (hr : fitB a.data.toList b.data.toList = r) :
    Calls Tryd.prog 36 #[.string a, .string b] w fun e w' => e = .returned (.bool r) ∧ w' = w := by
  subst hr; exact (sameWord a b w ha hb).mono fun _ _ ⟨he, hw⟩ => ⟨he, hw.symm⟩
theorem l2Fits_r (a b : ByteArray) (r : Bool) (w : World) (ha : a.data.toList ≠ []) (hb : b.data.toList ≠ []) (hr : fitB a.data.toList b.data.toList = r) :
    Calls Tryd.prog 49 #[.string a, .string b] w fun e w' => e = .returned (.bool r) ∧ ∃ q, w' = w.drewN q := by
  subst hr; exact l2Fits a b w ha hb

set_option maxHeartbeats 4000000 in
theorem implMay (A B : Option Addr) (c d n m : Nat) (xs ys : List ByteArray) (p f s p2 f2 s2 : ByteArray) (w : World) (h1 : Rdn w A n xs) (h2 : Rdn w B m ys) (hn : n ≤ 1048576) (_hm : m ≤ 1048576) (hx : ∀ x ∈ ls xs, x ≠ []) (hy : ∀ x ∈ ls ys, x ≠ []) :
    Calls Tryd.prog 24 #[nmV (.slice A n c) p f s, nmV (.slice B m d) p2 f2 s2] w fun e w' => e = .returned (.bool (mayB xs p f s ys p2 f2 s2)) ∧ Below w.heap.size w w' := by
  have HB := Lib.hid (((Below.refl _ w).alloc (Nat.le_refl _) (.cells #[.slice A n c, .string p, .string f, .string s] 43)).alloc (by simp) (.cells #[.slice B m d, .string p2, .string f2, .string s2] 43))
  have R1 := Lib.hid (h1.below HB.out)
  have R2 := Lib.hid (h2.below HB.out)
  have HX := Lib.hid hx
  have HY := Lib.hid hy
  have HE := Lib.hid (show mayB xs p f s ys p2 f2 s2 = (zfit (ls xs) (ls ys) && decide (p = p2) && decide (f = f2) && decide (s = s2)) from rfl)
  clear h1 h2 hx hy
  by_cases e1 : p = p2
  · subst e1
    by_cases e2 : f = f2
    · subst e2
      by_cases e3 : s = s2
      · subst e3
        have HZ : Hid (mayB xs p f s ys p f s = zfit (ls xs) (ls ys)) := Lib.hid (by rw [HE.out]; simp)
        clear HE
        obtain ⟨mn, HMn⟩ : ∃ mn : Nat, Hid (mn = min n m) := ⟨_, Lib.hid rfl⟩
        have hmn1 : mn ≤ n := by rw [HMn.out]; omega
        have hmn2 : mn ≤ m := by rw [HMn.out]; omega
        have hmin : min (n : Int) (m : Int) = (mn : Int) := by rw [HMn.out]; omega
        go_enter Tryd.func24, Tryd.ntmps24
        go_wp2_with fail
        clear hmin
        have HCa := Lib.hid ((C4.new w (.slice A n c) p f s 43).below ((Below.refl _ _).alloc (Nat.le_refl _) (.cells #[.slice B m d, .string p, .string f, .string s] 43)))
        have HCb : Hid (C4 ((w.alloc (.cells #[.slice A n c, .string p, .string f, .string s] 43)).alloc (.cells #[.slice B m d, .string p, .string f, .string s] 43)) (w.heap.size + 1) (.slice B m d) p f s) := Lib.hid (by
          have := C4.new (w.alloc (.cells #[.slice A n c, .string p, .string f, .string s] 43)) (.slice B m d) p f s 43
          simpa using this)
        generalize (w.alloc (.cells #[.slice A n c, .string p, .string f, .string s] 43)).alloc (.cells #[.slice B m d, .string p, .string f, .string s] 43) = W0 at *
        go_loopw [32] (fun i wr => ∃ k : Nat, k ≤ mn ∧ i = .int .i64 k ∧ Hid (zfit ((ls xs).drop k) ((ls ys).drop k) = zfit (ls xs) (ls ys)) ∧ Hid (∃ q, wr = W0.drewN q)) (fun i _ => mn - (intOf i).toNat)
        case atStart => exact ⟨0, Nat.zero_le _, rfl, Lib.hid rfl, Lib.hid ⟨0, rfl⟩⟩
        case round =>
          obtain ⟨k, hk, rfl, HD, HW⟩ := hrel
          by_cases hlt : k < mn
          · have hkx : k < xs.length := by rw [R1.out.2.2]; omega
            have hky : k < ys.length := by rw [R2.out.2.2]; omega
            have hx? := List.getElem?_eq_getElem hkx
            have hy? := List.getElem?_eq_getElem hky
            obtain ⟨g, o, rfl, hc0⟩ := R1.out.1 k xs[k] hx?
            obtain ⟨g2, o2, rfl, hd0⟩ := R2.out.1 k ys[k] hy?
            have hc : wr.cell? ⟨g, o + k, none⟩ = some (.string xs[k]) := by obtain ⟨q, rfl⟩ := HW.out; exact hc0
            have hd : wr.cell? ⟨g2, o2 + k, none⟩ = some (.string ys[k]) := by obtain ⟨q, rfl⟩ := HW.out; exact hd0
            have ha0 : wr.cell? ⟨w.heap.size, 0, none⟩ = some (.slice (some ⟨g, o, none⟩) n c) := by obtain ⟨q, rfl⟩ := HW.out; exact HCa.out.2.1
            have hb0 : wr.cell? ⟨w.heap.size + 1, 0, none⟩ = some (.slice (some ⟨g2, o2, none⟩) m d) := by obtain ⟨q, rfl⟩ := HW.out; exact HCb.out.2.1
            have HZd := Lib.hid (zfit_drop hx? hy?)
            have HNx := Lib.hid (nes_at HX.out hx?)
            have HNy := Lib.hid (nes_at HY.out hy?)
            clear hx? hy? hc0 hd0
            generalize xs[k] = x at *
            generalize ys[k] = y at *
            cases hf : fitB x.data.toList y.data.toList with
            | false =>
              have HFt := Lib.hid hf
              clear hf
              have HF : Hid (mayB xs p f s ys p f s = false) := Lib.hid (by rw [HZ.out, ← HD.out, HZd.out, HFt.out]; rfl)
              go_wp2_with fail
              go_quiet ((go_at_call 36; exact Calls.quiet_of_same (sameWord_q x y false _ HNx.out HNy.out HFt.out)))
              go_wp2_with fail
              go_ret
              refine ⟨by rw [HF.out]; rfl, ?_⟩
              obtain ⟨q, rfl⟩ := HW.out
              have b := HB.out
              exact ⟨b.os, b.tape, b.output, b.size, b.block⟩
            | true =>
              have HFt := Lib.hid hf
              clear hf
              go_wp2_with fail
              go_quiet ((go_at_call 36; exact Calls.quiet_of_same (sameWord_q x y true _ HNx.out HNy.out HFt.out)))
              go_wp2_with fail
              go_roundw
              case rel =>
                refine ⟨k + 1, by omega, by go_num, Lib.hid (by rw [← HD.out, HZd.out, HFt.out]; rfl), Lib.hid ?_⟩
                obtain ⟨q, rfl⟩ := HW.out
                exact ⟨_, World.drewN_drewN _ _ _⟩
              case measure => simp [intOf]; omega
          · have HX2 : Hid (mayB xs p f s ys p f s = true) := Lib.hid (by
              rw [HZ.out, ← HD.out, zfit_end (by rw [R1.out.2.2, R2.out.2.2]; have := HMn.out; omega)])
            go_wp2_with fail
            go_ret
            refine ⟨by rw [HX2.out]; rfl, ?_⟩
            obtain ⟨q, rfl⟩ := HW.out
            have b := HB.out
            exact ⟨b.os, b.tape, b.output, b.size, b.block⟩
      · have hne := ne_str e3
        have HF : Hid (mayB xs p f s ys p f s2 = false) := Lib.hid (by rw [HE.out, decide_eq_false e3]; simp)
        clear e3 HE
        go_enter Tryd.func24, Tryd.ntmps24
        go_wp2_with fail
        go_ret
        exact ⟨by rw [HF.out]; rfl, HB.out⟩
    · have hne := ne_str e2
      have HF : Hid (mayB xs p f s ys p f2 s2 = false) := Lib.hid (by rw [HE.out, decide_eq_false e2]; simp)
      clear e2 HE
      go_enter Tryd.func24, Tryd.ntmps24
      go_wp2_with fail
      go_ret
      exact ⟨by rw [HF.out]; rfl, HB.out⟩
  · have hne := ne_str e1
    have HF : Hid (mayB xs p f s ys p2 f2 s2 = false) := Lib.hid (by rw [HE.out, decide_eq_false e1]; simp)
    clear e1 HE
    go_enter Tryd.func24, Tryd.ntmps24
    go_wp2_with fail
    go_ret
    exact ⟨by rw [HF.out]; rfl, HB.out⟩

set_option maxHeartbeats 4000000 in
theorem l2May (A B : Option Addr) (c d n m : Nat) (xs ys : List ByteArray) (p f s p2 f2 s2 : ByteArray) (w : World) (h1 : Rdn w A n xs) (h2 : Rdn w B m ys) (hn : n ≤ 1048576) (_hm : m ≤ 1048576) (hx : ∀ x ∈ ls xs, x ≠ []) (hy : ∀ x ∈ ls ys, x ≠ []) :
    Calls Tryd.prog 37 #[nmV (.slice A n c) p f s, nmV (.slice B m d) p2 f2 s2] w fun e w' => e = .returned (.bool (mayB xs p f s ys p2 f2 s2)) ∧ Below w.heap.size w w' := by
  have HB := Lib.hid (((Below.refl _ w).alloc (Nat.le_refl _) (.cells #[.slice A n c, .string p, .string f, .string s] 43)).alloc (by simp) (.cells #[.slice B m d, .string p2, .string f2, .string s2] 43))
  have R1 := Lib.hid (h1.below HB.out)
  have R2 := Lib.hid (h2.below HB.out)
  have HX := Lib.hid hx
  have HY := Lib.hid hy
  have HE := Lib.hid (show mayB xs p f s ys p2 f2 s2 = (zfit (ls xs) (ls ys) && decide (p = p2) && decide (f = f2) && decide (s = s2)) from rfl)
  clear h1 h2 hx hy
  have HCa := Lib.hid ((C4.new w (.slice A n c) p f s 43).below ((Below.refl _ _).alloc (Nat.le_refl _) (.cells #[.slice B m d, .string p2, .string f2, .string s2] 43)))
  have HCb : Hid (C4 ((w.alloc (.cells #[.slice A n c, .string p, .string f, .string s] 43)).alloc (.cells #[.slice B m d, .string p2, .string f2, .string s2] 43)) (w.heap.size + 1) (.slice B m d) p2 f2 s2) := Lib.hid (by
    have := C4.new (w.alloc (.cells #[.slice A n c, .string p, .string f, .string s] 43)) (.slice B m d) p2 f2 s2 43
    simpa using this)
  go_enter Tryd.func37, Tryd.ntmps37
  go_wp2_with fail
  generalize (w.alloc (.cells #[.slice A n c, .string p, .string f, .string s] 43)).alloc (.cells #[.slice B m d, .string p2, .string f2, .string s2] 43) = W0 at *
  go_loopw [5] (fun i wr => ∃ k : Nat, k ≤ n ∧ k ≤ m ∧ i = .int .i64 k ∧ Hid (zfit ((ls xs).drop k) ((ls ys).drop k) = zfit (ls xs) (ls ys)) ∧ Hid (∃ q, wr = W0.drewN q)) (fun i _ => n - (intOf i).toNat)
  case atStart => exact ⟨0, Nat.zero_le _, Nat.zero_le _, rfl, Lib.hid rfl, Lib.hid ⟨0, rfl⟩⟩
  case round =>
    obtain ⟨k, hk1, hk2, rfl, HD, HW⟩ := hrel
    have HCa' : Hid (C4 wr w.heap.size (.slice A n c) p f s) := by obtain ⟨q, rfl⟩ := HW.out; exact HCa
    have HCb' : Hid (C4 wr (w.heap.size + 1) (.slice B m d) p2 f2 s2) := by obtain ⟨q, rfl⟩ := HW.out; exact HCb
    obtain ⟨la, ha0, ha1, ha2, ha3⟩ := HCa'.out
    obtain ⟨lb, hb0, hb1, hb2, hb3⟩ := HCb'.out
    have HBw : Hid (∀ q, Below w.heap.size w (wr.drewN q)) := Lib.hid (fun q => by obtain ⟨q', rfl⟩ := HW.out; have b := HB.out; exact ⟨b.os, b.tape, b.output, b.size, b.block⟩)
    by_cases hlt : k < n ∧ k < m
    · obtain ⟨hl1, hl2⟩ := hlt
      have hkx : k < xs.length := by rw [R1.out.2.2]; omega
      have hky : k < ys.length := by rw [R2.out.2.2]; omega
      have hx? := List.getElem?_eq_getElem hkx
      have hy? := List.getElem?_eq_getElem hky
      obtain ⟨g, o, rfl, hc0⟩ := R1.out.1 k xs[k] hx?
      obtain ⟨g2, o2, rfl, hd0⟩ := R2.out.1 k ys[k] hy?
      have hc : wr.cell? ⟨g, o + k, none⟩ = some (.string xs[k]) := by obtain ⟨q, rfl⟩ := HW.out; exact hc0
      have hd : wr.cell? ⟨g2, o2 + k, none⟩ = some (.string ys[k]) := by obtain ⟨q, rfl⟩ := HW.out; exact hd0
      have HZd := Lib.hid (zfit_drop hx? hy?)
      have HNx := Lib.hid (nes_at HX.out hx?)
      have HNy := Lib.hid (nes_at HY.out hy?)
      clear hx? hy? hc0 hd0 ha1 ha2 ha3 hb1 hb2 hb3
      generalize xs[k] = x at *
      generalize ys[k] = y at *
      cases hf : fitB x.data.toList y.data.toList with
      | false =>
        have HFt := Lib.hid hf
        clear hf
        have HF : Hid (mayB xs p f s ys p2 f2 s2 = false) := Lib.hid (by rw [HE.out, ← HD.out, HZd.out, HFt.out]; rfl)
        go_wp2_with fail
        go_quiet ((go_at_call 49; exact Calls.quiet_of (l2Fits_r x y false _ HNx.out HNy.out HFt.out)))
        go_wp2_with fail
        go_ret
        exact ⟨by rw [HF.out]; rfl, HBw.out _⟩
      | true =>
        have HFt := Lib.hid hf
        clear hf
        go_wp2_with fail
        go_quiet ((go_at_call 49; exact Calls.quiet_of (l2Fits_r x y true _ HNx.out HNy.out HFt.out)))
        go_wp2_with fail
        go_roundw
        case rel =>
          refine ⟨k + 1, by omega, by omega, by go_num, Lib.hid (by rw [← HD.out, HZd.out, HFt.out]; rfl), Lib.hid ?_⟩
          obtain ⟨q, rfl⟩ := HW.out
          exact ⟨_, World.drewN_drewN _ _ _⟩
        case measure => simp [intOf]; omega
    · have HZ : Hid (mayB xs p f s ys p2 f2 s2 = (decide (p = p2) && decide (f = f2) && decide (s = s2))) := Lib.hid (by
        rw [HE.out, ← HD.out, zfit_end (by rw [R1.out.2.2, R2.out.2.2]; omega)]; rfl)
      have hwb := HBw.out 0
      have HWb := Lib.hid hwb
      clear hwb
      clear HE HD HBw
      have hstop : (k < n → ¬ k < m) := fun h1 h2 => hlt ⟨h1, h2⟩
      clear hlt
      by_cases hl1 : k < n
      · have hl2 : ¬ k < m := hstop hl1
        clear hstop
        by_cases e1 : p = p2
        · subst e1
          by_cases e2 : f = f2
          · subst e2
            by_cases e3 : s = s2
            · subst e3
              go_wp2_with fail
              go_ret
              exact ⟨by rw [HZ.out]; simp, HWb.out⟩
            · have hne := ne_str e3
              have HF : Hid (mayB xs p f s ys p f s2 = false) := Lib.hid (by rw [HZ.out, decide_eq_false e3]; simp)
              clear e3
              go_wp2_with fail
              go_ret
              exact ⟨by rw [HF.out]; rfl, HWb.out⟩
          · have hne := ne_str e2
            have HF : Hid (mayB xs p f s ys p f2 s2 = false) := Lib.hid (by rw [HZ.out, decide_eq_false e2]; simp)
            clear e2
            go_wp2_with fail
            go_ret
            exact ⟨by rw [HF.out]; rfl, HWb.out⟩
        · have hne := ne_str e1
          have HF : Hid (mayB xs p f s ys p2 f2 s2 = false) := Lib.hid (by rw [HZ.out, decide_eq_false e1]; simp)
          clear e1
          go_wp2_with fail
          go_ret
          exact ⟨by rw [HF.out]; rfl, HWb.out⟩
      · clear hstop
        by_cases e1 : p = p2
        · subst e1
          by_cases e2 : f = f2
          · subst e2
            by_cases e3 : s = s2
            · subst e3
              go_wp2_with fail
              go_ret
              exact ⟨by rw [HZ.out]; simp, HWb.out⟩
            · have hne := ne_str e3
              have HF : Hid (mayB xs p f s ys p f s2 = false) := Lib.hid (by rw [HZ.out, decide_eq_false e3]; simp)
              clear e3
              go_wp2_with fail
              go_ret
              exact ⟨by rw [HF.out]; rfl, HWb.out⟩
          · have hne := ne_str e2
            have HF : Hid (mayB xs p f s ys p f2 s2 = false) := Lib.hid (by rw [HZ.out, decide_eq_false e2]; simp)
            clear e2
            go_wp2_with fail
            go_ret
            exact ⟨by rw [HF.out]; rfl, HWb.out⟩
        · have hne := ne_str e1
          have HF : Hid (mayB xs p f s ys p2 f2 s2 = false) := Lib.hid (by rw [HZ.out, decide_eq_false e1]; simp)
          clear e1
          go_wp2_with fail
          go_ret
          exact ⟨by rw [HF.out]; rfl, HWb.out⟩
end Go.Proofs.YtdjkgkfgnmcldaaDoor.May
