/-
  Contracts of impl.IsValidName, spec.l2Good and spec.IsValidName.
-/
import Derived.Test.YteccmlpibbchbaaGreatDoorName
import Derived.Test.YteccmlpibbchbaaGreatDoorPart
namespace Go.Proofs.YteccmlpibbchbaaGreatDoor.NGood
open Go.RowKit Pl Strs Help Name Stands SplitPl NmPl Word Part

theorem str_ne {s : ByteArray} (h : s.data.toList ≠ []) : (s.toList == []) = false ∧ s.toList.isEmpty = false := by
  rw [beq_eq_false_iff_ne, Lib.toList_data, List.isEmpty_eq_false_iff]; exact ⟨h, h⟩
theorem str_nil {s : ByteArray} (h : s.data.toList = []) : s = ⟨#[]⟩ := by
  apply ByteArray.ext; apply Array.ext'; rw [h]
/-- the parts of a name as lists -/
def ls (xs : List ByteArray) : List (List UInt8) := xs.map (·.data.toList)
theorem ls_len (xs : List ByteArray) : (ls xs).length = xs.length := by simp [ls]
def okN (xs : List ByteArray) (p f s : ByteArray) : Bool := goodB (ls xs) p.data.toList f.data.toList s.data.toList
theorem okN_eq (xs : List ByteArray) (p f s : ByteArray) : okN xs p f s = ((ls xs).all capB && decide (xs.length ≤ 3) && partE p.data.toList && capB f.data.toList && (s.data.toList.isEmpty || wordB s.data.toList)) := by
  unfold okN goodB partE; rw [ls_len]
theorem caps_drop {xs : List ByteArray} {k : Nat} {x : ByteArray} (h : xs[k]? = some x) : ((ls xs).drop k).all capB = (capB x.data.toList && ((ls xs).drop (k + 1)).all capB) := by
  have h' : (ls xs)[k]? = some x.data.toList := by simp [ls, h]
  obtain ⟨hk, e⟩ := List.getElem?_eq_some_iff.1 h'
  rw [List.drop_eq_getElem_cons hk, e]
  rfl
theorem below_drewN {B : Nat} {a w : World} (h : Below B a w) (q : Nat) : Below B a (w.drewN q) := ⟨h.os, h.tape, h.output, h.size, h.block⟩

set_option maxHeartbeats 1000000 in
theorem isValid (A : Option Addr) (c n : Nat) (xs : List ByteArray) (p f s : ByteArray) (w : World) (h : RdS w A xs) (hA : 0 < n → ∀ a, A = some a → a.block < w.heap.size) (hn : xs.length = n) (hm : n ≤ 1048576) (hp : p.size ≤ 1048576) :
    Calls Tryz.prog 116 #[nmV (.slice A n c) p f s] w fun e w' => e = .returned (.bool (okN xs p f s)) ∧ Below w.heap.size w w' := by
  have HB := Lib.hid ((Below.refl _ w).alloc (Nat.le_refl _) (.cells #[.slice A n c, .string p, .string f, .string s] 111))
  have H := Lib.hid (rds_below h (fun hp => hA (by rw [← hn]; exact hp)) HB.out)
  have HE := Lib.hid (okN_eq xs p f s)
  have HN := Lib.hid hn
  clear h hA hn
  by_cases h3 : 3 < n
  · have HF : Hid (okN xs p f s = false) := Lib.hid (by rw [HE.out, HN.out, decide_eq_false (by omega)]; simp)
    go_enter Tryz.func116, Tryz.ntmps116
    go_wp2_with fail
    go_ret
    exact ⟨by rw [HF.out]; rfl, HB.out⟩
  · go_enter Tryz.func116, Tryz.ntmps116
    go_wp2_with fail
    go_loop [12] (fun i => ∃ k : Nat, k ≤ n ∧ i = .int .i64 k ∧ Hid (((ls xs).drop k).all capB = (ls xs).all capB)) (fun i => n - (intOf i).toNat)
    case atStart => exact ⟨0, Nat.zero_le _, rfl, Lib.hid rfl⟩
    case round =>
      obtain ⟨k, hk, rfl, HA⟩ := hrel
      by_cases hlt : k < n
      · have hkx : k < xs.length := by rw [HN.out]; exact hlt
        have hx? := List.getElem?_eq_getElem hkx
        obtain ⟨g, o, rfl, hc⟩ := H.out k xs[k] hx?
        have HD := Lib.hid (caps_drop hx?)
        clear hx?
        generalize xs[k] = x at *
        cases hcp : capB x.data.toList with
        | false =>
          have HC := Lib.hid hcp
          clear hcp
          have HF : Hid (okN xs p f s = false) := Lib.hid (by rw [HE.out, ← HA.out, HD.out, HC.out]; simp)
          go_wp2_with fail
          refine (capWord_b _ false _ HC.out).mono ?_
          rintro e w' ⟨rfl, rfl⟩
          go_wp2_with fail
          go_ret
          exact ⟨by rw [HF.out]; rfl, HB.out⟩
        | true =>
          have HC := Lib.hid hcp
          clear hcp
          go_wp2_with fail
          refine (capWord_b _ true _ HC.out).mono ?_
          rintro e w' ⟨rfl, rfl⟩
          go_wp2_with fail
          go_round
          case rel => exact ⟨k + 1, by omega, by go_num, Lib.hid (by rw [← HA.out, HD.out, HC.out]; rfl)⟩
          case measure => simp [intOf]; omega
      · have HX : Hid (okN xs p f s = (partE p.data.toList && capB f.data.toList && (s.data.toList.isEmpty || wordB s.data.toList))) := Lib.hid (by
          rw [HE.out, ← HA.out, List.drop_eq_nil_of_le (by rw [ls_len, HN.out]; omega), HN.out, decide_eq_true (by omega)]; rfl)
        clear HE
        by_cases hp0 : p.data.toList = []
        · obtain rfl := str_nil hp0
          clear hp0
          have HP : Hid (partE (ByteArray.mk #[]).data.toList = true) := Lib.hid rfl
          cases hf : capB f.data.toList with
          | false =>
            have HF := Lib.hid hf
            clear hf
            go_wp2_with fail
            refine (capWord_b _ false _ HF.out).mono ?_
            rintro e w' ⟨rfl, rfl⟩
            go_wp2_with fail
            go_ret
            exact ⟨by rw [HX.out, HP.out, HF.out]; rfl, HB.out⟩
          | true =>
            have HF := Lib.hid hf
            clear hf
            by_cases hs0 : s.data.toList = []
            · obtain rfl := str_nil hs0
              clear hs0
              go_wp2_with fail
              refine (capWord_b _ true _ HF.out).mono ?_
              rintro e w' ⟨rfl, rfl⟩
              go_wp2_with fail
              go_ret
              exact ⟨by rw [HX.out, HP.out, HF.out]; rfl, HB.out⟩
            · obtain ⟨hse, hse'⟩ := str_ne hs0
              have HS0 := Lib.hid (List.isEmpty_eq_false_iff.2 hs0)
              clear hs0
              go_wp2_with fail
              refine (capWord_b _ true _ HF.out).mono ?_
              rintro e w' ⟨rfl, rfl⟩
              go_wp2_with fail
              refine (nameWord _ _).mono ?_
              rintro e w' ⟨rfl, rfl⟩
              go_wp2_with fail
              go_ret
              exact ⟨by rw [HX.out, HP.out, HF.out, HS0.out]; rfl, HB.out⟩
        · obtain ⟨hpe, hpe'⟩ := str_ne hp0
          have HP0 : Hid (partE p.data.toList = partB p.data.toList) := Lib.hid (by unfold partE; rw [List.isEmpty_eq_false_iff.2 hp0]; rfl)
          clear hp0
          cases hpb : partB p.data.toList with
          | false =>
            have HPB := Lib.hid hpb
            clear hpb
            go_wp2_with fail
            refine (isPart_b _ false _ (by unfold maxLen; omega) HPB.out).mono ?_
            rintro e w' ⟨rfl, q, rfl⟩
            go_wp2_with fail
            go_ret
            exact ⟨by rw [HX.out, HP0.out, HPB.out]; rfl, below_drewN HB.out q⟩
          | true =>
            have HPB := Lib.hid hpb
            clear hpb
            cases hf : capB f.data.toList with
            | false =>
              have HF := Lib.hid hf
              clear hf
              go_wp2_with fail
              refine (isPart_b _ true _ (by unfold maxLen; omega) HPB.out).mono ?_
              rintro e w' ⟨rfl, q, rfl⟩
              go_wp2_with fail
              refine (capWord_b _ false _ HF.out).mono ?_
              rintro e w' ⟨rfl, rfl⟩
              go_wp2_with fail
              go_ret
              exact ⟨by rw [HX.out, HP0.out, HPB.out, HF.out]; rfl, below_drewN HB.out q⟩
            | true =>
              have HF := Lib.hid hf
              clear hf
              by_cases hs0 : s.data.toList = []
              · obtain rfl := str_nil hs0
                clear hs0
                go_wp2_with fail
                refine (isPart_b _ true _ (by unfold maxLen; omega) HPB.out).mono ?_
                rintro e w' ⟨rfl, q, rfl⟩
                go_wp2_with fail
                refine (capWord_b _ true _ HF.out).mono ?_
                rintro e w' ⟨rfl, rfl⟩
                go_wp2_with fail
                go_ret
                exact ⟨by rw [HX.out, HP0.out, HPB.out, HF.out]; rfl, below_drewN HB.out q⟩
              · obtain ⟨hse, hse'⟩ := str_ne hs0
                have HS0 := Lib.hid (List.isEmpty_eq_false_iff.2 hs0)
                clear hs0
                go_wp2_with fail
                refine (isPart_b _ true _ (by unfold maxLen; omega) HPB.out).mono ?_
                rintro e w' ⟨rfl, q, rfl⟩
                go_wp2_with fail
                refine (capWord_b _ true _ HF.out).mono ?_
                rintro e w' ⟨rfl, rfl⟩
                go_wp2_with fail
                refine (nameWord _ _).mono ?_
                rintro e w' ⟨rfl, rfl⟩
                go_wp2_with fail
                go_ret
                exact ⟨by rw [HX.out, HP0.out, HPB.out, HF.out, HS0.out]; rfl, below_drewN HB.out q⟩
theorem cap_of {x : ByteArray} (h : wordB x.data.toList = true) (hp : 0 < x.size) : capB x.data.toList = isUp x[0] := by
  unfold capB; rw [h, up0_at hp]; rfl

set_option maxHeartbeats 2000000 in
theorem l2Good (A : Option Addr) (c n : Nat) (xs : List ByteArray) (p f s : ByteArray) (w : World) (h : RdS w A xs) (hA : 0 < n → ∀ a, A = some a → a.block < w.heap.size) (hn : xs.length = n) (hm : n ≤ 1048576) (hx : ∀ x ∈ xs, x.size ≤ 1048576) (hp : p.size ≤ 1048576) (hf : f.size ≤ 1048576) (hs : s.size ≤ 1048576) :
    Calls Tryz.prog 88 #[nmV (.slice A n c) p f s] w fun e w' => e = .returned (.bool (okN xs p f s)) ∧ Below w.heap.size w w' := by
  have HB := Lib.hid ((Below.refl _ w).alloc (Nat.le_refl _) (.cells #[.slice A n c, .string p, .string f, .string s] 111))
  have H := Lib.hid (rds_below h (fun hp => hA (by rw [← hn]; exact hp)) HB.out)
  have HE := Lib.hid (okN_eq xs p f s)
  have HN := Lib.hid hn
  have HXs := Lib.hid hx
  clear h hA hn hx
  go_enter Tryz.func88, Tryz.ntmps88
  go_wp2_with fail
  go_loop [3] (fun i => ∃ k : Nat, k ≤ n ∧ i = .int .i64 k ∧ Hid (((ls xs).drop k).all capB = (ls xs).all capB)) (fun i => n - (intOf i).toNat)
  case atStart => exact ⟨0, Nat.zero_le _, rfl, Lib.hid rfl⟩
  case round =>
    obtain ⟨k, hk, rfl, HA⟩ := hrel
    by_cases hlt : k < n
    · have hkx : k < xs.length := by rw [HN.out]; exact hlt
      have hx? := List.getElem?_eq_getElem hkx
      obtain ⟨g, o, rfl, hc⟩ := H.out k xs[k] hx?
      have HD := Lib.hid (caps_drop hx?)
      have hxl := HXs.out _ (List.getElem_mem hkx)
      clear hx?
      generalize xs[k] = x at *
      cases hw : wordB x.data.toList with
      | false =>
        have HW := Lib.hid hw
        clear hw
        have HF : Hid (okN xs p f s = false) := Lib.hid (by rw [HE.out, ← HA.out, HD.out]; unfold capB; rw [HW.out]; simp)
        go_wp2_with fail
        refine (l2Word_b _ false _ (by omega) HW.out).mono ?_
        rintro e w' ⟨rfl, rfl⟩
        go_wp2_with fail
        go_ret
        exact ⟨by rw [HF.out]; rfl, HB.out⟩
      | true =>
        have HW := Lib.hid hw
        have hp0 := word_pos hw
        have HC := Lib.hid (cap_of hw hp0)
        clear hw
        cases hu : isUp x[0] with
        | false =>
          have HU := Lib.hid hu
          clear hu
          have HF : Hid (okN xs p f s = false) := Lib.hid (by rw [HE.out, ← HA.out, HD.out, HC.out, HU.out]; simp)
          go_wp2_with fail
          refine (l2Word_b _ true _ (by omega) HW.out).mono ?_
          rintro e w' ⟨rfl, rfl⟩
          go_wp2_with fail
          refine (up_s _ false _ HU.out).mono ?_
          rintro e w' ⟨rfl, rfl⟩
          go_wp2_with fail
          go_ret
          exact ⟨by rw [HF.out]; rfl, HB.out⟩
        | true =>
          have HU := Lib.hid hu
          clear hu
          go_wp2_with fail
          refine (l2Word_b _ true _ (by omega) HW.out).mono ?_
          rintro e w' ⟨rfl, rfl⟩
          go_wp2_with fail
          refine (up_s _ true _ HU.out).mono ?_
          rintro e w' ⟨rfl, rfl⟩
          go_wp2_with fail
          go_round
          case rel => exact ⟨k + 1, by omega, by go_num, Lib.hid (by rw [← HA.out, HD.out, HC.out, HU.out]; rfl)⟩
          case measure => simp [intOf]; omega
    · have HX : Hid (okN xs p f s = (decide (n ≤ 3) && partE p.data.toList && capB f.data.toList && (s.data.toList.isEmpty || wordB s.data.toList))) := Lib.hid (by
        rw [HE.out, ← HA.out, List.drop_eq_nil_of_le (by rw [ls_len, HN.out]; omega), HN.out]; rfl)
      clear HE
      by_cases h3 : 3 < n
      · have HF : Hid (okN xs p f s = false) := Lib.hid (by rw [HX.out, decide_eq_false (by omega)]; rfl)
        go_wp2_with fail
        go_ret
        exact ⟨by rw [HF.out]; rfl, HB.out⟩
      · have HY : Hid (okN xs p f s = (partE p.data.toList && capB f.data.toList && (s.data.toList.isEmpty || wordB s.data.toList))) := Lib.hid (by rw [HX.out, decide_eq_true (by omega)]; rfl)
        clear HX
        cases hp : partE p.data.toList with
        | false =>
          have HP := Lib.hid hp
          clear hp
          go_wp2_with fail
          refine (l2Part_b _ false _ (by omega) HP.out).mono ?_
          rintro e w1 ⟨rfl, b1⟩
          obtain ⟨hc1, hf1⟩ := bcell b1
          have hz1 := b1.size
          simp at hz1
          go_wp2_with fail
          go_ret
          exact ⟨by rw [HY.out, HP.out]; rfl, HB.out.trans (b1.mono HB.out.size)⟩
        | true =>
          have HP := Lib.hid hp
          clear hp
          cases hwf : wordB f.data.toList with
          | false =>
            have HWF := Lib.hid hwf
            clear hwf
            go_wp2_with fail
            refine (l2Part_b _ true _ (by omega) HP.out).mono ?_
            rintro e w1 ⟨rfl, b1⟩
            obtain ⟨hc1, hf1⟩ := bcell b1
            have hz1 := b1.size
            simp at hz1
            go_wp2_with fail
            refine (l2Word_b _ false _ (by omega) HWF.out).mono ?_
            rintro e w' ⟨rfl, rfl⟩
            go_wp2_with fail
            go_ret
            exact ⟨by rw [HY.out, HP.out]; unfold capB; rw [HWF.out]; rfl, HB.out.trans (b1.mono HB.out.size)⟩
          | true =>
            have HWF := Lib.hid hwf
            have hpf := word_pos hwf
            have HCF := Lib.hid (cap_of hwf hpf)
            clear hwf
            cases huf : isUp f[0] with
            | false =>
              have HUF := Lib.hid huf
              clear huf
              go_wp2_with fail
              refine (l2Part_b _ true _ (by omega) HP.out).mono ?_
              rintro e w1 ⟨rfl, b1⟩
              obtain ⟨hc1, hf1⟩ := bcell b1
              have hz1 := b1.size
              simp at hz1
              go_wp2_with fail
              refine (l2Word_b _ true _ (by omega) HWF.out).mono ?_
              rintro e w' ⟨rfl, rfl⟩
              go_wp2_with fail
              refine (up_s _ false _ HUF.out).mono ?_
              rintro e w' ⟨rfl, rfl⟩
              go_wp2_with fail
              go_ret
              exact ⟨by rw [HY.out, HP.out, HCF.out, HUF.out]; rfl, HB.out.trans (b1.mono HB.out.size)⟩
            | true =>
              have HUF := Lib.hid huf
              clear huf
              by_cases hs0 : s.data.toList = []
              · obtain rfl := str_nil hs0
                clear hs0
                go_wp2_with fail
                refine (l2Part_b _ true _ (by omega) HP.out).mono ?_
                rintro e w1 ⟨rfl, b1⟩
                obtain ⟨hc1, hf1⟩ := bcell b1
                have hz1 := b1.size
                simp at hz1
                go_wp2_with fail
                refine (l2Word_b _ true _ (by omega) HWF.out).mono ?_
                rintro e w' ⟨rfl, rfl⟩
                go_wp2_with fail
                refine (up_s _ true _ HUF.out).mono ?_
                rintro e w' ⟨rfl, rfl⟩
                go_wp2_with fail
                go_ret
                exact ⟨by rw [HY.out, HP.out, HCF.out, HUF.out]; rfl, HB.out.trans (b1.mono HB.out.size)⟩
              · obtain ⟨hse, hse'⟩ := str_ne hs0
                have HS0 := Lib.hid (List.isEmpty_eq_false_iff.2 hs0)
                clear hs0
                go_wp2_with fail
                refine (l2Part_b _ true _ (by omega) HP.out).mono ?_
                rintro e w1 ⟨rfl, b1⟩
                obtain ⟨hc1, hf1⟩ := bcell b1
                have hz1 := b1.size
                simp at hz1
                go_wp2_with fail
                refine (l2Word_b _ true _ (by omega) HWF.out).mono ?_
                rintro e w' ⟨rfl, rfl⟩
                go_wp2_with fail
                refine (up_s _ true _ HUF.out).mono ?_
                rintro e w' ⟨rfl, rfl⟩
                go_wp2_with fail
                refine (l2Word _ _ (by omega)).mono ?_
                rintro e w' ⟨rfl, rfl⟩
                go_wp2_with fail
                go_ret
                exact ⟨by rw [HY.out, HP.out, HCF.out, HUF.out, HS0.out]; rfl, HB.out.trans (b1.mono HB.out.size)⟩
theorem l2Good_b (A : Option Addr) (c n : Nat) (xs : List ByteArray) (p f s : ByteArray) (r : Bool) (w : World) (h : RdS w A xs) (hA : 0 < n → ∀ a, A = some a → a.block < w.heap.size) (hn : xs.length = n) (hm : n ≤ 1048576) (hx : ∀ x ∈ xs, x.size ≤ 1048576) (hp : p.size ≤ 1048576) (hf : f.size ≤ 1048576) (hs : s.size ≤ 1048576) (hr : okN xs p f s = r) :
    Calls Tryz.prog 88 #[nmV (.slice A n c) p f s] w fun e w' => e = .returned (.bool r) ∧ Below w.heap.size w w' := by
  subst hr; exact l2Good A c n xs p f s w h hA hn hm hx hp hf hs
theorem isValid_b (A : Option Addr) (c n : Nat) (xs : List ByteArray) (p f s : ByteArray) (r : Bool) (w : World) (h : RdS w A xs) (hA : 0 < n → ∀ a, A = some a → a.block < w.heap.size) (hn : xs.length = n) (hm : n ≤ 1048576) (hp : p.size ≤ 1048576) (hr : okN xs p f s = r) :
    Calls Tryz.prog 116 #[nmV (.slice A n c) p f s] w fun e w' => e = .returned (.bool r) ∧ Below w.heap.size w w' := by
  subst hr; exact isValid A c n xs p f s w h hA hn hm hp
end Go.Proofs.YteccmlpibbchbaaGreatDoor.NGood
