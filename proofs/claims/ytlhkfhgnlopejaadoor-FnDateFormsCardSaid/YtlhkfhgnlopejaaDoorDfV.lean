/-
  What the functions on dates answer, for the law FnDateForms.
-/
import Derived.Test.YtlhkfhgnlopejaaDoorDtV
import Derived.Test.YtlhkfhgnlopejaaDoorDfPl
import Derived.Test.YtlhkfhgnlopejaaDoorDtHi
import Derived.Test.YtlhkfhgnlopejaaDoorPd
import Derived.Test.YtlhkfhgnlopejaaDoorDt6
namespace Go.Proofs.YtlhkfhgnlopejaaDoor.DfV
open Go.RowKit Pl DtPl Dt DtTx Num DtD DfPl PdPl DtF
set_option linter.unusedVariables false
set_option linter.unusedSimpArgs false

theorem vBig_any (A : Option Addr) (n c : Nat) (w : World) (r : Bool) (hr : decide (65536 < (n : Int)) = r) : Calls Tryd.prog 4 #[.slice A n c] w fun e w' => e = .returned (.bool r) ∧ w = w' := by
  subst hr
  go_enter Tryd.func4, Tryd.ntmps4
  go_wp2
  go_ret
  exact ⟨rfl, rfl⟩
theorem two_new (w : World) (y m d : Int) (c : Bool) (y' m' d' : Int) (c' : Bool) : D4 ((w.alloc (.cells #[.int .i64 y, .int .i64 m, .int .i64 d, .bool c] 25)).alloc (.cells #[.int .i64 y', .int .i64 m', .int .i64 d', .bool c'] 25)) w.heap.size y m d c ∧ D4 ((w.alloc (.cells #[.int .i64 y, .int .i64 m, .int .i64 d, .bool c] 25)).alloc (.cells #[.int .i64 y', .int .i64 m', .int .i64 d', .bool c'] 25)) (w.heap.size + 1) y' m' d' c' := by
  refine ⟨(D4.new w y m d c 25).below (box_below _ _), ?_⟩
  have h := D4.new (w.alloc (.cells #[.int .i64 y, .int .i64 m, .int .i64 d, .bool c] 25)) y' m' d' c' 25
  rwa [show (w.alloc (.cells #[.int .i64 y, .int .i64 m, .int .i64 d, .bool c] 25)).heap.size = w.heap.size + 1 by simp] at h
theorem parts (g : Bool) (x : Int) (y m d : Int) (c : Bool) (y' m' d' : Int) (c' : Bool) (h : g = true → (x = 0 ↔ (y = y' ∧ m = m' ∧ d = d' ∧ c = c'))) :
    g = false ∨ (g = true ∧ x = 0 ∧ y = y' ∧ m = m' ∧ d = d' ∧ c = c') ∨ (g = true ∧ (x == 0) = false ∧ decide (x = 0) = false ∧ ((y == y') = false ∨ (y = y' ∧ (m == m') = false) ∨ (y = y' ∧ m = m' ∧ (d == d') = false) ∨ (y = y' ∧ m = m' ∧ d = d' ∧ (c == c') = false))) := by
  cases g with
  | false => exact .inl rfl
  | true =>
    refine .inr ?_
    have h' := h rfl
    by_cases hx : x = 0
    · exact .inl ⟨rfl, hx, h'.1 hx⟩
    · refine .inr ⟨rfl, by simpa using hx, by simpa using hx, ?_⟩
      by_cases h1 : y = y'
      · by_cases h2 : m = m'
        · by_cases h3 : d = d'
          · refine .inr (.inr (.inr ⟨h1, h2, h3, ?_⟩))
            rw [beq_eq_false_iff_ne]
            exact fun h4 => hx (h'.2 ⟨h1, h2, h3, h4⟩)
          · exact .inr (.inr (.inl ⟨h1, h2, by simpa using h3⟩))
        · exact .inr (.inl ⟨h1, by simpa using h2⟩)
      · exact .inl (by simpa using h1)
/-- what ParseDate answers -/
theorem ans_at {s : ByteArray} {v : Value} (h : Pd.AnsD s v) : ∃ y m d c r, v = .tuple #[dtV y m d c, .bool r] ∧ (∀ y' m' d' c', okB y' m' d' c' = true → s = ba (text y' m' d' c') → r = true ∧ y' = y ∧ m' = m ∧ d' = d ∧ c' = c) ∧ (r = true → okB y m d c = true ∧ s = ba (text y m d c)) := by
  rcases h with ⟨y, m, d, c, hk, hs, rfl⟩ | ⟨hno, rfl⟩
  · refine ⟨y, m, d, c, true, rfl, fun y' m' d' c' hk' hs' => ?_, fun _ => ⟨hk, hs⟩⟩
    rw [hs] at hs'
    obtain ⟨rfl, rfl, rfl, rfl⟩ := text_inj hk hk' (Read.ba_inj hs')
    exact ⟨rfl, rfl, rfl, rfl, rfl⟩
  · exact ⟨0, 0, 0, false, false, rfl, fun y' m' d' c' hk' hs' => absurd hs' (hno _ _ _ _ hk'), fun h => by cases h⟩
/-- what FormatDate answers -/
theorem fmt_at (y m d : Int) (c : Bool) : ∃ (s : ByteArray) (r : Bool), okB y m d c = r ∧ s.size ≤ 100 ∧ (∀ w, Tab w → Calls Tryd.prog 6 #[dtV y m d c] w fun e w' => e = .returned (.tuple #[.string s, .bool r]) ∧ Below w.heap.size w w') ∧ (r = true → s = ba (text y m d c)) := by
  refine ⟨if okB y m d c = true then ba (text y m d c) else ⟨#[]⟩, okB y m d c, rfl, ?_, fun w ht => iFormat y m d c _ _ w rfl rfl ht, fun h => if_pos h⟩
  split
  · rename_i h
    rw [ba_size]
    have := text_le h
    omega
  · decide
theorem cmp_vals (y m d : Int) (c : Bool) (y' m' d' : Int) (c' : Bool) : ∃ (x : Int) (g : Bool),
    (∀ w, Calls Tryd.prog 11 #[dtV y m d c, dtV y' m' d' c'] w fun e w' => e = .returned (.tuple #[.int .i64 x, .bool g]) ∧ Below w.heap.size w w') ∧
    (∀ w, Calls Tryd.prog 11 #[dtV y' m' d' c', dtV y m d c] w fun e w' => e = .returned (.tuple #[.int .i64 (-x), .bool g]) ∧ Below w.heap.size w w') ∧
    (∀ w, Calls Tryd.prog 12 #[dtV y m d c, dtV y' m' d' c'] w fun e w' => e = .returned (.tuple #[.int .i64 x, .bool g]) ∧ Below w.heap.size w w') ∧
    IntKind.i64.wrap (-x) = -x ∧ (g = true → (x = 0 ↔ (y = y' ∧ m = m' ∧ d = d' ∧ c = c'))) := by
  refine ⟨_, _, fun w => iCompareD y m d c y' m' d' c' _ _ _ w rfl rfl rfl, fun w => ?_, fun w => sCompare y m d c y' m' d' c' _ _ _ w rfl rfl rfl, ?_, fun h => ?_⟩
  · refine (iCompareD y' m' d' c' y m d c _ _ _ w rfl rfl rfl).mono (fun e w2 h => ⟨h.1.trans ?_, h.2⟩)
    rw [Bool.and_comm, cmpD_neg y m d c y' m' d' c']
    congr 3
    split <;> simp
  · split
    · exact neg_wrap (cmpD_bd _ _ _ _ _ _ _ _)
    · rfl
  · rw [if_pos h]
    exact cmpD_zero _ _ _ _ _ _ _ _
theorem bd_vals (y m d : Int) (c : Bool) (r : Bool) (hr : okB y m d c = r) : ∃ (self : Bool) (ly lm ld : Int) (lc : Bool) (hy hm hd : Int) (hc : Bool) (four inside five : Bool) (order : Int) (six : Bool),
    (∀ w, Calls Tryd.prog 13 #[dtV y m d c, dtV y m d c] w fun e w' => e = .returned (.tuple #[.bool self, .bool r]) ∧ Below w.heap.size w w') ∧
    (∀ w, Calls Tryd.prog 14 #[dtV y m d c] w fun e w' => e = .returned (.tuple #[dtV ly lm ld lc, dtV hy hm hd hc, .bool four]) ∧ Below w.heap.size w w') ∧
    (∀ w, Calls Tryd.prog 13 #[dtV ly lm ld lc, dtV y m d c] w fun e w' => e = .returned (.tuple #[.bool inside, .bool five]) ∧ Below w.heap.size w w') ∧
    (∀ w, Calls Tryd.prog 11 #[dtV ly lm ld lc, dtV hy hm hd hc] w fun e w' => e = .returned (.tuple #[.int .i64 order, .bool six]) ∧ Below w.heap.size w w') ∧
    (r = true → self = true) ∧ (four = true → five = true ∧ inside = true ∧ six = true ∧ order ≤ 0) := by
  have hS : ∀ w, Calls Tryd.prog 13 #[dtV y m d c, dtV y m d c] w fun e w' => e = .returned (.tuple #[.bool r, .bool r]) ∧ Below w.heap.size w w' := fun w =>
    (iRefines y m d c y m d c r r r w hr hr (by rw [rf_self]; cases r <;> rfl)).mono (fun e w2 h => ⟨h.1.trans (by rw [Bool.and_self]), h.2⟩)
  by_cases hk : okB y m d c = true ∧ ¬ y = 0 ∧ c = false
  · obtain ⟨h1, h2, rfl⟩ := hk
    obtain ⟨o1, o2, o3, _, o5⟩ := bounds h1 h2
    refine ⟨r, y, loM m, if d = 0 then 1 else d, false, y, hiM m, if d = 0 then dim y (hiM m) else d, false, true, true, true, _, true, hS, fun w => iBounds y m d false _ w (bd_yes h1 h2), fun w => iRefines _ _ _ _ _ _ _ _ true true true w o1 h1 (by rw [o3]; rfl), fun w => iCompareD _ _ _ _ _ _ _ _ true true _ w o1 o2 (if_pos rfl), fun h => h, fun _ => ⟨rfl, rfl, rfl, o5⟩⟩
  · have hz : bdV y m d c = zero3 := bd_no (by
      by_cases q1 : okB y m d c = true
      · by_cases q2 : y = 0
        · exact .inr (.inl q2)
        · cases c with
          | true => exact .inr (.inr rfl)
          | false => exact absurd ⟨q1, q2, rfl⟩ hk
      · exact .inl (by simpa using q1))
    exact ⟨r, 0, 0, 0, false, 0, 0, 0, false, false, _, _, _, _, hS, fun w => iBounds y m d c _ w hz, fun w => iRefines 0 0 0 false y m d c _ _ _ w rfl rfl rfl, fun w => iCompareD 0 0 0 false 0 0 0 false _ _ _ w rfl rfl rfl, fun h => h, fun h => by cases h⟩
end Go.Proofs.YtlhkfhgnlopejaaDoor.DfV
