/-
  Words of styles: contracts of isPiece, l9Piece; styleFields, isStyleField, l9In, l9Field; kindOfWord, l9Kind.
-/
import Derived.Test.YtbibjcmfgpmddaaDoorNdPl
import Derived.Test.YtbibjcmfgpmddaaDoorPr
import Derived.Test.YtbibjcmfgpmddaaDoorLaidS
import Derived.Test.YtbibjcmfgpmddaaDoorShelf
import Derived.LoopTactic
import Derived.Deep.QuietTactic
import Derived.BigQuiet
import Derived.Lib.SlicesS
import Derived.Lib.IndexAny
import Derived.Laws.BytesArg
import Derived.Maps.AppendAt
namespace Go.Proofs.YtbibjcmfgpmddaaDoor.Ns
open Go.RowKit NdPl Pl NmPl LaidS
set_option linter.unusedSimpArgs false
set_option linter.unusedVariables false

theorem ret_bool {a b : Bool} (h : a = b) : Ending.returned (.bool a) = .returned (.bool b) := by rw [h]
/-- a piece -/
def pcC (c : UInt8) : Bool := Kt.pr c && !(c == 34)
def pcB (s : ByteArray) : Bool := decide (s.size ≤ 12) && s.data.toList.all pcC
theorem pc_emp : pcB ⟨#[]⟩ = true := rfl
theorem idx_mem (l : List UInt8) (c : UInt8) : decide (0 ≤ Lib.indexByte l c) = l.contains c := (Lib.contains_iff_indexByte l c).symm
theorem pc_all (l : List UInt8) : l.all pcC = (l.all Kt.pr && !(l.contains 34)) := by
  induction l with
  | nil => rfl
  | cons x r ih =>
    rw [List.all_cons, List.all_cons, List.contains_cons, ih]
    unfold pcC
    rw [show ((34 : UInt8) == x) = (x == 34) from Bool.eq_iff_iff.2 (by rw [beq_iff_eq, beq_iff_eq]; exact eq_comm)]
    cases Kt.pr x <;> cases (x == 34) <;> cases r.all Kt.pr <;> cases r.contains 34 <;> rfl
set_option maxHeartbeats 1000000 in
theorem piece_i (s : ByteArray) (r : Bool) (w : World) (hr : pcB s = r) : Calls Tryd.prog 62 #[.string s] w fun e w' => e = .returned (.bool r) ∧ w = w' := by
  by_cases h : s.size ≤ 12
  · have HE : Hid (r = (s.data.toList.all Kt.pr && !(s.data.toList.contains 34))) := Lib.hid (by rw [← hr, ← pc_all]; unfold pcB; rw [decide_eq_true h]; rfl)
    have HC := Lib.hid (fun w => Tryd.strings_Contains_one s 34 w)
    rw [idx_mem] at HC
    have HP := Lib.hid (fun r w => Kt.isPrint s r w (by omega))
    clear hr
    cases h1 : s.data.toList.all Kt.pr with
    | true =>
      have HP1 := Lib.hid (fun w => HP.out true w h1)
      rw [h1] at HE
      generalize s.data.toList.contains 34 = q at *
      clear h1 HP
      go_enter Tryd.func62, Tryd.ntmps62
      go_wp2_with fail
      refine (HP1.out _).mono ?_
      rintro e w1 ⟨rfl, rfl⟩
      go_wp2_with fail
      refine (HC.out _).mono ?_
      rintro e w1 ⟨rfl, rfl⟩
      go_wp2_with fail
      go_ret
      exact ⟨by rw [HE.out]; rfl, rfl⟩
    | false =>
      have HP1 := Lib.hid (fun w => HP.out false w h1)
      rw [h1] at HE
      clear h1 HP HC
      go_enter Tryd.func62, Tryd.ntmps62
      go_wp2_with fail
      refine (HP1.out _).mono ?_
      rintro e w1 ⟨rfl, rfl⟩
      go_wp2_with fail
      go_ret
      exact ⟨by rw [HE.out]; rfl, rfl⟩
  · have HE : Hid (r = false) := Lib.hid (by rw [← hr]; unfold pcB; rw [decide_eq_false h]; rfl)
    go_enter Tryd.func62, Tryd.ntmps62
    go_wp2_with fail
    go_ret
    exact ⟨by rw [HE.out]; rfl, rfl⟩
set_option maxHeartbeats 2000000 in
theorem piece_s (s : ByteArray) (r : Bool) (w : World) (hs : s.size ≤ 1048576) (hr : pcB s = r) : Calls Tryd.prog 49 #[.string s] w fun e w' => e = .returned (.bool r) ∧ w = w' := by
  have HR := Lib.hid hr.symm
  clear hr
  go_enter Tryd.func49, Tryd.ntmps49
  go_wp2_with fail
  go_loop [3] (fun i => ∃ k : Nat, k ≤ s.size ∧ i = .int .i64 k ∧ Hid ((s.data.toList.drop k).all pcC = s.data.toList.all pcC)) (fun i => s.size - (intOf i).toNat)
  case atStart => exact ⟨0, Nat.zero_le _, rfl, Lib.hid rfl⟩
  case round =>
    obtain ⟨k, hk, rfl, HD⟩ := hrel
    by_cases hlt : k < s.size
    · by_cases h12 : k ≤ 12
      · have HA := Lib.hid (Kt.all_at pcC s k hlt)
        have hcl := s[k].toNat_lt
        by_cases hp : pcC s[k] = true
        · have hp' := hp
          unfold pcC Kt.pr at hp'
          simp only [Bool.and_eq_true, decide_eq_true_eq, Bool.not_eq_true', beq_eq_false_iff_ne] at hp'
          have hb1 : decide ((s[k].toNat : Int) < 32) = false := by simp; omega
          have hb2 : decide (126 < (s[k].toNat : Int)) = false := by simp; omega
          have hb3 : ((s[k].toNat : Int) == 34) = false := by
            rw [beq_eq_false_iff_ne]
            intro h
            exact hp'.2 (UInt8.toNat_inj.1 (show s[k].toNat = (34 : UInt8).toNat by have : (34 : UInt8).toNat = 34 := rfl; omega))
          have HK := Lib.hid hp
          clear hp hp'
          go_wp2_with fail
          go_round
          case rel => exact ⟨k + 1, by omega, by go_num, Lib.hid (by rw [← HD.out, HA.out, HK.out]; rfl)⟩
          case measure => simp [intOf]; omega
        · have HF : Hid (r = false) := Lib.hid (by
            rw [HR.out]; unfold pcB
            rw [← HD.out, HA.out, show pcC s[k] = false by simpa using hp]; simp)
          have hcase : (s[k].toNat : Int) < 32 ∨ 126 < (s[k].toNat : Int) ∨ (s[k].toNat : Int) = 34 := by
            apply Classical.byContradiction
            intro hn
            apply hp
            unfold pcC Kt.pr
            simp only [Bool.and_eq_true, decide_eq_true_eq, Bool.not_eq_true', beq_eq_false_iff_ne]
            refine ⟨by omega, ?_⟩
            rintro h
            apply hn
            rw [h]
            exact .inr (.inr rfl)
          clear hp
          by_cases a1 : (s[k].toNat : Int) < 32
          · have hb1 : decide ((s[k].toNat : Int) < 32) = true := by simpa using a1
            clear a1 hcase
            go_wp2_with fail
            go_ret
            exact ⟨by rw [HF.out]; rfl, rfl⟩
          · have hb1 : decide ((s[k].toNat : Int) < 32) = false := by simpa using a1
            by_cases a2 : 126 < (s[k].toNat : Int)
            · have hb2 : decide (126 < (s[k].toNat : Int)) = true := by simpa using a2
              clear a1 a2 hcase
              go_wp2_with fail
              go_ret
              exact ⟨by rw [HF.out]; rfl, rfl⟩
            · have hb2 : decide (126 < (s[k].toNat : Int)) = false := by simpa using a2
              have hb3 : ((s[k].toNat : Int) == 34) = true := by rw [beq_iff_eq]; omega
              clear a1 a2 hcase
              go_wp2_with fail
              go_ret
              exact ⟨by rw [HF.out]; rfl, rfl⟩
      · have HF : Hid (r = decide ((s.size : Int) ≤ 12)) := Lib.hid (by
          rw [HR.out]; unfold pcB
          rw [decide_eq_false (show ¬ s.size ≤ 12 by omega), decide_eq_false (show ¬ (s.size : Int) ≤ 12 by omega)]; rfl)
        go_wp2_with fail
        go_ret
        exact ⟨by rw [HF.out]; rfl, rfl⟩
    · have HF : Hid (r = decide ((s.size : Int) ≤ 12)) := Lib.hid (by
        rw [HR.out]; unfold pcB
        rw [← HD.out, Kt.all_end pcC s k (by omega), Bool.and_true, Bool.eq_iff_iff]; simp; omega)
      go_wp2_with fail
      go_ret
      exact ⟨by rw [HF.out]; rfl, rfl⟩

/-- the fields of entries, and year and key behind them -/
def fws : List ByteArray := [⟨#[97, 117, 116, 104, 111, 114, 115]⟩, ⟨#[101, 100, 105, 116, 111, 114, 115]⟩, ⟨#[116, 105, 116, 108, 101]⟩, ⟨#[99, 111, 110, 116, 97, 105, 110, 101, 114]⟩, ⟨#[112, 117, 98, 108, 105, 115, 104, 101, 114]⟩, ⟨#[100, 97, 116, 101]⟩, ⟨#[118, 111, 108, 117, 109, 101]⟩, ⟨#[112, 97, 103, 101, 115]⟩]
def yrB : ByteArray := ⟨#[121, 101, 97, 114]⟩
def kyB : ByteArray := ⟨#[107, 101, 121]⟩
def sfs : List ByteArray := fws ++ [yrB, kyB]
/-- a style field -/
def isSF (s : ByteArray) : Bool := Lib.containsS sfs s
theorem fws_at {w : World} {cs : Array Value} {t : TypeId} (h : cs = (fws.map Value.string).toArray) : ∀ j, j < fws.length → (w.alloc (.cells cs t)).cell? ⟨w.heap.size, j, none⟩ = some (.string (fws.getD j ByteArray.empty)) := by
  intro j hj
  subst h
  have hj' : j < 8 := hj
  simp
  rcases j with _ | _ | _ | _ | _ | _ | _ | _ | j
  all_goals first | rfl | omega
set_option maxHeartbeats 1000000 in
theorem fieldWords (w : World) : Calls Tryd.prog 72 #[] w fun e w' => e = .returned (.slice (some ⟨w.heap.size, 0, none⟩) 8 8) ∧ w'.ownsRow w.heap.size 9 1 (.slice (some ⟨w.heap.size, 0, none⟩) 8 8) 8 (fws.map Value.string) ∧ Below w.heap.size w w' := by
  go_enter Tryd.func72, Tryd.ntmps72
  go_wp2_with fail
  go_ret
  refine ⟨rfl, ?_, (Below.refl _ w).alloc (Nat.le_refl _) _⟩
  exact World.ownsRow_lit (base := w.heap.size) (e := 9) (size := 1) w (fws.map Value.string).toArray 8 (Nat.le_refl _) (by unfold maxLen; omega) rfl
set_option maxHeartbeats 1000000 in
theorem l4Fields (w : World) : Calls Tryd.prog 59 #[] w fun e w' => e = .returned (.slice (some ⟨w.heap.size, 0, none⟩) 8 8) ∧ (∀ j, j < 8 → w'.cell? ⟨w.heap.size, j, none⟩ = some (.string (fws.getD j ByteArray.empty))) ∧ Below w.heap.size w w' := by
  go_enter Tryd.func59, Tryd.ntmps59
  go_wp2_with fail
  go_ret
  exact ⟨rfl, fws_at rfl, (Below.refl _ w).alloc (Nat.le_refl _) _⟩
end Go.Proofs.YtbibjcmfgpmddaaDoor.Ns
