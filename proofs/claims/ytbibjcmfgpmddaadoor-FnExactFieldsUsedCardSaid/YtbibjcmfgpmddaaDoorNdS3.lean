/-
  Words of styles: contracts of l9Field, kindOfWord, l9Kind.
-/
import Derived.Test.YtbibjcmfgpmddaaDoorNdS2
import Derived.ChangeKeysEq
namespace Go.Proofs.YtbibjcmfgpmddaaDoor.Ns
open Go.RowKit NdPl Pl NmPl LaidS
set_option linter.unusedSimpArgs false
set_option linter.unusedVariables false

theorem ne_lit {s : ByteArray} {l : List UInt8} (h : s ≠ ⟨l.toArray⟩) : (s.toList == l) = false := by
  rw [beq_eq_false_iff_ne, Lib.toList_data]
  intro e
  apply h
  apply ByteArray.ext
  rw [← e]
theorem sf_or (s : ByteArray) (h1 : s ≠ yrB) (h2 : s ≠ kyB) : isSF s = Lib.containsS fws s := by
  unfold isSF
  rw [Bool.eq_iff_iff, Lib.containsS_iff, Lib.containsS_iff]
  unfold sfs
  simp [h1, h2]
set_option maxHeartbeats 1000000 in
theorem sfield_s (s : ByteArray) (r : Bool) (w : World) (hr : isSF s = r) : Calls Tryd.prog 48 #[.string s] w fun e w' => e = .returned (.bool r) ∧ Below w.heap.size w w' := by
  by_cases h1 : s = yrB
  · subst h1
    have HR : Hid (r = true) := Lib.hid (by rw [← hr]; rfl)
    clear hr
    unfold yrB
    go_enter Tryd.func48, Tryd.ntmps48
    go_wp2_with fail
    go_ret
    exact ⟨by rw [HR.out]; rfl, Below.refl _ _⟩
  · by_cases h2 : s = kyB
    · subst h2
      have HR : Hid (r = true) := Lib.hid (by rw [← hr]; rfl)
      clear hr h1
      unfold kyB
      go_enter Tryd.func48, Tryd.ntmps48
      go_wp2_with fail
      go_ret
      exact ⟨by rw [HR.out]; rfl, Below.refl _ _⟩
    · have e1 := ne_lit (l := [121, 101, 97, 114]) h1
      have e2 := ne_lit (l := [107, 101, 121]) h2
      have HR := Lib.hid ((sf_or s h1 h2).symm.trans hr)
      clear hr h1 h2
      go_enter Tryd.func48, Tryd.ntmps48
      go_wp2_with fail
      refine (l4Fields _).mono ?_
      rintro e w1 ⟨rfl, hc, b1⟩
      have HI := Lib.hid (l9In _ 8 8 fws s r w1 rfl (by decide) hc HR.out)
      clear hc
      go_wp2_with fail
      refine HI.out.mono ?_
      rintro e w2 ⟨rfl, rfl⟩
      go_wp2_with fail
      go_ret
      exact ⟨rfl, b1⟩
/-- the words of the kinds -/
def kdw : List (List UInt8) := [[98, 111, 111, 107], [97, 114, 116, 105, 99, 108, 101], [99, 104, 97, 112, 116, 101, 114], [114, 101, 112, 111, 114, 116]]
/-- the kind of a word, or 0 -/
def kd (s : ByteArray) : Nat := if s = ba [98, 111, 111, 107] then 1 else if s = ba [97, 114, 116, 105, 99, 108, 101] then 2 else if s = ba [99, 104, 97, 112, 116, 101, 114] then 3 else if s = ba [114, 101, 112, 111, 114, 116] then 4 else 0
theorem ba_ne {s : ByteArray} {l : List UInt8} (h : s ≠ ba l) : (s.toList == l) = false := ne_lit h
theorem ba_ne' {s : ByteArray} {l : List UInt8} (h : s ≠ ba l) : (l == s.toList) = false := by
  rw [beq_eq_false_iff_ne]
  intro e
  have := ba_ne h
  rw [← e] at this
  simp at this
theorem ba_ne2 {s : ByteArray} {l : List UInt8} (h : s ≠ ba l) : ((ba l).toList == s.toList) = false := by
  rw [beq_eq_false_iff_ne, Lib.toList_data, Lib.toList_data]
  intro e
  apply h
  rw [← ba_toList s, ← e, toList_ba]
theorem kd_le (s : ByteArray) : kd s ≤ 4 := by unfold kd; repeat' split <;> try omega
theorem strTab_get {w : World} (h : StrTab 1 kdw w) : w.cell? ⟨1, 0, none⟩ = some (.string (ba [98, 111, 111, 107])) ∧ w.cell? ⟨1, 1, none⟩ = some (.string (ba [97, 114, 116, 105, 99, 108, 101])) ∧ w.cell? ⟨1, 2, none⟩ = some (.string (ba [99, 104, 97, 112, 116, 101, 114])) ∧ w.cell? ⟨1, 3, none⟩ = some (.string (ba [114, 101, 112, 111, 114, 116])) :=
  ⟨h.2 0 _ rfl, h.2 1 _ rfl, h.2 2 _ rfl, h.2 3 _ rfl⟩
theorem run_ix (cs : Array Value) (i : Nat) (v : Value) (hi : i < 4) (hv : cs[i]? = some v) (w : World) : (Instr.index 101 (.agg cs) (.int .i64 (i : Int))).run Tryd.prog w = .ok v w := by
  obtain ⟨i0, h0, _⟩ := info_parts infoS
  have hs : Tryd.prog.cellsOf 9 = 1 := by kernel_rfl
  have hi' : (i : Int) < 4 := by omega
  simp [Instr.index, run_underlying Tryd.underlying101, asIntOf, run_sizeOf w h0, hs, hi', hi, hv, go_sem]
/-- what kindOfWord answers -/
def kdV (s : ByteArray) : Value := if kd s = 0 then .tuple #[.int .i64 0, .bool false] else .tuple #[.int .i64 (kd s), .bool true]
set_option maxHeartbeats 4000000 in
theorem kind_i (s : ByteArray) (w : World) (ht : StrTab 1 kdw w) : Calls Tryd.prog 65 #[.string s] w fun e w' => e = .returned (kdV s) ∧ w = w' := by
  obtain ⟨c0, c1, c2, c3⟩ := strTab_get ht
  have HV := Lib.hid (show kdV s = if kd s = 0 then .tuple #[.int .i64 0, .bool false] else .tuple #[.int .i64 (kd s), .bool true] from rfl)
  have HK : Hid (kd s = if s = ba [98, 111, 111, 107] then 1 else if s = ba [97, 114, 116, 105, 99, 108, 101] then 2 else if s = ba [99, 104, 97, 112, 116, 101, 114] then 3 else if s = ba [114, 101, 112, 111, 114, 116] then 4 else 0) := Lib.hid rfl
  clear ht
  generalize hz : kdV s = z at *
  generalize kd s = q at *
  clear hz
  obtain ⟨b0, B0⟩ : ∃ b, Hid (b = ba [98, 111, 111, 107]) := ⟨_, Lib.hid rfl⟩
  obtain ⟨b1, B1⟩ : ∃ b, Hid (b = ba [97, 114, 116, 105, 99, 108, 101]) := ⟨_, Lib.hid rfl⟩
  obtain ⟨b2, B2⟩ : ∃ b, Hid (b = ba [99, 104, 97, 112, 116, 101, 114]) := ⟨_, Lib.hid rfl⟩
  obtain ⟨b3, B3⟩ : ∃ b, Hid (b = ba [114, 101, 112, 111, 114, 116]) := ⟨_, Lib.hid rfl⟩
  rw [← B0.out] at c0
  rw [← B1.out] at c1
  rw [← B2.out] at c2
  rw [← B3.out] at c3
  rw [← B0.out, ← B1.out, ← B2.out, ← B3.out] at HK
  go_enter Tryd.func65, Tryd.ntmps65
  go_wp2_with fail
  clear c0 c1 c2 c3
  go_loop [7] (fun i => ∃ k : Nat, k ≤ 4 ∧ i = .int .i64 k ∧ Hid ((1 ≤ k → s ≠ b0) ∧ (2 ≤ k → s ≠ b1) ∧ (3 ≤ k → s ≠ b2) ∧ (4 ≤ k → s ≠ b3))) (fun i => 4 - (intOf i).toNat)
  case atStart => exact ⟨0, Nat.zero_le _, rfl, Lib.hid ⟨fun h => by omega, fun h => by omega, fun h => by omega, fun h => by omega⟩⟩
  case round =>
    obtain ⟨k, hk, rfl, HD⟩ := hrel
    have hne : ∀ b : ByteArray, s ≠ b → (b.toList == s.toList) = false := fun b h => by
      rw [beq_eq_false_iff_ne, Lib.toList_data, Lib.toList_data]
      intro e
      apply h
      rw [← ba_toList s, ← e, ba_toList]
    have hi0 : ∀ w, (Instr.index 101 (.agg #[.string b0, .string b1, .string b2, .string b3]) (.int .i64 0)).run Tryd.prog w = .ok (.string b0) w := fun w => run_ix _ 0 _ (by decide) rfl w
    have hi1 : ∀ w, (Instr.index 101 (.agg #[.string b0, .string b1, .string b2, .string b3]) (.int .i64 1)).run Tryd.prog w = .ok (.string b1) w := fun w => run_ix _ 1 _ (by decide) rfl w
    have hi2 : ∀ w, (Instr.index 101 (.agg #[.string b0, .string b1, .string b2, .string b3]) (.int .i64 2)).run Tryd.prog w = .ok (.string b2) w := fun w => run_ix _ 2 _ (by decide) rfl w
    have hi3 : ∀ w, (Instr.index 101 (.agg #[.string b0, .string b1, .string b2, .string b3]) (.int .i64 3)).run Tryd.prog w = .ok (.string b3) w := fun w => run_ix _ 3 _ (by decide) rfl w
    rcases k with _ | _ | _ | _ | k
    · by_cases he : s = b0
      · have HF : Hid (z = .tuple #[.int .i64 1, .bool true]) := Lib.hid (by
          obtain ⟨h0, h1, h2, h3⟩ := HD.out
          rw [HV.out, HK.out, if_pos he]; rfl)
        clear HV HK HD hne
        subst he
        go_wp2_with fail
        go_ret2
        exact ⟨by rw [HF.out]; rfl, rfl⟩
      · have hq := hne _ he
        have HN : Hid ((1 ≤ 1 → s ≠ b0) ∧ (2 ≤ 1 → s ≠ b1) ∧ (3 ≤ 1 → s ≠ b2) ∧ (4 ≤ 1 → s ≠ b3)) := Lib.hid (by
          obtain ⟨h0, h1, h2, h3⟩ := HD.out
          exact ⟨fun _ => he, fun h => by omega, fun h => by omega, fun h => by omega⟩)
        clear he hne HD
        go_wp2_with fail
        go_round
        case rel => exact ⟨1, by omega, by go_num, HN⟩
        case measure => simp [intOf]
    · by_cases he : s = b1
      · have HF : Hid (z = .tuple #[.int .i64 2, .bool true]) := Lib.hid (by
          obtain ⟨h0, h1, h2, h3⟩ := HD.out
          rw [HV.out, HK.out, if_neg (h0 (by omega)), if_pos he]; rfl)
        clear HV HK HD hne
        subst he
        go_wp2_with fail
        go_ret2
        exact ⟨by rw [HF.out]; rfl, rfl⟩
      · have hq := hne _ he
        have HN : Hid ((1 ≤ 2 → s ≠ b0) ∧ (2 ≤ 2 → s ≠ b1) ∧ (3 ≤ 2 → s ≠ b2) ∧ (4 ≤ 2 → s ≠ b3)) := Lib.hid (by
          obtain ⟨h0, h1, h2, h3⟩ := HD.out
          exact ⟨fun _ => h0 (by omega), fun _ => he, fun h => by omega, fun h => by omega⟩)
        clear he hne HD
        go_wp2_with fail
        go_round
        case rel => exact ⟨2, by omega, by go_num, HN⟩
        case measure => simp [intOf]
    · by_cases he : s = b2
      · have HF : Hid (z = .tuple #[.int .i64 3, .bool true]) := Lib.hid (by
          obtain ⟨h0, h1, h2, h3⟩ := HD.out
          rw [HV.out, HK.out, if_neg (h0 (by omega)), if_neg (h1 (by omega)), if_pos he]; rfl)
        clear HV HK HD hne
        subst he
        go_wp2_with fail
        go_ret2
        exact ⟨by rw [HF.out]; rfl, rfl⟩
      · have hq := hne _ he
        have HN : Hid ((1 ≤ 3 → s ≠ b0) ∧ (2 ≤ 3 → s ≠ b1) ∧ (3 ≤ 3 → s ≠ b2) ∧ (4 ≤ 3 → s ≠ b3)) := Lib.hid (by
          obtain ⟨h0, h1, h2, h3⟩ := HD.out
          exact ⟨fun _ => h0 (by omega), fun _ => h1 (by omega), fun _ => he, fun h => by omega⟩)
        clear he hne HD
        go_wp2_with fail
        go_round
        case rel => exact ⟨3, by omega, by go_num, HN⟩
        case measure => simp [intOf]
    · by_cases he : s = b3
      · have HF : Hid (z = .tuple #[.int .i64 4, .bool true]) := Lib.hid (by
          obtain ⟨h0, h1, h2, h3⟩ := HD.out
          rw [HV.out, HK.out, if_neg (h0 (by omega)), if_neg (h1 (by omega)), if_neg (h2 (by omega)), if_pos he]; rfl)
        clear HV HK HD hne
        subst he
        go_wp2_with fail
        go_ret2
        exact ⟨by rw [HF.out]; rfl, rfl⟩
      · have hq := hne _ he
        have HN : Hid ((1 ≤ 4 → s ≠ b0) ∧ (2 ≤ 4 → s ≠ b1) ∧ (3 ≤ 4 → s ≠ b2) ∧ (4 ≤ 4 → s ≠ b3)) := Lib.hid (by
          obtain ⟨h0, h1, h2, h3⟩ := HD.out
          exact ⟨fun _ => h0 (by omega), fun _ => h1 (by omega), fun _ => h2 (by omega), fun _ => he⟩)
        clear he hne HD
        go_wp2_with fail
        go_round
        case rel => exact ⟨4, by omega, by go_num, HN⟩
        case measure => simp [intOf]
    · obtain rfl : k = 0 := by omega
      have HF : Hid (z = .tuple #[.int .i64 0, .bool false]) := Lib.hid (by
        obtain ⟨h0, h1, h2, h3⟩ := HD.out
        rw [HV.out, HK.out, if_neg (h0 (by omega)), if_neg (h1 (by omega)), if_neg (h2 (by omega)), if_neg (h3 (by omega))]; rfl)
      clear HV HK HD hne
      go_wp2_with fail
      go_ret2
      exact ⟨by rw [HF.out]; rfl, rfl⟩
/-- the words of the kinds, behind an empty one -/
def kws : List ByteArray := [⟨#[]⟩, ⟨#[98, 111, 111, 107]⟩, ⟨#[97, 114, 116, 105, 99, 108, 101]⟩, ⟨#[99, 104, 97, 112, 116, 101, 114]⟩, ⟨#[114, 101, 112, 111, 114, 116]⟩]
set_option maxHeartbeats 1000000 in
theorem l5Kinds (w : World) : Calls Tryd.prog 60 #[] w fun e w' => ∃ g, e = .returned (.slice (some ⟨g, 0, none⟩) 5 5) ∧ Below w.heap.size w w' ∧ ∀ k, k ≤ 4 → w'.cell? ⟨g, k, none⟩ = some (.string (kws.getD k ⟨#[]⟩)) := by
  go_enter Tryd.func60, Tryd.ntmps60
  go_wp2_with fail
  go_ret
  refine ⟨w.heap.size, rfl, (Below.refl _ w).alloc (Nat.le_refl _) _, fun k hk => ?_⟩
  rcases k with _ | _ | _ | _ | _ | k
  all_goals first | omega | (simp; rfl)
/-- the k-th word is the first from 1 on -/
theorem kd_at {s : ByteArray} {k : Nat} (h1 : 1 ≤ k) (h4 : k ≤ 4) (h : ∀ j, 1 ≤ j → j < k → kws.getD j ⟨#[]⟩ ≠ s) (he : kws.getD k ⟨#[]⟩ = s) : kd s = k := by
  subst he
  rcases k with _ | _ | _ | _ | _ | k
  all_goals first | omega | decide
theorem kd_none {s : ByteArray} (h : ∀ j, 1 ≤ j → j < 5 → kws.getD j ⟨#[]⟩ ≠ s) : kd s = 0 := by
  unfold kd
  rw [if_neg (fun e => h 1 (by decide) (by decide) e.symm), if_neg (fun e => h 2 (by decide) (by decide) e.symm), if_neg (fun e => h 3 (by decide) (by decide) e.symm), if_neg (fun e => h 4 (by decide) (by decide) e.symm)]
set_option maxHeartbeats 1000000 in
theorem kind_s (s : ByteArray) (w : World) : Calls Tryd.prog 50 #[.string s] w fun e w' => e = .returned (.int .i64 (kd s)) ∧ Below w.heap.size w w' := by
  obtain ⟨z, HZ⟩ : ∃ z, Hid (z = kd s) := ⟨_, Lib.hid rfl⟩
  rw [← HZ.out]
  go_enter Tryd.func50, Tryd.ntmps50
  go_wp2_with fail
  refine (l5Kinds _).mono ?_
  rintro e w1 ⟨g, rfl, b1, hc⟩
  have HC := Lib.hid hc
  clear hc
  go_wp2_with fail
  go_loop [4] (fun i => ∃ k : Nat, 1 ≤ k ∧ k ≤ 5 ∧ i = .int .i64 k ∧ Hid (∀ j, 1 ≤ j → j < k → kws.getD j ⟨#[]⟩ ≠ s)) (fun i => 5 - (intOf i).toNat)
  case atStart => exact ⟨1, Nat.le_refl _, by decide, rfl, Lib.hid (fun j h1 h2 => by omega)⟩
  case round =>
    obtain ⟨k, h1, hk, rfl, HD⟩ := hrel
    by_cases hlt : k < 5
    · have hc0 := HC.out k (by omega)
      by_cases he : kws.getD k ⟨#[]⟩ = s
      · have HF : Hid (z = k) := Lib.hid (by rw [HZ.out]; exact kd_at h1 (by omega) HD.out he)
        rw [he] at hc0
        clear he
        go_wp2_with fail
        go_ret
        exact ⟨by rw [HF.out]; rfl, b1⟩
      · have HN : Hid (∀ j, 1 ≤ j → j < k + 1 → kws.getD j ⟨#[]⟩ ≠ s) := Lib.hid (fun j a b => by
          rcases Nat.lt_or_ge j k with h | h
          · exact HD.out j a h
          · have : j = k := by omega
            subst this
            exact he)
        have hq : ((kws.getD k ⟨#[]⟩).toList == s.toList) = false := by
          rw [beq_eq_false_iff_ne, Lib.toList_data, Lib.toList_data]
          intro e
          apply he
          rw [← ba_toList (kws.getD k ⟨#[]⟩), e, ba_toList]
        generalize kws.getD k ⟨#[]⟩ = x at *
        clear he
        go_wp2_with fail
        go_round
        case rel => exact ⟨k + 1, by omega, by omega, by go_num, HN⟩
        case measure => simp [intOf]; omega
    · obtain rfl : k = 5 := by omega
      have HF : Hid (z = 0) := Lib.hid (by rw [HZ.out]; exact kd_none HD.out)
      go_wp2_with fail
      go_ret
      exact ⟨by rw [HF.out]; rfl, b1⟩
end Go.Proofs.YtbibjcmfgpmddaaDoor.Ns
