/-
  Lists of keys: areKeys, l13Keys; the place of a text in a list: l13Number, slices.Index; CitedPlace of both.
-/
import Derived.Test.YtioajkkkncjndaaStrs
import Derived.Test.YtioajkkkncjndaaKtK
namespace Go.Proofs.Ytioajkkkncjndaa.Ck
open Go.RowKit Pl Stands SplitPl NmPl Strs Kt
set_option linter.unusedSimpArgs false
set_option linter.unusedVariables false

def aks (m : Nat) (xs : List ByteArray) : Bool := decide (xs.length ≤ m) && xs.all keyB
theorem take_at {xs : List ByteArray} {k : Nat} {x : ByteArray} (h : xs[k]? = some x) : xs.take (k + 1) = xs.take k ++ [x] := by rw [List.take_add_one, h]; rfl
theorem all_at {xs : List ByteArray} {k : Nat} {x : ByteArray} (h : xs[k]? = some x) : (xs.take (k + 1)).all keyB = ((xs.take k).all keyB && keyB x) := by
  rw [take_at h, List.all_append]; simp
theorem all_no {xs : List ByteArray} {k : Nat} {x : ByteArray} (h : xs[k]? = some x) (h2 : keyB x = false) : xs.all keyB = false := by
  rw [List.all_eq_false]
  exact ⟨x, List.mem_of_getElem? h, by simp [h2]⟩
theorem aks_len {m : Nat} {xs : List ByteArray} (h : m < xs.length) : aks m xs = false := by unfold aks; rw [decide_eq_false (by omega)]; rfl
theorem aks_all {m : Nat} {xs : List ByteArray} (h : xs.length ≤ m) : aks m xs = xs.all keyB := by unfold aks; rw [decide_eq_true h]; rfl
set_option maxHeartbeats 2000000 in
theorem areKeys_i (A : Option Addr) (c n m : Nat) (xs : List ByteArray) (r : Bool) (w : World) (hr : RdS w A xs) (hn : xs.length = n) (hm : n ≤ 1048576) (hm2 : m ≤ 1048576) (hxs : ∀ x ∈ xs, x.size ≤ 1048576) (h : aks m xs = r) :
    Calls Try.prog 25 #[.slice A n c, .int .i64 m] w fun e w' => e = .returned (.bool r) ∧ w = w' := by
  have HR := Lib.hid hr
  have HN := Lib.hid hn
  have HX := Lib.hid hxs
  have HV := Lib.hid h
  clear hr hn hxs h
  by_cases hbig : m < n
  · have HE : Hid (r = false) := Lib.hid (by rw [← HV.out]; exact aks_len (by rw [HN.out]; exact hbig))
    have hg : decide ((m : Int) < (n : Int)) = true := by simp; omega
    go_enter Try.func25, Try.ntmps25
    go_wp2_with fail
    go_ret
    exact ⟨by rw [HE.out]; rfl, rfl⟩
  · have HE : Hid (r = xs.all keyB) := Lib.hid (by rw [← HV.out]; exact aks_all (by rw [HN.out]; omega))
    have hg : decide ((m : Int) < (n : Int)) = false := by simp; omega
    clear HV
    go_enter Try.func25, Try.ntmps25
    go_wp2_with fail
    go_loop [13] (fun i => ∃ k : Nat, k ≤ n ∧ i = .int .i64 k ∧ Hid ((xs.take k).all keyB = true)) (fun i => n - (intOf i).toNat)
    case atStart => exact ⟨0, Nat.zero_le _, rfl, Lib.hid rfl⟩
    case round =>
      obtain ⟨k, hk, rfl, HO⟩ := hrel
      by_cases hlt : k < n
      · obtain ⟨x, hx⟩ : ∃ x, xs[k]? = some x := ⟨_, List.getElem?_eq_getElem (by rw [HN.out]; exact hlt)⟩
        obtain ⟨g, o, rfl, hc0⟩ := HR.out k x hx
        have hxz := HX.out x (List.mem_of_getElem? hx)
        have HO1 := Lib.hid (all_at hx)
        have HNo := Lib.hid (fun h => all_no hx h)
        clear hx
        cases hok : keyB x with
        | false =>
          have HP := Lib.hid (isKey_any x false w hxz hok)
          have HE2 : Hid (r = false) := Lib.hid (by rw [HE.out]; exact HNo.out hok)
          clear hok
          go_wp2_with fail
          refine HP.out.mono ?_
          rintro e w' ⟨rfl, rfl⟩
          go_wp2_with fail
          go_ret
          exact ⟨by rw [HE2.out]; rfl, rfl⟩
        | true =>
          have HP := Lib.hid (isKey_any x true w hxz hok)
          have HO2 : Hid ((xs.take (k + 1)).all keyB = true) := Lib.hid (by rw [HO1.out, HO.out, Bool.true_and]; exact hok)
          clear hok
          go_wp2_with fail
          refine HP.out.mono ?_
          rintro e w' ⟨rfl, rfl⟩
          go_wp2_with fail
          go_round
          case rel => exact ⟨k + 1, by omega, by go_num, HO2⟩
          case measure => simp [intOf]; omega
      · have HE2 : Hid (r = true) := Lib.hid (by rw [HE.out]; have := HO.out; rw [List.take_of_length_le (by rw [HN.out]; omega)] at this; exact this)
        go_wp2_with fail
        go_ret
        exact ⟨by rw [HE2.out]; rfl, rfl⟩
set_option maxHeartbeats 2000000 in
theorem l13Keys_s (A : Option Addr) (c n m : Nat) (xs : List ByteArray) (r : Bool) (w : World) (hr : RdS w A xs) (hn : xs.length = n) (hm : n ≤ 1048576) (hm2 : m ≤ 1048576) (hxs : ∀ x ∈ xs, x.size ≤ 1048576) (h : aks m xs = r) :
    Calls Try.prog 18 #[.slice A n c, .int .i64 m] w fun e w' => e = .returned (.bool r) ∧ w = w' := by
  have HR := Lib.hid hr
  have HN := Lib.hid hn
  have HX := Lib.hid hxs
  have HV := Lib.hid h
  clear hr hn hxs h
  go_enter Try.func18, Try.ntmps18
  go_wp2_with fail
  go_loop [5] (fun i => ∃ k : Nat, k ≤ n ∧ i = .int .i64 k ∧ Hid ((xs.take k).all keyB = true)) (fun i => n - (intOf i).toNat)
  case atStart => exact ⟨0, Nat.zero_le _, rfl, Lib.hid rfl⟩
  case round =>
    obtain ⟨k, hk, rfl, HO⟩ := hrel
    by_cases hlt : k < n
    · obtain ⟨x, hx⟩ : ∃ x, xs[k]? = some x := ⟨_, List.getElem?_eq_getElem (by rw [HN.out]; exact hlt)⟩
      obtain ⟨g, o, rfl, hc0⟩ := HR.out k x hx
      have hxz := HX.out x (List.mem_of_getElem? hx)
      have HO1 := Lib.hid (all_at hx)
      have HNo := Lib.hid (fun h => all_no hx h)
      clear hx
      cases hok : keyB x with
      | false =>
        have HP := Lib.hid (l4Key_any x false w hxz hok)
        have HE2 : Hid (r = false) := Lib.hid (by rw [← HV.out]; unfold aks; rw [HNo.out hok, Bool.and_false])
        clear hok
        go_wp2_with fail
        refine HP.out.mono ?_
        rintro e w' ⟨rfl, rfl⟩
        go_wp2_with fail
        go_ret
        exact ⟨by rw [HE2.out]; rfl, rfl⟩
      | true =>
        have HP := Lib.hid (l4Key_any x true w hxz hok)
        have HO2 : Hid ((xs.take (k + 1)).all keyB = true) := Lib.hid (by rw [HO1.out, HO.out, Bool.true_and]; exact hok)
        clear hok
        go_wp2_with fail
        refine HP.out.mono ?_
        rintro e w' ⟨rfl, rfl⟩
        go_wp2_with fail
        go_round
        case rel => exact ⟨k + 1, by omega, by go_num, HO2⟩
        case measure => simp [intOf]; omega
    · have HA : Hid (xs.all keyB = true) := Lib.hid (by have := HO.out; rw [List.take_of_length_le (by rw [HN.out]; omega)] at this; exact this)
      have HE2 : Hid (r = decide (n ≤ m)) := Lib.hid (by rw [← HV.out]; unfold aks; rw [HA.out, Bool.and_true, HN.out])
      have HE3 : Hid (decide ((n : Int) ≤ (m : Int)) = decide (n ≤ m)) := Lib.hid (by simp)
      by_cases hnm : n ≤ m
      · have hg : decide ((n : Int) ≤ (m : Int)) = true := by simp; omega
        have HE4 : Hid (r = true) := Lib.hid (by rw [HE2.out]; exact decide_eq_true hnm)
        go_wp2_with fail
        go_ret
        exact ⟨by rw [HE4.out]; rfl, rfl⟩
      · have hg : decide ((n : Int) ≤ (m : Int)) = false := by simp; omega
        have HE4 : Hid (r = false) := Lib.hid (by rw [HE2.out]; exact decide_eq_false hnm)
        go_wp2_with fail
        go_ret
        exact ⟨by rw [HE4.out]; rfl, rfl⟩

/-- the place of t in a list, counted from k + 1; 0: none -/
def plc (t : ByteArray) : List ByteArray → Nat → Nat
  | [], _ => 0
  | x :: r, k => if x = t then k + 1 else plc t r (k + 1)
theorem plc_at {xs : List ByteArray} {k : Nat} {x : ByteArray} (t : ByteArray) (h : xs[k]? = some x) : plc t (xs.drop k) k = if x = t then k + 1 else plc t (xs.drop (k + 1)) (k + 1) := by
  have hk := (List.getElem?_eq_some_iff.1 h).1
  have he := (List.getElem?_eq_some_iff.1 h).2
  rw [List.drop_eq_getElem_cons hk, he]; rfl
theorem plc_le (t : ByteArray) (xs : List ByteArray) (k : Nat) : plc t xs k ≤ k + xs.length := by
  induction xs generalizing k with
  | nil => simp [plc]
  | cons x r ih =>
    unfold plc; split
    · simp
    · have := ih (k + 1); simp; omega
theorem plc_pos (t : ByteArray) (xs : List ByteArray) (k : Nat) : 0 < plc t xs k ↔ t ∈ xs := by
  induction xs generalizing k with
  | nil => simp [plc]
  | cons x r ih =>
    unfold plc; split
    · rename_i h; simp [h]
    · rename_i h
      rw [ih]
      have : ¬ t = x := fun e => h e.symm
      simp [this]
theorem ne_s {a b : ByteArray} (h : a ≠ b) : (a.toList == b.toList) = false := by
  rw [beq_eq_false_iff_ne]
  intro e
  rw [Lib.toList_data, Lib.toList_data] at e
  exact h (ByteArray.ext (Array.ext' e))
set_option maxHeartbeats 2000000 in
theorem l13Number_s (A : Option Addr) (c n : Nat) (xs : List ByteArray) (t : ByteArray) (w : World) (hr : RdS w A xs) (hn : xs.length = n) (hm : n ≤ 1048576) :
    Calls Try.prog 24 #[.slice A n c, .string t] w fun e w' => e = .returned (.int .i64 (plc t xs 0 : Nat)) ∧ w = w' := by
  have HR := Lib.hid hr
  have HN := Lib.hid hn
  clear hr hn
  go_enter Try.func24, Try.ntmps24
  go_wp2_with fail
  go_loop [5] (fun i => ∃ k : Nat, k ≤ n ∧ i = .int .i64 k ∧ Hid (plc t (xs.drop k) k = plc t xs 0)) (fun i => n - (intOf i).toNat)
  case atStart => exact ⟨0, Nat.zero_le _, rfl, Lib.hid rfl⟩
  case round =>
    obtain ⟨k, hk, rfl, HO⟩ := hrel
    by_cases hlt : k < n
    · obtain ⟨x, hx⟩ : ∃ x, xs[k]? = some x := ⟨_, List.getElem?_eq_getElem (by rw [HN.out]; exact hlt)⟩
      obtain ⟨g, o, rfl, hc0⟩ := HR.out k x hx
      have HP := Lib.hid (plc_at t hx)
      clear hx
      by_cases he : x = t
      · subst he
        have HE : Hid (plc x xs 0 = k + 1) := Lib.hid (by rw [← HO.out, HP.out, if_pos rfl])
        clear HP
        go_wp2_with fail
        go_ret
        exact ⟨by rw [HE.out]; go_num, rfl⟩
      · have hne := ne_s he
        have HE : Hid (plc t (xs.drop (k + 1)) (k + 1) = plc t xs 0) := Lib.hid (by rw [← HO.out, HP.out, if_neg he])
        clear HP he
        go_wp2_with fail
        go_round
        case rel => exact ⟨k + 1, by omega, by go_num, HE⟩
        case measure => simp [intOf]; omega
    · have HE : Hid (plc t xs 0 = 0) := Lib.hid (by rw [← HO.out, List.drop_eq_nil_of_le (by rw [HN.out]; omega)]; rfl)
      go_wp2_with fail
      go_ret
      exact ⟨by rw [HE.out]; rfl, rfl⟩
set_option maxHeartbeats 2000000 in
theorem index_i (A : Option Addr) (c n : Nat) (xs : List ByteArray) (t : ByteArray) (z : Int) (w : World) (hr : RdS w A xs) (hn : xs.length = n) (hm : n ≤ 1048576) (hz : ((plc t xs 0 : Nat) : Int) - 1 = z) :
    Calls Try.prog 26 #[.slice A n c, .string t] w fun e w' => e = .returned (.int .i64 z) ∧ w = w' := by
  have HR := Lib.hid hr
  have HN := Lib.hid hn
  have HZ := Lib.hid hz
  clear hr hn hz
  go_enter Try.func26, Try.ntmps26
  go_wp2_with fail
  go_loop [8] (fun i => ∃ k : Nat, k ≤ n ∧ i = .int .i64 k ∧ Hid (plc t (xs.drop k) k = plc t xs 0)) (fun i => n - (intOf i).toNat)
  case atStart => exact ⟨0, Nat.zero_le _, rfl, Lib.hid rfl⟩
  case round =>
    obtain ⟨k, hk, rfl, HO⟩ := hrel
    by_cases hlt : k < n
    · obtain ⟨x, hx⟩ : ∃ x, xs[k]? = some x := ⟨_, List.getElem?_eq_getElem (by rw [HN.out]; exact hlt)⟩
      obtain ⟨g, o, rfl, hc0⟩ := HR.out k x hx
      have HP := Lib.hid (plc_at t hx)
      clear hx
      by_cases he : x = t
      · subst he
        have HE : Hid (z = (k : Int)) := Lib.hid (by rw [← HZ.out, ← HO.out, HP.out, if_pos rfl]; omega)
        clear HP HZ
        go_wp2_with fail
        go_ret
        exact ⟨by rw [HE.out]; rfl, rfl⟩
      · have hne := ne_s (Ne.symm he)
        have HE : Hid (plc t (xs.drop (k + 1)) (k + 1) = plc t xs 0) := Lib.hid (by rw [← HO.out, HP.out, if_neg he])
        clear HP he
        go_wp2_with fail
        go_round
        case rel => exact ⟨k + 1, by omega, by go_num, HE⟩
        case measure => simp [intOf]; omega
    · have HE : Hid (z = -1) := Lib.hid (by rw [← HZ.out, ← HO.out, List.drop_eq_nil_of_le (by rw [HN.out]; omega)]; rfl)
      go_wp2_with fail
      go_ret
      exact ⟨by rw [HE.out]; rfl, rfl⟩
/-- what CitedPlace answers -/
def cpV (xs : List ByteArray) (t : ByteArray) : Value := if aks 120 xs = true then .tuple #[.int .i64 (plc t xs 0 : Nat), .bool (decide (0 < plc t xs 0))] else .tuple #[.int .i64 0, .bool false]
theorem cpV_form (xs : List ByteArray) (t : ByteArray) : ∃ z r, cpV xs t = .tuple #[.int .i64 z, .bool r] := by unfold cpV; split <;> exact ⟨_, _, rfl⟩
set_option maxHeartbeats 2000000 in
theorem place_s (A : Option Addr) (c n : Nat) (xs : List ByteArray) (t : ByteArray) (w : World) (hr : RdS w A xs) (hn : xs.length = n) (hm : n ≤ 1048576) (hxs : ∀ x ∈ xs, x.size ≤ 1048576) :
    Calls Try.prog 15 #[.slice A n c, .string t] w fun e w' => e = .returned (cpV xs t) ∧ w = w' := by
  have HK := Lib.hid (fun r h => l13Keys_s A c n 120 xs r w hr hn hm (by omega) hxs h)
  have HN := Lib.hid (l13Number_s A c n xs t w hr hn hm)
  clear hr hn hm hxs
  cases hk : aks 120 xs with
  | false =>
    have HE : Hid (cpV xs t = .tuple #[.int .i64 0, .bool false]) := Lib.hid (by unfold cpV; rw [hk]; rfl)
    have HK1 := Lib.hid (HK.out false hk)
    clear HK HN hk
    go_enter Try.func15, Try.ntmps15
    go_wp2_with fail
    refine HK1.out.mono ?_
    rintro e w' ⟨rfl, rfl⟩
    go_wp2_with fail
    go_ret2
    exact ⟨by rw [HE.out]; rfl, rfl⟩
  | true =>
    have HE : Hid (cpV xs t = .tuple #[.int .i64 (plc t xs 0 : Nat), .bool (decide (0 < plc t xs 0))]) := Lib.hid (by unfold cpV; rw [hk]; rfl)
    have HK1 := Lib.hid (HK.out true hk)
    clear HK hk
    generalize plc t xs 0 = p at *
    go_enter Try.func15, Try.ntmps15
    go_wp2_with fail
    refine HK1.out.mono ?_
    rintro e w' ⟨rfl, rfl⟩
    go_wp2_with fail
    refine HN.out.mono ?_
    rintro e w' ⟨rfl, rfl⟩
    go_wp2_with fail
    go_ret2
    exact ⟨by rw [HE.out]; first | rfl | simp, rfl⟩
set_option maxHeartbeats 2000000 in
theorem place_i (A : Option Addr) (c n : Nat) (xs : List ByteArray) (t : ByteArray) (w : World) (hr : RdS w A xs) (hn : xs.length = n) (hm : n ≤ 1048576) (hxs : ∀ x ∈ xs, x.size ≤ 1048576) :
    Calls Try.prog 17 #[.slice A n c, .string t] w fun e w' => e = .returned (cpV xs t) ∧ w = w' := by
  have HK := Lib.hid (fun r h => areKeys_i A c n 120 xs r w hr hn hm (by omega) hxs h)
  have HN := Lib.hid (fun z h => index_i A c n xs t z w hr hn hm h)
  have hple : plc t xs 0 ≤ 1048576 := by have := plc_le t xs 0; omega
  clear hr hn hm hxs
  cases hk : aks 120 xs with
  | false =>
    have HE : Hid (cpV xs t = .tuple #[.int .i64 0, .bool false]) := Lib.hid (by unfold cpV; rw [hk]; rfl)
    have HK1 := Lib.hid (HK.out false hk)
    clear HK HN hk
    go_enter Try.func17, Try.ntmps17
    go_wp2_with fail
    refine HK1.out.mono ?_
    rintro e w' ⟨rfl, rfl⟩
    go_wp2_with fail
    go_ret2
    exact ⟨by rw [HE.out]; rfl, rfl⟩
  | true =>
    have HE : Hid (cpV xs t = .tuple #[.int .i64 (plc t xs 0 : Nat), .bool (decide (0 < plc t xs 0))]) := Lib.hid (by unfold cpV; rw [hk]; rfl)
    have HK1 := Lib.hid (HK.out true hk)
    clear HK hk
    generalize plc t xs 0 = p at *
    have HN1 := Lib.hid (HN.out _ rfl)
    clear HN
    obtain ⟨z, hz⟩ : ∃ z : Int, (p : Int) - 1 = z := ⟨_, rfl⟩
    rw [hz] at HN1
    have HE2 : Hid (z + 1 = (p : Int)) := Lib.hid (by omega)
    have hw1 : IntKind.i64.wrap (z + 1) = (p : Int) := by rw [HE2.out]; exact IntWalk.i64_in _ (by omega)
    clear hz
    go_enter Try.func17, Try.ntmps17
    go_wp2_with fail
    refine HK1.out.mono ?_
    rintro e w' ⟨rfl, rfl⟩
    go_wp2_with fail
    refine HN1.out.mono ?_
    rintro e w' ⟨rfl, rfl⟩
    go_wp2_with fail
    go_ret2
    exact ⟨by rw [HE.out]; first | rfl | simp, rfl⟩
end Go.Proofs.Ytioajkkkncjndaa.Ck
