/-
  Contracts of the laws' helpers that mark slices of strings: markText, heldStringS, markStringS.
-/
import Derived.Test.YteccmlpibbchbaaGreatDoorStrs
namespace Go.Proofs.YteccmlpibbchbaaGreatDoor.Strs
open Go.RowKit

/-- the digits of k ahead of acc, as markText lays them -/
def digs : Nat → List UInt8 → List UInt8
  | 0, acc => acc
  | k + 1, acc => digs ((k + 1) / 10) ((48 + UInt8.ofNat ((k + 1) % 10)) :: acc)
termination_by k => k
decreasing_by omega
def mkT (k : Nat) : ByteArray := ⟨(109 :: digs k []).toArray⟩

theorem str1 (wr : World) (x : Int) :
    (convert 92 9 (.slice (some ⟨wr.heap.size, 0, none⟩) 1 1)).run Tryz.prog (wr.alloc (.cells #[.int .u8 x] 5)) = .ok (.string ⟨#[UInt8.ofNat x.toNat]⟩) (wr.alloc (.cells #[.int .u8 x] 5)) := by
  refine (run_convert_bytes_arg _ 92 5 Tryz.underlying92 Tryz.underlying5 wr.heap.size 0 1 1 [x] rfl (fun i hi => ?_) 9 Tryz.underlying9)
  obtain rfl : i = 0 := by omega
  simp
theorem cat_lists (a b : List UInt8) : (ByteArray.mk a.toArray) ++ (ByteArray.mk b.toArray) = ⟨(a ++ b).toArray⟩ := by
  apply ByteArray.ext; simp
theorem digs_step (j : Nat) (acc : List UInt8) (h : 0 < j) : digs j acc = digs (j / 10) ((48 + UInt8.ofNat (j % 10)) :: acc) := by
  obtain ⟨i, rfl⟩ : ∃ i, j = i + 1 := ⟨j - 1, by omega⟩
  rw [digs]
theorem cat1 (j : Nat) (acc : List UInt8) : (ByteArray.mk #[48 + UInt8.ofNat (j % 10)]) ++ (ByteArray.mk acc.toArray) = ⟨((48 + UInt8.ofNat (j % 10)) :: acc).toArray⟩ :=
  cat_lists [_] acc

set_option maxHeartbeats 400000 in
theorem markText_any (k : Nat) (w : World) (h0 : 0 < k) (hk : k ≤ 1073741824) :
    Calls Tryz.prog 38 #[.int .i64 k] w fun e w' => e = .returned (.string (mkT k)) ∧ Below w.heap.size w w' := by
  have hd : decide ((k : Int) ≤ 0) = false := by simp; omega
  have hd' : decide (k = 0) = false := by simp; omega
  go_enter Tryz.func38, Tryz.ntmps38
  go_wp2
  clear hd hd'
  have HK := Lib.hid (rfl : digs k [] = digs k [])
  generalize hD : digs k [] = D at HK
  have HD := Lib.hid hD
  clear hD HK
  go_loopw [0, 3] (fun i t wr => ∃ (j : Nat) (acc : List UInt8), acc.length + j ≤ k ∧ i = .int .i64 j ∧ t = .string ⟨acc.toArray⟩ ∧ digs j acc = D ∧ Below w.heap.size w wr) (fun i _ _ => (intOf i).toNat)
  case atStart => exact ⟨k, [], by simp, rfl, rfl, HD.out, Below.refl _ _⟩
  case round =>
    obtain ⟨j, acc, hj, rfl, rfl, ha, hb⟩ := hrel
    have HA := Lib.hid ha
    clear ha
    by_cases hlt : 0 < j
    · have hs := str1 wr (48 + (j : Int) % 10)
      go_wp2
      go_roundw
      case rel => exact ⟨j / 10, (48 + UInt8.ofNat (j % 10)) :: acc, by simp; omega, by go_num, by rw [cat1], by rw [← digs_step j acc hlt]; exact HA.out, hb.alloc (by have := hb.size; omega) _⟩
      case measure => simp [intOf]; omega
    · go_wp2
      go_ret
      obtain rfl : j = 0 := by omega
      have e : acc = digs k [] := by rw [HD.out, ← HA.out, digs]
      exact ⟨by subst e; rfl, hb⟩

/-- the marks k, k + 1, .. -/
def marks (k n : Nat) : List ByteArray := (List.range n).map fun i => mkT (k + i)
theorem marks_len (k n : Nat) : (marks k n).length = n := by simp [marks]
theorem marks_at {k n j : Nat} (h : j < n) : (marks k n)[j]? = some (mkT (k + j)) := by simp [marks, h]

set_option maxHeartbeats 400000 in
theorem heldStringS_marks (A : Option Addr) (c k0 n : Nat) (w : World) (h : RdS w A (marks k0 n)) (hA : ∀ a, A = some a → a.block < w.heap.size) (h0 : 0 < k0) (hl : k0 + n ≤ 4194304) :
    Calls Tryz.prog 40 #[.slice A n c, .int .i64 k0] w fun e w' => e = .returned (.int .i64 (k0 + n)) ∧ Below w.heap.size w w' := by
  have H := Lib.hid h
  have HA := Lib.hid hA
  clear h hA
  go_enter Tryz.func40, Tryz.ntmps40
  go_wp2
  go_loopw [1, 5] (fun m i wr => ∃ k : Nat, k ≤ n ∧ i = .int .i64 k ∧ m = .int .i64 ((k0 : Int) + k) ∧ Below w.heap.size w wr) (fun _ i _ => n - (intOf i).toNat)
  case atStart => exact ⟨0, Nat.zero_le _, rfl, by simp, Below.refl _ _⟩
  case round =>
    obtain ⟨k, hk, rfl, rfl, hb⟩ := hrel
    by_cases hlt : k < n
    · obtain ⟨g, o, rfl, hc0⟩ := H.out k _ (marks_at hlt)
      have hg : g < w.heap.size := HA.out _ rfl
      have hc : wr.cell? ⟨g, o + k, none⟩ = some (.string (mkT (k0 + k))) := (hb.cell (p := ⟨g, o + k, none⟩) hg).trans hc0
      have hz := hb.size
      clear hc0
      go_wp2
      go_region_held3 (fun w' => w'.cell? ⟨g, o + k, none⟩ = some (.string (mkT (k0 + k)))) (go_keep)
        (first | (go_at_call 38; refine (markText_any (k0 + k) _ (by omega) (by omega)).mono ?_; rintro e w' ⟨rfl, hb'⟩; have hc' : w'.cell? ⟨g, o + k, none⟩ = some (.string (mkT (k0 + k))) := (hb'.cell (p := ⟨g, o + k, none⟩) (show g < wr.heap.size by omega)).trans hc))
      go_wp2
      go_roundw
      case rel => exact ⟨k + 1, by omega, by go_num, by go_num, hb.drew.trans (hb'.mono hz)⟩
      case measure => simp [intOf]; omega
    · obtain rfl : k = n := by omega
      go_wp2
      go_ret
      exact ⟨rfl, hb⟩

/-- after j rounds: the first j strings are marks -/
def marked (k j : Nat) (xs : List ByteArray) : List ByteArray := marks k j ++ xs.drop j
theorem marked_set (k j : Nat) (xs : List ByteArray) (h : j < xs.length) : ((marked k j xs).map Value.string).set j (.string (mkT (k + j))) = (marked k (j + 1) xs).map Value.string := by
  apply List.ext_getElem?
  intro i
  have hl : j = (marks k j).length := (marks_len k j).symm
  rw [List.getElem?_set]
  by_cases hij : j = i
  · subst hij
    have : j < ((marked k j xs).map Value.string).length := by simp [marked, marks_len]; omega
    rw [if_pos rfl, if_pos this]
    simp only [marked, List.getElem?_map]
    rw [List.getElem?_append_left (by rw [marks_len]; omega), marks_at (by omega)]
    rfl
  · simp only [if_neg hij, marked, List.getElem?_map]
    congr 1
    rcases Nat.lt_or_ge i j with hi | hi
    · rw [List.getElem?_append_left (by rw [marks_len]; omega), List.getElem?_append_left (by rw [marks_len]; omega), marks_at hi, marks_at (by omega)]
    · rw [List.getElem?_append_right (by rw [marks_len]; omega), List.getElem?_append_right (by rw [marks_len]; omega), List.getElem?_drop, List.getElem?_drop, marks_len, marks_len]
      congr 1; omega

theorem marked_cell {w : World} {base n cap g k0 k : Nat} {xs : List ByteArray} {e : TypeId} (h : w.ownsRow base e 1 (.slice (some ⟨g, 0, none⟩) n cap) n ((marked k0 k xs).map Value.string)) (hk : k < xs.length) : ∃ u, w.cell? ⟨g, k, none⟩ = some u := by
  have hl : ((marked k0 k xs).map Value.string).length = n := by have := h.1; omega
  have hm : (marked k0 k xs).length = xs.length := by simp [marked, marks_len]; omega
  have hl' : xs.length = n := by rw [← hl, List.length_map, hm]
  rw [World.ownsRow.cellAt h k (by omega)]
  exact ⟨_, List.getElem?_eq_getElem (by omega)⟩

/-- a row of strings of the call's own, marked -/
theorem markStringS_own (base : Nat) (v : Value) (xs : List ByteArray) (k0 n : Nat) (w : World) (h : w.ownsRow base 9 1 v n (xs.map Value.string)) (hn : xs.length = n) (h0 : 0 < k0) (hl : k0 + n ≤ 4194304) :
    Calls Tryz.prog 39 #[v, .int .i64 k0] w fun e w' => e = .returned (.int .i64 (k0 + n)) ∧ w'.ownsRow base 9 1 v n ((marks k0 n).map Value.string) ∧ w.grownBy w' v.ownBlock := by
  have hxs := marked_set k0
  rcases h.2 with ⟨rfl, rfl⟩ | ⟨g, cap, cur, rfl, hrest⟩
  · obtain rfl : xs = [] := List.eq_nil_of_length_eq_zero hn
    go_enter Tryz.func39, Tryz.ntmps39
    go_wp2
    go_loop [1, 5] (fun m i => m = .int .i64 k0 ∧ i = .int .i64 0) (fun _ _ => 0)
    case atStart => exact ⟨rfl, rfl⟩
    case round =>
      obtain ⟨rfl, rfl⟩ := hrel
      go_wp2
      go_ret
      exact ⟨by simp, World.ownsRow_nil _ _ _ _, World.grownBy.refl _ _⟩
  · clear hrest
    have HX := Lib.hid hxs
    have HN := Lib.hid hn
    have H := Lib.hid h
    clear hxs hn h cur
    go_enter Tryz.func39, Tryz.ntmps39
    go_wp2
    go_loopw [1, 5] (fun m i wr => ∃ k : Nat, k ≤ n ∧ i = .int .i64 k ∧ m = .int .i64 ((k0 : Int) + k) ∧ Hid (wr.ownsRow base 9 1 (.slice (some ⟨g, 0, none⟩) n cap) n ((marked k0 k xs).map Value.string)) ∧ w.grownBy wr (some g)) (fun _ i _ => n - (intOf i).toNat)
    case atStart => exact ⟨0, Nat.zero_le _, rfl, by simp, by simpa [marked, marks] using H, World.grownBy.refl _ _⟩
    case round =>
      obtain ⟨k, hk, rfl, rfl, ho, hgr⟩ := hrel
      by_cases hlt : k < n
      · have hx : k < xs.length := by rw [HN.out]; exact hlt
        go_wp2_with (go_at_call 38; refine (markText_any (k0 + k) _ (by omega) (by omega)).mono ?_; rintro e w' ⟨rfl, hb'⟩; have ho' := Lib.hid (own_below ho.out hb'); have hf := World.ownsRow.frozenAt ho'.out k; obtain ⟨u, hcl⟩ := marked_cell ho'.out hx)
        go_roundw
        case rel =>
          obtain ⟨s1, s2⟩ := World.ownsRow.stored ho'.out k (.string (mkT (k0 + k)))
          exact ⟨k + 1, by omega, by go_num, by go_num, by rw [← HX.out k xs hx]; exact s1, grown_trans (grown_below hgr hb') s2⟩
        case measure => simp [intOf]; omega
      · obtain rfl : k = n := by omega
        go_wp2
        go_ret
        refine ⟨rfl, ?_, hgr⟩
        have e : marked k0 k xs = marks k0 k := by rw [marked, List.drop_eq_nil_of_le (by rw [HN.out]; exact Nat.le_refl _), List.append_nil]
        rw [← e]; exact ho.out

/-- the two helpers at the number 1 -/
theorem markStringS_1 (base : Nat) (v : Value) (xs : List ByteArray) (n : Nat) (w : World) (h : w.ownsRow base 9 1 v n (xs.map Value.string)) (hn : xs.length = n) (hl : n ≤ 2097152) :
    Calls Tryz.prog 39 #[v, .int .i64 1] w fun e w' => e = .returned (.int .i64 (1 + n)) ∧ w'.ownsRow base 9 1 v n ((marks 1 n).map Value.string) ∧ w.grownBy w' v.ownBlock :=
  markStringS_own base v xs 1 n w h hn (by omega) (by omega)
theorem heldStringS_1 (v : Value) (base n : Nat) (w : World) (h : w.ownsRow base 9 1 v n ((marks 1 n).map Value.string)) (hl : n ≤ 2097152) :
    Calls Tryz.prog 40 #[v, .int .i64 1] w fun e w' => e = .returned (.int .i64 (1 + n)) ∧ Below w.heap.size w w' := by
  obtain ⟨A, c, rfl, _, hr, hA⟩ := own_rds h
  exact heldStringS_marks A c 1 n w hr hA (by omega) (by omega)
end Go.Proofs.YteccmlpibbchbaaGreatDoor.Strs
