/-
  Contracts of the laws' helpers over slices of strings: eqStringS, markText, heldStringS, markStringS.
-/
import Derived.Test.YtkbjddppapjphaaRows
import Derived.WalkKit
import Derived.LoopTactic
import Derived.Lib.Hide
import Derived.Deep.QuietTactic
import Derived.BigQuiet
import Derived.Below
import Derived.Deep.RegionHeld3
import Derived.Laws.BytesArg
namespace Go.Proofs.Ytkbjddppapjphaa.Strs
open Go.RowKit

/-- the slice at address A holds the strings xs -/
def RdS (w : World) (A : Option Addr) (xs : List ByteArray) : Prop :=
  ∀ j x, xs[j]? = some x → ∃ g o, A = some ⟨g, o, none⟩ ∧ w.cell? ⟨g, o + j, none⟩ = some (.string x)

set_option maxHeartbeats 400000 in
theorem eqStringS_same (A1 A2 : Option Addr) (c1 c2 : Nat) (xs : List ByteArray) (w : World) (h1 : RdS w A1 xs) (h2 : RdS w A2 xs) (hl : xs.length ≤ 2097152) :
    Calls Try.prog 29 #[.slice A1 xs.length c1, .slice A2 xs.length c2] w fun e w' => e = .returned (.bool true) ∧ ∃ n, w' = w.drewN n := by
  have H1 := Lib.hid h1
  have H2 := Lib.hid h2
  clear h1 h2
  obtain ⟨n, HN⟩ : ∃ n, Hid (n = xs.length) := ⟨_, Lib.hid rfl⟩
  rw [← HN.out] at hl ⊢
  go_enter Try.func29, Try.ntmps29
  go_wp2
  go_loopw [5] (fun i wr => ∃ k : Nat, k ≤ n ∧ i = .int .i64 k ∧ ∃ q, wr = w.drewN q) (fun i _ => n - (intOf i).toNat)
  case atStart => exact ⟨0, Nat.zero_le _, rfl, 0, rfl⟩
  case round =>
    obtain ⟨k, hk, rfl, q, rfl⟩ := hrel
    by_cases hlt : k < n
    · have hx : k < xs.length := by have := HN.out; omega
      obtain ⟨g1, o1, rfl, hc1⟩ := H1.out k xs[k] (List.getElem?_eq_getElem hx)
      obtain ⟨g2, o2, rfl, hc2⟩ := H2.out k xs[k] (List.getElem?_eq_getElem hx)
      generalize xs[k] = x at hc1 hc2
      go_wp2
      go_quiet (fail)
      go_wp2
      go_roundw
      case rel => exact ⟨k + 1, by omega, by go_num, _, rfl⟩
      case measure => simp [intOf]; omega
    · go_wp2
      go_ret
      exact ⟨rfl, _, rfl⟩

/-- the digits of k ahead of acc, as markText lays them -/
def digs : Nat → List UInt8 → List UInt8
  | 0, acc => acc
  | k + 1, acc => digs ((k + 1) / 10) ((48 + UInt8.ofNat ((k + 1) % 10)) :: acc)
termination_by k => k
decreasing_by omega
def mkT (k : Nat) : ByteArray := ⟨(109 :: digs k []).toArray⟩

theorem str1 (wr : World) (x : Int) :
    (convert 64 9 (.slice (some ⟨wr.heap.size, 0, none⟩) 1 1)).run Try.prog (wr.alloc (.cells #[.int .u8 x] 5)) = .ok (.string ⟨#[UInt8.ofNat x.toNat]⟩) (wr.alloc (.cells #[.int .u8 x] 5)) := by
  refine (run_convert_bytes_arg _ 64 5 Try.underlying64 Try.underlying5 wr.heap.size 0 1 1 [x] rfl (fun i hi => ?_) 9 Try.underlying9)
  obtain rfl : i = 0 := by omega
  simp
theorem cat_lists (a b : List UInt8) : (ByteArray.mk a.toArray) ++ (ByteArray.mk b.toArray) = ⟨(a ++ b).toArray⟩ := by
  apply ByteArray.ext; simp
theorem digs_step (j : Nat) (acc : List UInt8) (h : 0 < j) : digs j acc = digs (j / 10) ((48 + UInt8.ofNat (j % 10)) :: acc) := by
  obtain ⟨i, rfl⟩ : ∃ i, j = i + 1 := ⟨j - 1, by omega⟩
  rw [digs]
theorem cat1 (j : Nat) (acc : List UInt8) : (ByteArray.mk #[48 + UInt8.ofNat (j % 10)]) ++ (ByteArray.mk acc.toArray) = ⟨((48 + UInt8.ofNat (j % 10)) :: acc).toArray⟩ :=
  cat_lists [_] acc

set_option maxHeartbeats 400000 in
theorem markText_any (k : Nat) (w : World) (h0 : 0 < k) (hk : k ≤ 4194304) :
    Calls Try.prog 58 #[.int .i64 k] w fun e w' => e = .returned (.string (mkT k)) ∧ Below w.heap.size w w' := by
  have hd : decide ((k : Int) ≤ 0) = false := by simp; omega
  have hd' : decide (k = 0) = false := by simp; omega
  go_enter Try.func58, Try.ntmps58
  go_wp2
  clear hd hd'
  have HK := Lib.hid (rfl : digs k [] = digs k [])
  generalize hD : digs k [] = D at HK
  have HD := Lib.hid hD
  clear hD HK
  go_loopw [0, 3] (fun i t wr => ∃ (j : Nat) (acc : List UInt8), acc.length + j ≤ k ∧ i = .int .i64 j ∧ t = .string ⟨acc.toArray⟩ ∧ digs j acc = D ∧ Below w.heap.size w wr) (fun i _ _ => (intOf i).toNat)
  case atStart => exact ⟨k, [], by simp, rfl, rfl, HD.out, Below.refl _ _⟩
  case round =>
    obtain ⟨j, acc, hj, rfl, rfl, ha, hb⟩ := hrel
    have HA := Lib.hid ha
    clear ha
    by_cases hlt : 0 < j
    · have hs := str1 wr (48 + (j : Int) % 10)
      go_wp2
      go_roundw
      case rel => exact ⟨j / 10, (48 + UInt8.ofNat (j % 10)) :: acc, by simp; omega, by go_num, by rw [cat1], by rw [← digs_step j acc hlt]; exact HA.out, hb.alloc (by have := hb.size; omega) _⟩
      case measure => simp [intOf]; omega
    · go_wp2
      go_ret
      obtain rfl : j = 0 := by omega
      have e : acc = digs k [] := by rw [HD.out, ← HA.out, digs]
      exact ⟨by subst e; rfl, hb⟩

/-- the marks k, k + 1, .. -/
def marks (k n : Nat) : List ByteArray := (List.range n).map fun i => mkT (k + i)
theorem marks_len (k n : Nat) : (marks k n).length = n := by simp [marks]
theorem marks_at {k n j : Nat} (h : j < n) : (marks k n)[j]? = some (mkT (k + j)) := by simp [marks, h]

set_option maxHeartbeats 400000 in
theorem heldStringS_marks (A : Option Addr) (c k0 n : Nat) (w : World) (h : RdS w A (marks k0 n)) (hA : ∀ a, A = some a → a.block < w.heap.size) (h0 : 0 < k0) (hl : k0 + n ≤ 4194304) :
    Calls Try.prog 39 #[.slice A n c, .int .i64 k0] w fun e w' => e = .returned (.int .i64 (k0 + n)) ∧ Below w.heap.size w w' := by
  have H := Lib.hid h
  have HA := Lib.hid hA
  clear h hA
  go_enter Try.func39, Try.ntmps39
  go_wp2
  go_loopw [1, 5] (fun m i wr => ∃ k : Nat, k ≤ n ∧ i = .int .i64 k ∧ m = .int .i64 ((k0 : Int) + k) ∧ Below w.heap.size w wr) (fun _ i _ => n - (intOf i).toNat)
  case atStart => exact ⟨0, Nat.zero_le _, rfl, by simp, Below.refl _ _⟩
  case round =>
    obtain ⟨k, hk, rfl, rfl, hb⟩ := hrel
    by_cases hlt : k < n
    · obtain ⟨g, o, rfl, hc0⟩ := H.out k _ (marks_at hlt)
      have hg : g < w.heap.size := HA.out _ rfl
      have hc : wr.cell? ⟨g, o + k, none⟩ = some (.string (mkT (k0 + k))) := (hb.cell (p := ⟨g, o + k, none⟩) hg).trans hc0
      have hz := hb.size
      clear hc0
      go_wp2
      go_region_held3 (fun w' => w'.cell? ⟨g, o + k, none⟩ = some (.string (mkT (k0 + k)))) (go_keep)
        (first | (go_at_call 58; refine (markText_any (k0 + k) _ (by omega) (by omega)).mono ?_; rintro e w' ⟨rfl, hb'⟩; have hc' : w'.cell? ⟨g, o + k, none⟩ = some (.string (mkT (k0 + k))) := (hb'.cell (p := ⟨g, o + k, none⟩) (show g < wr.heap.size by omega)).trans hc))
      go_wp2
      go_roundw
      case rel => exact ⟨k + 1, by omega, by go_num, by go_num, hb.drew.trans (hb'.mono hz)⟩
      case measure => simp [intOf]; omega
    · obtain rfl : k = n := by omega
      go_wp2
      go_ret
      exact ⟨rfl, hb⟩

/-- after j rounds: the first j strings are marks -/
def marked (k j : Nat) (xs : List ByteArray) : List ByteArray := marks k j ++ xs.drop j
theorem marked_set (k j : Nat) (xs : List ByteArray) (h : j < xs.length) : ((marked k j xs).map Value.string).set j (.string (mkT (k + j))) = (marked k (j + 1) xs).map Value.string := by
  apply List.ext_getElem?
  intro i
  have hl : j = (marks k j).length := (marks_len k j).symm
  rw [List.getElem?_set]
  by_cases hij : j = i
  · subst hij
    have : j < ((marked k j xs).map Value.string).length := by simp [marked, marks_len]; omega
    rw [if_pos rfl, if_pos this]
    simp only [marked, List.getElem?_map]
    rw [List.getElem?_append_left (by rw [marks_len]; omega), marks_at (by omega)]
    rfl
  · simp only [if_neg hij, marked, List.getElem?_map]
    congr 1
    rcases Nat.lt_or_ge i j with hi | hi
    · rw [List.getElem?_append_left (by rw [marks_len]; omega), List.getElem?_append_left (by rw [marks_len]; omega), marks_at hi, marks_at (by omega)]
    · rw [List.getElem?_append_right (by rw [marks_len]; omega), List.getElem?_append_right (by rw [marks_len]; omega), List.getElem?_drop, List.getElem?_drop, marks_len, marks_len]
      congr 1; omega

theorem grown_below {w w1 w2 : World} {row : Option Nat} (h : w.grownBy w1 row) (hb : Below w1.heap.size w1 w2) : w.grownBy w2 row :=
  ⟨hb.os.trans h.os, hb.tape.trans h.tape, hb.output.trans h.output, Nat.le_trans h.size hb.size, fun k hk hr => (hb.block k (Nat.lt_of_lt_of_le hk h.size)).trans (h.block k hk hr)⟩
theorem grown_trans {w w1 w2 : World} {row : Option Nat} (h : w.grownBy w1 row) (hb : w1.grownBy w2 row) : w.grownBy w2 row :=
  ⟨hb.os.trans h.os, hb.tape.trans h.tape, hb.output.trans h.output, Nat.le_trans h.size hb.size, fun k hk hr => (hb.block k (Nat.lt_of_lt_of_le hk h.size) hr).trans (h.block k hk hr)⟩
theorem own_below {w w1 : World} {base : Nat} {e : TypeId} {size : Nat} {v : Value} {n : Nat} {xs : List Value} (h : w.ownsRow base e size v n xs) (hb : Below w.heap.size w w1) : w1.ownsRow base e size v n xs := by
  refine ⟨h.1, ?_⟩
  rcases h.2 with h' | ⟨g, cap, cur, e1, e2, e3, e4⟩
  · exact .inl h'
  · refine .inr ⟨g, cap, cur, e1, e2, ?_, e4⟩
    have hg : g < w.heap.size := by
      rcases Nat.lt_or_ge g w.heap.size with hlt | hge
      · exact hlt
      · rw [Array.getElem?_eq_none hge] at e3; cases e3
    exact (hb.block g hg).trans e3

theorem marked_cell {w : World} {base n cap g k0 k : Nat} {xs : List ByteArray} {e : TypeId} (h : w.ownsRow base e 1 (.slice (some ⟨g, 0, none⟩) n cap) n ((marked k0 k xs).map Value.string)) (hk : k < xs.length) : ∃ u, w.cell? ⟨g, k, none⟩ = some u := by
  have hl : ((marked k0 k xs).map Value.string).length = n := by have := h.1; omega
  have hm : (marked k0 k xs).length = xs.length := by simp [marked, marks_len]; omega
  have hl' : xs.length = n := by rw [← hl, List.length_map, hm]
  rw [World.ownsRow.cellAt h k (by omega)]
  exact ⟨_, List.getElem?_eq_getElem (by omega)⟩

/-- a row of strings of the call's own, marked -/
theorem markStringS_own (base : Nat) (v : Value) (xs : List ByteArray) (k0 n : Nat) (w : World) (h : w.ownsRow base 9 1 v n (xs.map Value.string)) (hn : xs.length = n) (h0 : 0 < k0) (hl : k0 + n ≤ 4194304) :
    Calls Try.prog 38 #[v, .int .i64 k0] w fun e w' => e = .returned (.int .i64 (k0 + n)) ∧ w'.ownsRow base 9 1 v n ((marks k0 n).map Value.string) ∧ w.grownBy w' v.ownBlock := by
  have hxs := marked_set k0
  rcases h.2 with ⟨rfl, rfl⟩ | ⟨g, cap, cur, rfl, hrest⟩
  · obtain rfl : xs = [] := List.eq_nil_of_length_eq_zero hn
    go_enter Try.func38, Try.ntmps38
    go_wp2
    go_loop [1, 5] (fun m i => m = .int .i64 k0 ∧ i = .int .i64 0) (fun _ _ => 0)
    case atStart => exact ⟨rfl, rfl⟩
    case round =>
      obtain ⟨rfl, rfl⟩ := hrel
      go_wp2
      go_ret
      exact ⟨by simp, World.ownsRow_nil _ _ _ _, World.grownBy.refl _ _⟩
  · clear hrest
    have HX := Lib.hid hxs
    have HN := Lib.hid hn
    have H := Lib.hid h
    clear hxs hn h cur
    go_enter Try.func38, Try.ntmps38
    go_wp2
    go_loopw [1, 5] (fun m i wr => ∃ k : Nat, k ≤ n ∧ i = .int .i64 k ∧ m = .int .i64 ((k0 : Int) + k) ∧ Hid (wr.ownsRow base 9 1 (.slice (some ⟨g, 0, none⟩) n cap) n ((marked k0 k xs).map Value.string)) ∧ w.grownBy wr (some g)) (fun _ i _ => n - (intOf i).toNat)
    case atStart => exact ⟨0, Nat.zero_le _, rfl, by simp, by simpa [marked, marks] using H, World.grownBy.refl _ _⟩
    case round =>
      obtain ⟨k, hk, rfl, rfl, ho, hgr⟩ := hrel
      by_cases hlt : k < n
      · have hx : k < xs.length := by rw [HN.out]; exact hlt
        go_wp2_with (go_at_call 58; refine (markText_any (k0 + k) _ (by omega) (by omega)).mono ?_; rintro e w' ⟨rfl, hb'⟩; have ho' := Lib.hid (own_below ho.out hb'); have hf := World.ownsRow.frozenAt ho'.out k; obtain ⟨u, hcl⟩ := marked_cell ho'.out hx)
        go_roundw
        case rel =>
          obtain ⟨s1, s2⟩ := World.ownsRow.stored ho'.out k (.string (mkT (k0 + k)))
          exact ⟨k + 1, by omega, by go_num, by go_num, by rw [← HX.out k xs hx]; exact s1, grown_trans (grown_below hgr hb') s2⟩
        case measure => simp [intOf]; omega
      · obtain rfl : k = n := by omega
        go_wp2
        go_ret
        refine ⟨rfl, ?_, hgr⟩
        have e : marked k0 k xs = marks k0 k := by rw [marked, List.drop_eq_nil_of_le (by rw [HN.out]; exact Nat.le_refl _), List.append_nil]
        rw [← e]; exact ho.out

/-- a slice of the call's own reads as its strings -/
theorem own_rds {w : World} {base : Nat} {e : TypeId} {v : Value} {n : Nat} {xs : List ByteArray} (h : w.ownsRow base e 1 v n (xs.map Value.string)) :
    ∃ A c, v = .slice A n c ∧ xs.length = n ∧ RdS w A xs ∧ (∀ a, A = some a → a.block < w.heap.size) := by
  have hl : xs.length = n := by have := h.1; simpa using this
  rcases h.2 with ⟨rfl, rfl⟩ | ⟨g, cap, cur, rfl, _, hg, _⟩
  · refine ⟨none, 0, rfl, hl, fun j x hx => ?_, fun a ha => by cases ha⟩
    rw [List.eq_nil_of_length_eq_zero hl] at hx
    simp at hx
  · refine ⟨some ⟨g, 0, none⟩, cap, rfl, hl, fun j x hx => ⟨g, 0, rfl, ?_⟩, fun a ha => by cases ha; exact (Array.getElem?_eq_some_iff.1 hg).1⟩
    have hj : j < xs.length := (List.getElem?_eq_some_iff.1 hx).1
    rw [Nat.zero_add, World.ownsRow.cellAt h j (by omega), List.getElem?_map, hx]
    rfl
theorem own_cap {w : World} {base : Nat} {e : TypeId} {A : Option Addr} {n c : Nat} {xs : List Value} (h : w.ownsRow base e 1 (.slice A n c) n xs) : n ≤ c := by
  rcases h.2 with ⟨h', rfl⟩ | ⟨g, cap, cur, h', _, _, hc, _⟩
  · omega
  · simp at h'; omega
theorem RdS.of {w w' : World} {A : Option Addr} {xs : List ByteArray} (h : RdS w A xs) (hA : 0 < xs.length → ∀ a, A = some a → w'.heap[a.block]? = w.heap[a.block]?) : RdS w' A xs := by
  intro j x hx
  replace hA := hA (by have := (List.getElem?_eq_some_iff.1 hx).1; omega)
  obtain ⟨g, o, rfl, hc⟩ := h j x hx
  exact ⟨g, o, rfl, (World.cell?_of_block (a := ⟨g, o + j, none⟩) (hA ⟨g, o, none⟩ rfl)).trans hc⟩
theorem own_of_drewN {w : World} {base : Nat} {e : TypeId} {size : Nat} {v : Value} {n : Nat} {xs : List Value} (h : w.ownsRow base e size v n xs) (k : Nat) : (w.drewN k).ownsRow base e size v n xs := h

/-- a row that was there before another was made is not that other one -/
theorem own_apart {w1 w2 : World} {b0 : Nat} {e0 e1 : TypeId} {s0 s1 : Nat} {v0 v1 : Value} {n0 n1 : Nat} {xs ys : List Value} (h0 : w1.ownsRow b0 e0 s0 v0 n0 xs) (h1 : w2.ownsRow w1.heap.size e1 s1 v1 n1 ys) : v0.ownBlock = none ∨ v0.ownBlock ≠ v1.ownBlock := by
  rcases h : v0.ownBlock with _ | k
  · exact .inl rfl
  · refine .inr fun e => ?_
    have a := (h0.lt k h).2
    have b := (h1.lt k e.symm).1
    omega
/-- the two helpers at the number 1 -/
theorem markStringS_1 (base : Nat) (v : Value) (xs : List ByteArray) (n : Nat) (w : World) (h : w.ownsRow base 9 1 v n (xs.map Value.string)) (hn : xs.length = n) (hl : n ≤ 2097152) :
    Calls Try.prog 38 #[v, .int .i64 1] w fun e w' => e = .returned (.int .i64 (1 + n)) ∧ w'.ownsRow base 9 1 v n ((marks 1 n).map Value.string) ∧ w.grownBy w' v.ownBlock :=
  markStringS_own base v xs 1 n w h hn (by omega) (by omega)
theorem heldStringS_1 (v : Value) (base n : Nat) (w : World) (h : w.ownsRow base 9 1 v n ((marks 1 n).map Value.string)) (hl : n ≤ 2097152) :
    Calls Try.prog 39 #[v, .int .i64 1] w fun e w' => e = .returned (.int .i64 (1 + n)) ∧ Below w.heap.size w w' := by
  obtain ⟨A, c, rfl, _, hr, hA⟩ := own_rds h
  exact heldStringS_marks A c 1 n w hr hA (by omega) (by omega)
theorem eqStringS_own (v1 v2 : Value) (b1 b2 n : Nat) (xs : List ByteArray) (w : World) (h1 : w.ownsRow b1 9 1 v1 n (xs.map Value.string)) (h2 : w.ownsRow b2 9 1 v2 n (xs.map Value.string)) (hl : n ≤ 2097152) :
    Calls Try.prog 29 #[v1, v2] w fun e w' => e = .returned (.bool true) ∧ ∃ n, w' = w.drewN n := by
  obtain ⟨A, c, rfl, hn, hr, _⟩ := own_rds h1
  obtain ⟨A2, c2, rfl, _, hr2, _⟩ := own_rds h2
  subst hn
  exact eqStringS_same A A2 c c2 xs w hr hr2 hl
end Go.Proofs.Ytkbjddppapjphaa.Strs
