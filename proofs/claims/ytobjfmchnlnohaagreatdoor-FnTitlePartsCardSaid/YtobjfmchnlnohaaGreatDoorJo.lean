/-
  Contracts of l6Join of the model and strings.Join at a space.
-/
import Derived.Test.YtobjfmchnlnohaaGreatDoorWdPl
import Derived.Test.YtobjfmchnlnohaaGreatDoorSplitPl
import Derived.Test.YtobjfmchnlnohaaGreatDoorCs
import Derived.Test.YtobjfmchnlnohaaGreatDoorShelf
import Derived.WalkKit
import Derived.LoopTactic
import Derived.Lib.Hide
namespace Go.Proofs.YtobjfmchnlnohaaGreatDoor.Jo
open Go.RowKit Pl TiPl Cs SplitPl
set_option linter.unusedVariables false
set_option linter.unusedSimpArgs false

/-- joined by spaces -/
def jL (xs : List (List UInt8)) : List UInt8 := Lib.join xs [32]
theorem jL_one (x : List UInt8) : jL [x] = x := Lib.join_one x [32]
theorem jL_snoc {l : List (List UInt8)} (h : l ≠ []) (x : List UInt8) : jL (l ++ [x]) = jL l ++ 32 :: x := by
  cases l with
  | nil => exact absurd rfl h
  | cons y r =>
    unfold jL
    rw [List.cons_append, Lib.join_cons, tail_snoc, Lib.join_cons]
    simp
theorem jL_len (l : List (List UInt8)) : (jL l).length ≤ off l := by
  cases l with
  | nil => simp [jL, Lib.join]
  | cons y r =>
    have : ∀ r : List (List UInt8), (Lib.joinTail [32] r).length = off r := by
      intro r
      induction r with
      | nil => rfl
      | cons z r ih => simp [Lib.joinTail, off] at ih ⊢; omega
    unfold jL
    rw [Lib.join_cons, List.length_append, this, off_cons]; omega
theorem off_take (l : List (List UInt8)) (k : Nat) : off (l.take k) ≤ off l := by
  have e : l = l.take k ++ l.drop k := (List.take_append_drop k l).symm
  have := off_app (l.take k) (l.drop k)
  rw [← e] at this
  omega
/-- the slice at address A holds these strings -/
def Rd (w : World) (A : Option Addr) (xs : List (List UInt8)) : Prop :=
  ∀ j x, xs[j]? = some x → ∃ g o, A = some ⟨g, o, none⟩ ∧ w.cell? ⟨g, o + j, none⟩ = some (.string (ba x))
theorem eq_ba {a : ByteArray} {l : List UInt8} (h : a.data.toList = l) : a = ba l := by rw [← h, ba_toList]
theorem ba_cat (a b : ByteArray) : (a ++ b).data.toList = a.data.toList ++ b.data.toList := by simp

set_option maxHeartbeats 1000000 in
theorem l6Join_any (A : Option Addr) (c n : Nat) (xs : List (List UInt8)) (w : World) (h : Rd w A xs) (hn : xs.length = n) (hlim : off xs ≤ 2097152) :
    Calls Tryz.prog 31 #[.slice A n c] w fun e w' => e = .returned (.string (ba (jL xs))) ∧ w = w' := by
  have H := Lib.hid h
  have HN := Lib.hid hn
  have hnb : n ≤ 2097152 := by have := off_ge xs; omega
  clear h hn
  go_enter Tryz.func31, Tryz.ntmps31
  go_wp2_with fail
  go_loop [3, 4] (fun v i => ∃ (k : Nat) (o : ByteArray), k ≤ n ∧ i = .int .i64 k ∧ v = .string o ∧ Hid (o.data.toList = jL (xs.take k)) ∧ o.size ≤ 2097152 ∧ Hid (o.size ≤ off (xs.take k))) (fun _ i => n - (intOf i).toNat)
  case atStart => exact ⟨0, ⟨#[]⟩, Nat.zero_le _, rfl, rfl, Lib.hid rfl, by simp [ByteArray.size], Lib.hid (by simp [ByteArray.size])⟩
  case round =>
    obtain ⟨k, o, hk, rfl, rfl, HO, ho, HZ⟩ := hrel
    by_cases hlt : k < n
    · have hkx : k < xs.length := by rw [HN.out]; exact hlt
      have hx? := List.getElem?_eq_getElem hkx
      obtain ⟨g, of, rfl, hc⟩ := H.out k xs[k] hx?
      have HT : Hid (xs.take (k + 1) = xs.take k ++ [xs[k]]) := Lib.hid (List.take_succ_eq_append_getElem hkx)
      have HL := Lib.hid (off_take xs (k + 1))
      have HS : Hid (off (xs.take (k + 1)) = off (xs.take k) + xs[k].length + 1) := Lib.hid (by rw [HT.out, off_snoc])
      have hsz : (ba xs[k]).size = xs[k].length := ba_size _
      clear hx?
      generalize xs[k] = x at *
      have hsum : o.size + 1 + x.length ≤ 2097152 := by have := HZ.out; have := HS.out; have := HL.out; omega
      by_cases hk0 : 0 < k
      · have hne : xs.take k ≠ [] := fun e => by have := congrArg List.length e; rw [List.length_take, List.length_nil] at this; omega
        have HJ : Hid (jL (xs.take (k + 1)) = jL (xs.take k) ++ 32 :: x) := Lib.hid (by rw [HT.out, jL_snoc hne])
        clear hne
        go_wp2_with fail
        go_round
        case rel =>
          refine ⟨k + 1, _, by omega, by go_num, rfl, Lib.hid ?_, ?_, Lib.hid ?_⟩
          · rw [HJ.out, ← HO.out, ba_cat, ba_cat, toList_ba]; simp
          · rw [ByteArray.size_append, ByteArray.size_append, show (ByteArray.mk #[32]).size = 1 from rfl, ba_size]; omega
          · have := HZ.out; have := HS.out; rw [ByteArray.size_append, ByteArray.size_append, show (ByteArray.mk #[32]).size = 1 from rfl, ba_size]; omega
        case measure => simp [intOf]; omega
      · obtain rfl : k = 0 := by omega
        have hc0 : w.cell? ⟨g, of, none⟩ = some (.string (ba x)) := hc
        have HJ : Hid (jL (xs.take (0 + 1)) = jL (xs.take 0) ++ x) := Lib.hid (by rw [HT.out]; simp [jL, Lib.join])
        go_wp2_with fail
        go_round
        case rel =>
          refine ⟨0 + 1, _, by omega, by go_num, rfl, Lib.hid ?_, ?_, Lib.hid ?_⟩
          · rw [HJ.out, ← HO.out, ba_cat, toList_ba]
          · rw [ByteArray.size_append, ba_size]; omega
          · have := HZ.out; have := HS.out; rw [ByteArray.size_append, ba_size]; omega
        case measure => simp [intOf]; omega
    · have HX : Hid (o = ba (jL xs)) := Lib.hid (by
        have := HO.out
        rw [List.take_of_length_le (by rw [HN.out]; omega)] at this
        exact eq_ba this)
      go_wp2_with fail
      go_ret
      exact ⟨by rw [HX.out]; rfl, rfl⟩

theorem map_ba (xs : List (List UInt8)) : ((xs.map ba).map fun x => x.data.toList) = xs := by
  rw [List.map_map]
  exact (List.map_congr_left (fun x _ => by simp [toList_ba])).trans (List.map_id _)
theorem join_any (A : Option Addr) (c n : Nat) (xs : List (List UInt8)) (w : World) (h : Rd w A xs) (hA : ∀ a, A = some a → a.block < w.heap.size) (hn : xs.length = n) (hcap : n ≤ c) (hlim : off xs ≤ 2097152) :
    Calls Tryz.prog 29 #[.slice A n c, .string ⟨#[32]⟩] w fun e w' => e = .returned (.string (ba (jL xs))) ∧ Below w.heap.size w w' := by
  cases xs with
  | nil =>
    obtain rfl : n = 0 := by simpa using hn.symm
    exact (Tryz.strings_Join_none A c ⟨#[32]⟩ w).mono fun e w' ⟨he, hw⟩ => ⟨he, hw ▸ Below.refl _ _⟩
  | cons x r =>
    obtain ⟨g, o, rfl, _⟩ := h 0 x rfl
    have hg := off_ge (x :: r)
    have hj := jL_len (x :: r)
    have e : (((x :: r).map ba).map fun x => x.data.toList) = x :: r := map_ba _
    have e2 : (ByteArray.mk #[32]).data.toList = [32] := rfl
    have := Tryz.strings_Join g o c ((x :: r).map ba) ⟨#[32]⟩ w (fun j y hy => by
      rw [List.getElem?_map] at hy
      cases hz : (x :: r)[j]? with
      | none => rw [hz] at hy; cases hy
      | some z =>
        rw [hz] at hy
        obtain ⟨g', o', e', hc⟩ := h j z hz
        simp at e' hy
        obtain ⟨rfl, rfl⟩ := e'
        rw [← hy]
        exact hc) (hA _ rfl) (by rw [List.length_map]; omega) (by rw [List.length_map, hn]; exact hcap) (by
        rw [e, e2]
        unfold jL at hj
        omega)
    rw [List.length_map, hn, e, e2] at this
    exact this
/-- what a row of the call's own reads as -/
theorem rd_own {w : World} {base : Nat} {e : TypeId} {v : Value} {l : List (List UInt8)} (h : w.ownsRow base e 1 v l.length (cs l)) :
    ∃ A c, v = .slice A l.length c ∧ Rd w A l ∧ (∀ a, A = some a → a.block < w.heap.size) ∧ l.length ≤ c := by
  rcases own_cells h with ⟨rfl, rfl⟩ | ⟨g, c, rfl, _, hg, hc, hx⟩
  · exact ⟨none, 0, rfl, fun j x hx => by simp at hx, (fun a ha => by cases ha), Nat.le_refl _⟩
  · exact ⟨_, _, rfl, fun j x hj => ⟨g, 0, rfl, by rw [Nat.zero_add]; exact hx j x hj⟩, fun a ha => by cases ha; exact hg, hc⟩
theorem Rd.take {w : World} {A : Option Addr} {xs : List (List UInt8)} (h : Rd w A xs) (k : Nat) : Rd w A (xs.take k) := fun j x hx => by
  rw [List.getElem?_take] at hx
  split at hx
  · exact h j x hx
  · cases hx
theorem Rd.below {w w' : World} {A : Option Addr} {xs : List (List UInt8)} (h : Rd w A xs) (hA : ∀ a, A = some a → a.block < w.heap.size) (hb : Below w.heap.size w w') : Rd w' A xs := fun j x hx => by
  obtain ⟨g, o, rfl, hc⟩ := h j x hx
  exact ⟨g, o, rfl, (hb.cell (p := ⟨g, o + j, none⟩) (show g < w.heap.size from hA _ rfl)).trans hc⟩
end Go.Proofs.YtobjfmchnlnohaaGreatDoor.Jo
