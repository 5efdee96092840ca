/-
  Drawing functions of chapter 2: names.
-/
import Derived.Test.YtdjkgkfgnmcldaaDoorDnA
import Derived.Test.YtdjkgkfgnmcldaaDoorNmH
import Derived.RegionTactic
import Derived.BigRegion
namespace Go.Proofs.YtdjkgkfgnmcldaaDoor.StN
open Go.RowKit Pl Cur Draw0 Strs Help Name Nms
set_option linter.unusedVariables false
set_option linter.unusedSimpArgs false

/-- a name of small texts -/
def SmN (x : Nm) : Prop := x.xs.length ≤ 4 ∧ (∀ y ∈ x.xs, Sm y) ∧ Sm x.p ∧ Sm x.f ∧ Sm x.s
/-- a row of names of its own, their given names too -/
def GvL (W : World) (B : Nat) (v : Value) (L : List Nm) : Prop := W.ownsRow B 43 4 v L.length (ncells L) ∧ ∀ x ∈ L, x.xs.length = x.n ∧ Gv W B (.slice x.A x.n x.c) x.xs
theorem own_types {w : World} {b1 b2 s1 s2 n1 n2 : Nat} {e1 e2 : TypeId} {v1 v2 : Value} {xs ys : List Value} (h1 : w.ownsRow b1 e1 s1 v1 n1 xs) (h2 : w.ownsRow b2 e2 s2 v2 n2 ys) (hne : e1 ≠ e2) : v1.ownBlock = none ∨ v1.ownBlock ≠ v2.ownBlock := by
  rcases h1.2 with ⟨rfl, _⟩ | ⟨g, cap, cur, rfl, _, hg, _⟩
  · exact .inl rfl
  · refine .inr fun e => ?_
    rcases h2.2 with ⟨rfl, _⟩ | ⟨g2, cap2, cur2, rfl, _, hg2, _⟩
    · cases e
    · have e' : g = g2 := by simpa [Value.ownBlock] using e
      subst e'
      rw [hg] at hg2
      cases hg2
      exact hne rfl
theorem GvL.kept {W W' : World} {B : Nat} {v : Value} {L : List Nm} {r : Option Nat} (h : GvL W B v L) (hg : W.grownBy W' r) (hr : ∀ j, r = some j → j < B) : GvL W' B v L := by
  have key : ∀ u : Value, (∀ j, u.ownBlock = some j → B ≤ j) → u.ownBlock = none ∨ u.ownBlock ≠ r := fun u hu => by
    cases hb : u.ownBlock with
    | none => exact .inl rfl
    | some k =>
      refine .inr fun e => ?_
      have h1 := hu k hb
      have h2 := hr k e.symm
      omega
  exact ⟨World.ownsRow.kept h.1 hg (key _ fun j hj => (h.1.lt j hj).1), fun x hx => ⟨(h.2 x hx).1, (h.2 x hx).2.kept hg (key _ fun j hj => ((h.2 x hx).2.lt j hj).1)⟩⟩
theorem GvL.alloc {W : World} {B : Nat} {v : Value} {L : List Nm} (h : GvL W B v L) (o : Obj) : GvL (W.alloc o) B v L := ⟨World.ownsRow.alloc h.1 o, fun x hx => ⟨(h.2 x hx).1, (h.2 x hx).2.alloc o⟩⟩
/-- the row has grown by a name -/
theorem GvL.snoc {W W' : World} {B : Nat} {v v' : Value} {L : List Nm} {x : Nm} (h : GvL W B v L) (hx : x.xs.length = x.n) (hG : Gv W B (.slice x.A x.n x.c) x.xs) (hg : W.grownBy W' v.ownBlock)
    (ho : W'.ownsRow B 43 4 v' (L.length + 1) (ncells L ++ [.slice x.A x.n x.c, .string x.p, .string x.f, .string x.s])) : GvL W' B v' (L ++ [x]) := by
  refine ⟨by rw [List.length_append, ncells_snoc]; exact ho, fun y hy => ?_⟩
  rcases List.mem_append.1 hy with hy | hy
  · exact ⟨(h.2 y hy).1, (h.2 y hy).2.kept hg (own_types (h.2 y hy).2 h.1 (by decide))⟩
  · rw [List.mem_singleton] at hy
    subst hy
    exact ⟨hx, hG.kept hg (own_types hG h.1 (by decide))⟩
theorem four_new (w : World) (t : TypeId) (a b c d : Value) : ∀ (j : Nat) u, ([a, b, c, d] : List Value)[j]? = some u → (w.alloc (.cells #[a, b, c, d] t)).cell? ((⟨w.heap.size, 0, none⟩ : Addr).add j) = some u := by
  intro j u hj
  match j, hj with
  | 0, hj => simp at hj; subst hj; simp [Addr.add]
  | 1, hj => simp at hj; subst hj; simp [Addr.add]
  | 2, hj => simp at hj; subst hj; simp [Addr.add]
  | 3, hj => simp at hj; subst hj; simp [Addr.add]
  | j + 4, hj => simp at hj
theorem form4 {w : World} {b n : Nat} {e : TypeId} {size : Nat} {v : Value} {xs : List Value} (h : w.ownsRow b e size v n xs) : ∃ A c, v = .slice A n c := by
  rcases h.2 with ⟨rfl, rfl⟩ | ⟨g, cap, cur, rfl, _⟩
  · exact ⟨none, 0, rfl⟩
  · exact ⟨_, _, rfl⟩
/-- a drawn list of names -/
def SomeL (w : World) (g : Nat) (A : Option Addr) (n c k m q : Nat) (e : Ending) (w' : World) : Prop :=
  ∃ v L, e = .returned v ∧ GvL w' w.heap.size v L ∧ L.length ≤ q ∧ (∀ x ∈ L, SmN x) ∧ LeftC w g A n c k m w'
set_option maxRecDepth 100000 in
set_option maxHeartbeats 8000000 in
theorem names_any (g : Nat) (A : Option Addr) (n c k : Nat) (s : Int) (w : World) (hk : k ≤ 1030000) (hn : n ≤ 1048576) (hcur : IsCur w g A n c k s) (hr : RdB w A n) (ha : Apart A n g) :
    Calls Tryd.prog 26 #[.pointer (some ⟨g, 0, none⟩)] w (SomeL w g A n c k 100 3) := by
  obtain ⟨i0, hi, hz0, hz1, hz2⟩ := info_parts infoNm
  have hgl : g < w.heap.size := hcur.lt
  have HA := Lib.hid ha
  have HS0 := Lib.hid ((St.start hcur hr ha).alloc (.cells #[] 43))
  have HG0 : Hid (GvL (w.alloc (.cells #[] 43)) w.heap.size (.slice (some ⟨w.heap.size, 0, none⟩) 0 0) []) := Lib.hid ⟨World.ownsRow_lit (base := w.heap.size) (e := 43) (size := 4) w #[] 0 (Nat.le_refl _) (Nat.zero_le _) rfl, fun x hx => by cases hx⟩
  clear hcur hr ha
  go_enter Tryd.func26, Tryd.ntmps26
  go_wp2_with fail
  generalize w.alloc _ = w0 at HS0 HG0 ⊢
  obtain ⟨k1, s1, hk1, hc1⟩ := HS0.out.cur
  refine (pick_any 4 (by omega) (by omega) g A n c k1 s1 _ (by omega) hn hc1 HS0.out.rd HA.out).mono ?_
  rintro e w1 ⟨r, rfl, hr0, hr1, hl⟩
  have HS1 := Lib.hid (HS0.out.call hk1 hl)
  have HG1 := Lib.hid (HG0.out.kept hl.2 (fun j hj => by cases hj; exact hgl))
  obtain ⟨i, rfl⟩ := Int.eq_ofNat_of_zero_le hr0
  clear hl hc1 HS0 HG0
  go_wp2_with fail
  go_loopw [3, 4] (fun v vi wr => ∃ (i km : Nat) (L : List Nm) (Av : Option Addr) (cv nL : Nat), i ≤ 3 ∧ vi = .int .i64 i ∧ v = .slice Av nL cv ∧ Hid (nL = L.length) ∧ nL + i ≤ 3 ∧ km + 30 * i ≤ 92 ∧ Hid (St w g A n c k km wr) ∧ Hid (GvL wr w.heap.size (.slice Av nL cv) L) ∧ Hid (∀ x ∈ L, SmN x)) (fun _ vi _ => (intOf vi).toNat)
  case atStart => exact ⟨i, _, [], _, _, 0, by omega, rfl, rfl, Lib.hid rfl, by omega, by omega, HS1, HG1, Lib.hid (fun x hx => by cases hx)⟩
  case round =>
    obtain ⟨i, km, L, Av, cv, nL, hi3, rfl, rfl, HnL, hLi, hkm, HS, HG, HX⟩ := hrel
    by_cases h0 : 0 < i
    · have hi0 : (0 : Int) < (i : Int) := by omega
      obtain ⟨k5, s5, hk5, hc5⟩ := HS.out.cur
      have HNm := Lib.hid (fun w9 (h1 : IsCur w9 g A n c k5 s5) (h2 : RdB w9 A n) => name_any g A n c k5 s5 w9 (by omega) hn h1 h2 HA.out)
      have HC5 := Lib.hid hc5
      clear hc5
      have hi' : nL ≤ 3 := by omega
      go_wp2_with fail
      refine (HNm.out _ HC5.out HS.out.rd).mono ?_
      rintro e w5 ⟨A', c', xs, p, f, sf, rfl, hG, hxl, hX, hp, hf, hs, hl⟩
      have HS5 := Lib.hid (HS.out.call hk5 hl)
      have HG5 := Lib.hid (HG.out.kept hl.2 (fun j hj => by cases hj; exact hgl))
      have HO5 : Hid (w5.ownsRow w.heap.size 43 4 (.slice Av nL cv) nL (ncells L)) := Lib.hid (by have := HG5.out.1; rwa [← HnL.out] at this)
      have hle := HS.out.le
      have hGn := Lib.hid (hG.base (show w.heap.size ≤ wr.heap.size + 1 by omega))
      have HN5 : Hid (SmN ⟨A', xs.length, c', xs, p, f, sf⟩) := Lib.hid ⟨by show xs.length ≤ 4; omega, hX, hp, hf, hs⟩
      have hsz5 := HS5.out.le
      have hxz : xs.length ≤ 4 := by omega
      clear hl hG HS HG HC5 HNm hX hxl
      go_wp2_with (first
        | (at_builtin; go_loud (refine wpList_append_own _ rfl _ _ 24 rfl w.heap.size 43 i0 _ 4 72 Tryd.underlying24 hi hz0 hz1 hz2 rfl (by decide) (.slice Av nL cv) nL (ncells L) rfl (HO5.out.alloc _) ⟨w5.heap.size, 0, none⟩ 1 1 [.slice A' xs.length c', .string p, .string f, .string sf] rfl rfl (four_new _ _ _ _ _ _) (by simp [Value.oneCell']) (by unfold maxLen; omega) (by omega) (by simp; omega) ?_; intro v' w9 hown' hgrow hne; obtain ⟨A9, c9, rfl⟩ := form4 hown'; have HS9 := Lib.hid ((HS5.out.alloc (.cells #[.slice A' xs.length c', .string p, .string f, .string sf] 43)).grow hgrow (fun j hj => (HG5.out.1.lt j hj).1)); have HG9 := Lib.hid (GvL.snoc (x := ⟨A', xs.length, c', xs, p, f, sf⟩) (HG5.out.alloc (.cells #[.slice A' xs.length c', .string p, .string f, .string sf] 43)) rfl (hGn.out.alloc _) hgrow (by rw [← HnL.out]; exact hown')))) | fail)
      have hw1 : IntKind.i64.wrap ((i : Int) - 1) = ((i - 1 : Nat) : Int) := by rw [show (i : Int) - 1 = ((i - 1 : Nat) : Int) by omega]; exact IntWalk.i64_in _ (by omega)
      have HX9 := Lib.hid (show ∀ x ∈ L ++ [⟨A', xs.length, c', xs, p, f, sf⟩], SmN x from fun x hx => by
        rcases List.mem_append.1 hx with h | h
        · exact HX.out x h
        · rw [List.mem_singleton] at h; rw [h]; exact HN5.out)
      clear HG5 HO5 hGn HS5
      go_wp2_with fail
      go_roundw
      case rel => exact ⟨i - 1, _, L ++ [⟨A', xs.length, c', xs, p, f, sf⟩], A9, c9, nL + 1, by omega, by (first | rfl | (congr 1; omega)), rfl, Lib.hid (by rw [List.length_append, ← HnL.out]; rfl), by omega, by omega, HS9, HG9, HX9⟩
      case measure => simp [intOf]; omega
    · obtain rfl : i = 0 := by omega
      go_wp2_with fail
      go_ret
      exact ⟨_, L, rfl, HG.out, by have := HnL.out; omega, HX.out, (HS.out.mono (by omega)).left⟩
end Go.Proofs.YtdjkgkfgnmcldaaDoor.StN
