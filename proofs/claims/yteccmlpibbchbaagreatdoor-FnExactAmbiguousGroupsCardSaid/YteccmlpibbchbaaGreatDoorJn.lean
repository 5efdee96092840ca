/-
  Contract of joinForms.
-/
import Derived.Test.YteccmlpibbchbaaGreatDoorGNv
import Derived.Test.YteccmlpibbchbaaGreatDoorNmH
import Derived.Test.YteccmlpibbchbaaGreatDoorGIn
import Derived.Deep.RegionWith
namespace Go.Proofs.YteccmlpibbchbaaGreatDoor.Jn
open Go.RowKit Pl Strs Help Name Stands SplitPl NmPl Word Part NGood Forms Cut IniPl Ini Nms
open Cmp (ok_small)
set_option linter.unusedSimpArgs false
set_option linter.unusedVariables false

def etal : List UInt8 := [32, 101, 116, 32, 97, 108, 46]
def nd : List UInt8 := [32, 97, 110, 100, 32]
def cm : List UInt8 := [44, 32]
/-- the first k forms -/
def jpre (F : List (List UInt8)) : Nat → List UInt8
  | 0 => []
  | k + 1 => jpre F k ++ ((if k = 0 then [] else if k + 1 = F.length then nd else cm) ++ F.getD k [])
/-- the joined forms -/
def jnB (F : List (List UInt8)) (q : Nat) : List UInt8 := if q < F.length then F.getD 0 [] ++ etal else jpre F F.length
theorem jnB_more {F : List (List UInt8)} {q : Nat} (h : q < F.length) : jnB F q = F.getD 0 [] ++ etal := if_pos h
theorem jnB_all {F : List (List UInt8)} {q : Nat} (h : F.length ≤ q) : jnB F q = jpre F F.length := if_neg (by omega)

theorem joinAny (A : Option Addr) (c n : Nat) (xs : List ByteArray) (sep : ByteArray) (w : World) (h : Rdn w A n xs) (hcap : n ≤ c) (hn : n ≤ 4) (hlen : (Lib.join (ls xs) sep.data.toList).length ≤ 1048576) :
    Calls Tryz.prog 123 #[.slice A n c, .string sep] w fun e w' => e = .returned (.string (ba (Lib.join (ls xs) sep.data.toList))) ∧ Below w.heap.size w w' := by
  obtain ⟨hr, hA, hl⟩ := h
  cases xs with
  | nil =>
    obtain rfl : n = 0 := by simpa using hl.symm
    exact (Tryz.strings_Join_none A c sep w).mono fun e w' ⟨he, hw⟩ => ⟨he, hw ▸ Below.refl _ _⟩
  | cons x r =>
    have hpos : 0 < n := by rw [← hl]; simp
    obtain ⟨g, o, rfl, _⟩ := hr 0 x rfl
    have := Tryz.strings_Join g o c (x :: r) sep w (fun j y hy => by
      obtain ⟨g', o', e', hc⟩ := hr j y hy
      simp at e'
      obtain ⟨rfl, rfl⟩ := e'
      exact hc) (hA hpos _ rfl) (by rw [hl]; omega) (by rw [hl]; exact hcap) (by
        have e : (List.map (fun x => x.data.toList) (x :: r)) = ls (x :: r) := rfl
        rw [e]; omega)
    rw [hl] at this
    exact this
theorem Rdn.take {w : World} {A : Option Addr} {n : Nat} {xs : List ByteArray} (h : Rdn w A n xs) (k : Nat) (hk : k ≤ n) : Rdn w A k (xs.take k) := by
  refine ⟨fun j x hx => ?_, fun hp a ha => h.2.1 (by omega) a ha, by rw [List.length_take, h.2.2]; omega⟩
  rw [List.getElem?_take] at hx
  split at hx
  · exact h.1 j x hx
  · cases hx
set_option maxHeartbeats 2000000 in
theorem joinF0 (A : Option Addr) (c q : Nat) (w : World) (h : Rdn w A 0 []) (hcap : 0 ≤ c) (hq1 : 1 ≤ q) (hq4 : q ≤ 4) :
    Calls Tryz.prog 105 #[.slice A 0 c, .int .i64 (q : Int)] w fun e w' => e = .returned (.string (ba (jnB (ls []) q))) ∧ Below w.heap.size w w' := by
  have HE : Hid (ba (jnB (ls []) q) = ba (Lib.join (ls []) (ByteArray.mk #[]).data.toList)) := Lib.hid (by rw [jnB_all (by simp [ls]; )]; rfl)
  have HJ := Lib.hid (joinAny A c 0 [] ⟨#[]⟩ w h hcap (by omega) (by simp [ls, Lib.join, Lib.joinTail]))
  rw [← HE.out] at HJ
  clear h HE
  generalize ba (jnB (ls []) q) = z at *
  go_enter Tryz.func105, Tryz.ntmps105
  go_wp2_with fail
  refine HJ.out.mono ?_
  rintro e w1 ⟨rfl, b1⟩
  go_wp2_with fail
  go_ret
  exact ⟨rfl, b1⟩
set_option maxHeartbeats 2000000 in
theorem joinF1 (A : Option Addr) (c q : Nat) (a : ByteArray) (w : World) (h : Rdn w A 1 [a]) (hcap : 1 ≤ c) (hq1 : 1 ≤ q) (hq4 : q ≤ 4) (ha : a.size ≤ 100000) :
    Calls Tryz.prog 105 #[.slice A 1 c, .int .i64 (q : Int)] w fun e w' => e = .returned (.string (ba (jnB (ls [a]) q))) ∧ Below w.heap.size w w' := by
  have HE : Hid (ba (jnB (ls [a]) q) = ba (Lib.join (ls [a]) (ByteArray.mk #[]).data.toList)) := Lib.hid (by rw [jnB_all (by simp [ls]; omega)]; simp [ls, jpre, Lib.join, Lib.joinTail])
  have HJ := Lib.hid (joinAny A c 1 [a] ⟨#[]⟩ w h hcap (by omega) (by have hz : a.data.size = a.size := rfl; simp [ls, Lib.join, Lib.joinTail] <;> omega))
  rw [← HE.out] at HJ
  clear h HE
  generalize ba (jnB (ls [a]) q) = z at *
  go_enter Tryz.func105, Tryz.ntmps105
  go_wp2_with fail
  refine HJ.out.mono ?_
  rintro e w1 ⟨rfl, b1⟩
  go_wp2_with fail
  go_ret
  exact ⟨rfl, b1⟩
set_option maxHeartbeats 2000000 in
theorem joinF2 (A : Option Addr) (c q : Nat) (a b : ByteArray) (w : World) (h : Rdn w A 2 [a, b]) (hcap : 2 ≤ c) (hq1 : 1 ≤ q) (hq4 : q ≤ 4) (ha : a.size ≤ 100000) (hb : b.size ≤ 100000) :
    Calls Tryz.prog 105 #[.slice A 2 c, .int .i64 (q : Int)] w fun e w' => e = .returned (.string (ba (jnB (ls [a, b]) q))) ∧ Below w.heap.size w w' := by
  obtain ⟨g, o, rfl, hc0⟩ := h.1 0 a rfl
  obtain ⟨g', o', e', hcl⟩ := h.1 1 b rfl
  obtain ⟨rfl, rfl⟩ : g = g' ∧ o = o' := by simp at e'; exact e'
  have hg : g < w.heap.size := h.2.1 (by omega) _ rfl
  rw [Nat.add_zero] at hc0
  have hcI : ((1 : Nat) : Int) ≤ (c : Int) := by omega
  by_cases hq : q < 2
  · have HE : Hid (ba (jnB (ls [a, b]) q) = a ++ ⟨#[32, 101, 116, 32, 97, 108, 46]⟩) := Lib.hid (by rw [jnB_more (by simp [ls]; omega)]; apply ByteArray.ext; simp [ls, ba, etal])
    clear h hcl e'
    generalize ba (jnB (ls [a, b]) q) = z at *
    go_enter Tryz.func105, Tryz.ntmps105
    go_wp2_with fail
    go_ret
    exact ⟨by rw [HE.out]; rfl, Below.refl _ _⟩
  · have hjl : (Lib.join (ls [a]) [44, 32]).length ≤ 400000 := by simp [ls, Lib.join, Lib.joinTail, len_size]; omega
    have HE : Hid (ba (jnB (ls [a, b]) q) = ba (Lib.join (ls [a]) [44, 32]) ++ ⟨#[32, 97, 110, 100, 32]⟩ ++ b) := Lib.hid (by
      rw [jnB_all (by simp [ls]; omega)]
      apply ByteArray.ext
      simp [ls, ba, jpre, nd, cm, Lib.join, Lib.joinTail])
    have HR : Hid (Rdn w (some ⟨g, o, none⟩) 1 [a]) := Lib.hid (Rdn.take h 1 (by omega))
    have HJ := Lib.hid (fun w' (hk : Kept w w') => joinAny (some ⟨g, o, none⟩) c 1 [a] ⟨#[44, 32]⟩ w' (HR.out.below hk) (by omega) (by omega) (by show (Lib.join (ls [a]) [44, 32]).length ≤ 1048576; omega))
    have hjz : (ba (Lib.join (ls [a]) [44, 32])).size ≤ 400000 := by rw [ba_size]; exact hjl
    change Hid (∀ w' (hk : Kept w w'), Calls _ _ _ _ fun e w1 => e = .returned (.string (ba (Lib.join (ls [a]) [44, 32]))) ∧ _) at HJ
    clear h hc0 e' hjl
    generalize ba (Lib.join (ls [a]) [44, 32]) = y at *
    generalize ba (jnB (ls [a, b]) q) = z at *
    go_enter Tryz.func105, Tryz.ntmps105
    go_wp2_with fail
    go_region_with (go_at_call 123; refine (HJ.out _ (Kept.drew w)).mono ?_; rintro e w1 ⟨rfl, b1⟩; have hk1 : Kept w w1 := Kept.next (Kept.drew w) b1; have hcl1 := (hk1.cell (p := ⟨g, o + 1, none⟩) hg).trans hcl; clear b1)
    all_goals go_wp2_with fail
    all_goals go_ret
    all_goals exact ⟨by rw [HE.out]; rfl, hk1⟩
set_option maxHeartbeats 2000000 in
theorem joinF3 (A : Option Addr) (c q : Nat) (a b d : ByteArray) (w : World) (h : Rdn w A 3 [a, b, d]) (hcap : 3 ≤ c) (hq1 : 1 ≤ q) (hq4 : q ≤ 4) (ha : a.size ≤ 100000) (hb : b.size ≤ 100000) (hd : d.size ≤ 100000) :
    Calls Tryz.prog 105 #[.slice A 3 c, .int .i64 (q : Int)] w fun e w' => e = .returned (.string (ba (jnB (ls [a, b, d]) q))) ∧ Below w.heap.size w w' := by
  obtain ⟨g, o, rfl, hc0⟩ := h.1 0 a rfl
  obtain ⟨g', o', e', hcl⟩ := h.1 2 d rfl
  obtain ⟨rfl, rfl⟩ : g = g' ∧ o = o' := by simp at e'; exact e'
  have hg : g < w.heap.size := h.2.1 (by omega) _ rfl
  rw [Nat.add_zero] at hc0
  have hcI : ((2 : Nat) : Int) ≤ (c : Int) := by omega
  by_cases hq : q < 3
  · have HE : Hid (ba (jnB (ls [a, b, d]) q) = a ++ ⟨#[32, 101, 116, 32, 97, 108, 46]⟩) := Lib.hid (by rw [jnB_more (by simp [ls]; omega)]; apply ByteArray.ext; simp [ls, ba, etal])
    clear h hcl e'
    generalize ba (jnB (ls [a, b, d]) q) = z at *
    go_enter Tryz.func105, Tryz.ntmps105
    go_wp2_with fail
    go_ret
    exact ⟨by rw [HE.out]; rfl, Below.refl _ _⟩
  · have hjl : (Lib.join (ls [a, b]) [44, 32]).length ≤ 400000 := by simp [ls, Lib.join, Lib.joinTail, len_size]; omega
    have HE : Hid (ba (jnB (ls [a, b, d]) q) = ba (Lib.join (ls [a, b]) [44, 32]) ++ ⟨#[32, 97, 110, 100, 32]⟩ ++ d) := Lib.hid (by
      rw [jnB_all (by simp [ls]; omega)]
      apply ByteArray.ext
      simp [ls, ba, jpre, nd, cm, Lib.join, Lib.joinTail])
    have HR : Hid (Rdn w (some ⟨g, o, none⟩) 2 [a, b]) := Lib.hid (Rdn.take h 2 (by omega))
    have HJ := Lib.hid (fun w' (hk : Kept w w') => joinAny (some ⟨g, o, none⟩) c 2 [a, b] ⟨#[44, 32]⟩ w' (HR.out.below hk) (by omega) (by omega) (by show (Lib.join (ls [a, b]) [44, 32]).length ≤ 1048576; omega))
    have hjz : (ba (Lib.join (ls [a, b]) [44, 32])).size ≤ 400000 := by rw [ba_size]; exact hjl
    change Hid (∀ w' (hk : Kept w w'), Calls _ _ _ _ fun e w1 => e = .returned (.string (ba (Lib.join (ls [a, b]) [44, 32]))) ∧ _) at HJ
    clear h hc0 e' hjl
    generalize ba (Lib.join (ls [a, b]) [44, 32]) = y at *
    generalize ba (jnB (ls [a, b, d]) q) = z at *
    go_enter Tryz.func105, Tryz.ntmps105
    go_wp2_with fail
    go_region_with (go_at_call 123; refine (HJ.out _ (Kept.drew w)).mono ?_; rintro e w1 ⟨rfl, b1⟩; have hk1 : Kept w w1 := Kept.next (Kept.drew w) b1; have hcl1 := (hk1.cell (p := ⟨g, o + 2, none⟩) hg).trans hcl; clear b1)
    all_goals go_wp2_with fail
    all_goals go_ret
    all_goals exact ⟨by rw [HE.out]; rfl, hk1⟩
set_option maxHeartbeats 2000000 in
theorem joinF4 (A : Option Addr) (c q : Nat) (a b d i : ByteArray) (w : World) (h : Rdn w A 4 [a, b, d, i]) (hcap : 4 ≤ c) (hq1 : 1 ≤ q) (hq4 : q ≤ 4) (ha : a.size ≤ 100000) (hb : b.size ≤ 100000) (hd : d.size ≤ 100000) (hi : i.size ≤ 100000) :
    Calls Tryz.prog 105 #[.slice A 4 c, .int .i64 (q : Int)] w fun e w' => e = .returned (.string (ba (jnB (ls [a, b, d, i]) q))) ∧ Below w.heap.size w w' := by
  obtain ⟨g, o, rfl, hc0⟩ := h.1 0 a rfl
  obtain ⟨g', o', e', hcl⟩ := h.1 3 i rfl
  obtain ⟨rfl, rfl⟩ : g = g' ∧ o = o' := by simp at e'; exact e'
  have hg : g < w.heap.size := h.2.1 (by omega) _ rfl
  rw [Nat.add_zero] at hc0
  have hcI : ((3 : Nat) : Int) ≤ (c : Int) := by omega
  by_cases hq : q < 4
  · have HE : Hid (ba (jnB (ls [a, b, d, i]) q) = a ++ ⟨#[32, 101, 116, 32, 97, 108, 46]⟩) := Lib.hid (by rw [jnB_more (by simp [ls]; omega)]; apply ByteArray.ext; simp [ls, ba, etal])
    clear h hcl e'
    generalize ba (jnB (ls [a, b, d, i]) q) = z at *
    go_enter Tryz.func105, Tryz.ntmps105
    go_wp2_with fail
    go_ret
    exact ⟨by rw [HE.out]; rfl, Below.refl _ _⟩
  · have hjl : (Lib.join (ls [a, b, d]) [44, 32]).length ≤ 400000 := by simp [ls, Lib.join, Lib.joinTail, len_size]; omega
    have HE : Hid (ba (jnB (ls [a, b, d, i]) q) = ba (Lib.join (ls [a, b, d]) [44, 32]) ++ ⟨#[32, 97, 110, 100, 32]⟩ ++ i) := Lib.hid (by
      rw [jnB_all (by simp [ls]; omega)]
      apply ByteArray.ext
      simp [ls, ba, jpre, nd, cm, Lib.join, Lib.joinTail])
    have HR : Hid (Rdn w (some ⟨g, o, none⟩) 3 [a, b, d]) := Lib.hid (Rdn.take h 3 (by omega))
    have HJ := Lib.hid (fun w' (hk : Kept w w') => joinAny (some ⟨g, o, none⟩) c 3 [a, b, d] ⟨#[44, 32]⟩ w' (HR.out.below hk) (by omega) (by omega) (by show (Lib.join (ls [a, b, d]) [44, 32]).length ≤ 1048576; omega))
    have hjz : (ba (Lib.join (ls [a, b, d]) [44, 32])).size ≤ 400000 := by rw [ba_size]; exact hjl
    change Hid (∀ w' (hk : Kept w w'), Calls _ _ _ _ fun e w1 => e = .returned (.string (ba (Lib.join (ls [a, b, d]) [44, 32]))) ∧ _) at HJ
    clear h hc0 e' hjl
    generalize ba (Lib.join (ls [a, b, d]) [44, 32]) = y at *
    generalize ba (jnB (ls [a, b, d, i]) q) = z at *
    go_enter Tryz.func105, Tryz.ntmps105
    go_wp2_with fail
    go_region_with (go_at_call 123; refine (HJ.out _ (Kept.drew w)).mono ?_; rintro e w1 ⟨rfl, b1⟩; have hk1 : Kept w w1 := Kept.next (Kept.drew w) b1; have hcl1 := (hk1.cell (p := ⟨g, o + 3, none⟩) hg).trans hcl; clear b1)
    all_goals go_wp2_with fail
    all_goals go_ret
    all_goals exact ⟨by rw [HE.out]; rfl, hk1⟩
theorem joinForms (A : Option Addr) (c n q : Nat) (xs : List ByteArray) (w : World) (h : Rdn w A n xs) (hcap : n ≤ c) (hn : n ≤ 4) (hq1 : 1 ≤ q) (hq4 : q ≤ 4) (hs : ∀ x ∈ xs, x.size ≤ 100000) :
    Calls Tryz.prog 105 #[.slice A n c, .int .i64 (q : Int)] w fun e w' => e = .returned (.string (ba (jnB (ls xs) q))) ∧ Below w.heap.size w w' := by
  obtain rfl := h.2.2
  match xs, hn with
  | [], _ => exact joinF0 A c q w h hcap hq1 hq4
  | [a], _ => exact joinF1 A c q a w h hcap hq1 hq4 (hs a (by simp))
  | [a, b], _ => exact joinF2 A c q a b w h hcap hq1 hq4 (hs a (by simp)) (hs b (by simp))
  | [a, b, d], _ => exact joinF3 A c q a b d w h hcap hq1 hq4 (hs a (by simp)) (hs b (by simp)) (hs d (by simp))
  | [a, b, d, e], _ => exact joinF4 A c q a b d e w h hcap hq1 hq4 (hs a (by simp)) (hs b (by simp)) (hs d (by simp)) (hs e (by simp))
  | a :: b :: d :: e :: f :: r, hn => simp at hn
end Go.Proofs.YteccmlpibbchbaaGreatDoor.Jn
