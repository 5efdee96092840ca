/-
  Contracts of among, and of vBig, for the drawing functions.
-/
import Derived.Test.YtocgpoafhocbbaaDoorDraw0
namespace Go.Proofs.YtocgpoafhocbbaaDoor.Among
open Go.RowKit Pl Cur Draw0

def InList (xs : List Int) (w : World) (g : Nat) (A : Option Addr) (n c k m : Nat) (e : Ending) (w' : World) : Prop := ∃ r, r ∈ xs ∧ e = .returned (.int .i64 r) ∧ LeftC w g A n c k m w'
def Its (w : World) (gl : Nat) (xs : List Int) : Prop := ∀ j x, xs[j]? = some x → w.cell? ⟨gl, j, none⟩ = some (.int .i64 x)
theorem Its.lit {w : World} {cs : Array Value} {t : TypeId} {xs : List Int} (h : cs = (xs.map (Value.int .i64)).toArray) : Its (w.alloc (.cells cs t)) w.heap.size xs := by
  intro j x hx
  subst h
  rw [World.cell?_alloc_mark]
  simp [hx]
set_option maxHeartbeats 1000000 in
theorem among_in (gl cl m : Nat) (xs : List Int) (hxl : xs.length = m) (hm0 : 1 ≤ m) (hm : m ≤ 1000) (g : Nat) (hgl : gl ≠ g) (A : Option Addr) (n c k : Nat) (s : Int) (w : World) (hk : k ≤ 1048570) (hn : n ≤ 1048576) (hcur : IsCur w g A n c k s) (hr : RdB w A n) (ha : Apart A n g) (ht : Its w gl xs) :
    Calls Tryd.prog 48 #[.pointer (some ⟨g, 0, none⟩), .slice (some ⟨gl, 0, none⟩) m cl] w (InList xs w g A n c k 2) := by
  have HR := Lib.hid hr
  have HA := Lib.hid ha
  have HT := Lib.hid ht
  have HL := Lib.hid hxl
  have HG := Lib.hid hgl
  clear hr ha ht hxl hgl
  go_enter Tryd.func48, Tryd.ntmps48
  go_wp2_with fail
  refine (pick_any m hm0 (by omega) g A n c k s _ hk hn hcur HR.out HA.out).mono ?_
  rintro e w1 ⟨r, rfl, hr0, hr1, hl⟩
  obtain ⟨i, rfl⟩ := Int.eq_ofNat_of_zero_le hr0
  have hi : i < m := by omega
  have hix : i < xs.length := by rw [HL.out]; exact hi
  have hc : w1.cell? ⟨gl, i, none⟩ = some (.int .i64 xs[i]) := hl.2.cell (HT.out i _ (List.getElem?_eq_getElem hix)) (by simpa using HG.out)
  have HM := Lib.hid (List.getElem_mem hix)
  have HLf := Lib.hid hl
  clear hl
  generalize xs[i] = x at *
  go_wp2_with fail
  go_ret
  exact ⟨x, HM.out, rfl, HLf.out⟩
/-- a store into a block that is new -/
theorem grown_set {w w1 : World} {g : Option Nat} (h : w.grownBy w1 g) (b o : Nat) (v : Value) (hb : w.heap.size ≤ b) : w.grownBy (w1.setCell ⟨b, o, none⟩ v) g :=
  ⟨h.os, h.tape, h.output, by simpa [World.setCell] using h.size, fun k hk hr => (Below.heap_setCell _ _ _ k (by simp; omega)).trans (h.block k hk hr)⟩
theorem grown_alloc {w w1 : World} {g : Option Nat} (h : w.grownBy w1 g) (o : Obj) : w.grownBy (w1.alloc o) g :=
  grown_trans h (World.grownBy_alloc w1 o _)
theorem cur_set {w : World} {g : Nat} {A : Option Addr} {n c k : Nat} {s : Int} (h : IsCur w g A n c k s) (b o : Nat) (v : Value) (hb : b ≠ g) : IsCur (w.setCell ⟨b, o, none⟩ v) g A n c k s :=
  (Below.heap_setCell _ _ _ g (by simp; omega)).trans h
end Go.Proofs.YtocgpoafhocbbaaDoor.Among
