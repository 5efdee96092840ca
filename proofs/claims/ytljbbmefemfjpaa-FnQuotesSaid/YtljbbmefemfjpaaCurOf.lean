/-
  Contract of the drawing cursor: of.
-/
import Derived.Test.YtljbbmefemfjpaaCurP
namespace Go.Proofs.Ytljbbmefemfjpaa.Cur
open Go.RowKit Pl

set_option maxHeartbeats 1000000 in
theorem of_any (P : ByteArray → Prop) (gl cl m : Nat) (xs : List ByteArray) (hx : ∀ x ∈ xs, P x) (hxl : xs.length = m) (hm0 : 1 ≤ m) (hm : m ≤ 1000) (g : Nat) (hgl : gl ≠ g) (A : Option Addr) (n c k : Nat) (s : Int) (w : World) (hk : k ≤ 1048570) (hn : n ≤ 1048576) (hcur : IsCur w g A n c k s) (hr : RdB w A n) (ha : Apart A n g) (ht : Txt w gl xs) :
    Calls Try.prog 57 #[.pointer (some ⟨g, 0, none⟩), .slice (some ⟨gl, 0, none⟩) m cl] w (SomeStr P w g A n c k 2) := by
  have HR := Lib.hid hr
  have HA := Lib.hid ha
  have HT := Lib.hid ht
  have HX := Lib.hid hx
  have HL := Lib.hid hxl
  have HG := Lib.hid hgl
  clear hr ha ht hx hxl hgl
  go_enter Try.func57, Try.ntmps57
  go_wp2_with fail
  refine (pick_any m hm0 (by omega) g A n c k s _ hk hn hcur HR.out HA.out).mono ?_
  rintro e w1 ⟨r, rfl, hr0, hr1, hl⟩
  obtain ⟨i, rfl⟩ := Int.eq_ofNat_of_zero_le hr0
  have hi : i < m := by omega
  have hix : i < xs.length := by rw [HL.out]; exact hi
  have hc : w1.cell? ⟨gl, i, none⟩ = some (.string xs[i]) := hl.2.cell (HT.out i _ (List.getElem?_eq_getElem hix)) (by simpa using HG.out)
  have HP := Lib.hid (HX.out _ (List.getElem_mem hix))
  have HLf := Lib.hid hl
  clear hl
  generalize xs[i] = x at *
  go_wp2_with fail
  go_ret
  exact ⟨x, HP.out, rfl, HLf.out⟩

end Go.Proofs.Ytljbbmefemfjpaa.Cur
