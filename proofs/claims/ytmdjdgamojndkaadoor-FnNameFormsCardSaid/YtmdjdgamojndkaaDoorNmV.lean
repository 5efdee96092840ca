/-
  Contract of impl.areValidNames.
-/
import Derived.Test.YtmdjdgamojndkaaDoorNm
namespace Go.Proofs.YtmdjdgamojndkaaDoor.Nms
open Go.RowKit Pl Strs Help Name Stands SplitPl NmPl Word Part NGood

theorem okN_ne {xs : List ByteArray} {p f s : ByteArray} (h : okN xs p f s = true) : ∀ x ∈ ls xs, x ≠ [] := by
  rw [okN_eq] at h
  simp only [Bool.and_eq_true] at h
  exact fun x hx => cap_ne (List.all_eq_true.1 h.1.1.1.1 x hx)

/-- a literal of two names -/
theorem rdns_two {w : World} {x y : Nm} (hx : x.In w) (hy : y.In w) (t : TypeId) : RdNs (w.alloc (.cells #[.slice x.A x.n x.c, .string x.p, .string x.f, .string x.s, .slice y.A y.n y.c, .string y.p, .string y.f, .string y.s] t)) (some ⟨w.heap.size, 0, none⟩) [x, y] := by
  have hb := (Below.refl _ w).alloc (Nat.le_refl _) (.cells #[.slice x.A x.n x.c, .string x.p, .string x.f, .string x.s, .slice y.A y.n y.c, .string y.p, .string y.f, .string y.s] t)
  intro j z hz
  match j, hz with
  | 0, hz =>
    cases hz
    exact ⟨hx.below hb, w.heap.size, 0, rfl, by simp, by simp, by simp, by simp, by simp⟩
  | 1, hz =>
    cases hz
    exact ⟨hy.below hb, w.heap.size, 0, rfl, by simp, by simp, by simp, by simp, by simp⟩
  | j + 2, hz => simp at hz

end Go.Proofs.YtmdjdgamojndkaaDoor.Nms
