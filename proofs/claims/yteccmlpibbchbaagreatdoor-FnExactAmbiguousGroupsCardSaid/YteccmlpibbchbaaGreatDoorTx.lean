/-
  A text and true, or nothing and false; what a valid name's words are.
-/
import Derived.Test.YteccmlpibbchbaaGreatDoorGFr
namespace Go.Proofs.YteccmlpibbchbaaGreatDoor.Forms
open Go.RowKit Pl Strs Help Name Stands SplitPl NmPl Word Part NGood

/-- a text and true, or nothing and false -/
def txV (l : List UInt8) : Bool → Value
  | true => .tuple #[.string (ba l), .bool true]
  | false => .tuple #[.string ⟨#[]⟩, .bool false]
theorem txV_form (l : List UInt8) (r : Bool) : ∃ t r', txV l r = .tuple #[.string t, .bool r'] := by cases r <;> exact ⟨_, _, rfl⟩
theorem okN_caps {xs : List ByteArray} {p f s : ByteArray} (h : okN xs p f s = true) : ∀ x ∈ ls xs, capB x = true := by
  rw [okN_eq] at h
  simp only [Bool.and_eq_true] at h
  exact fun x hx => List.all_eq_true.1 h.1.1.1.1 x hx
theorem okN_nes {xs : List ByteArray} {p f s : ByteArray} (h : okN xs p f s = true) : Nes xs := fun x hx => cap_ne (okN_caps h x hx)

end Go.Proofs.YteccmlpibbchbaaGreatDoor.Forms
