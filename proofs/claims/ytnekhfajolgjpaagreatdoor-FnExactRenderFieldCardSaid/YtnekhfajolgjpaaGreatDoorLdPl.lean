/-
  Plain mathematics of the long forms of dates. Nothing of the program is named here.
-/
import Derived.Test.YtnekhfajolgjpaaGreatDoorDtTx
namespace Go.Proofs.YtnekhfajolgjpaaGreatDoor.LdPl
open Pl NmPl ReadPl DtPl DtTx

/-- the names of the months, behind an empty one -/
def mons : List (List UInt8) := [[],
  [74, 97, 110, 117, 97, 114, 121],
  [70, 101, 98, 114, 117, 97, 114, 121],
  [77, 97, 114, 99, 104],
  [65, 112, 114, 105, 108],
  [77, 97, 121],
  [74, 117, 110, 101],
  [74, 117, 108, 121],
  [65, 117, 103, 117, 115, 116],
  [83, 101, 112, 116, 101, 109, 98, 101, 114],
  [79, 99, 116, 111, 98, 101, 114],
  [78, 111, 118, 101, 109, 98, 101, 114],
  [68, 101, 99, 101, 109, 98, 101, 114]]
def mon (m : Nat) : List UInt8 := mons.getD m []
/-- the months' names as strings -/
def monB (m : Nat) : ByteArray := ba (mon m)
theorem mon_ne {m : Nat} (h : 1 ≤ m ∧ m ≤ 12) : mon m ≠ [] ∧ (mon m).length ≤ 9 := by
  obtain ⟨h1, h2⟩ := h
  rcases m with _ | _ | _ | _ | _ | _ | _ | _ | _ | _ | _ | _ | _ | m
  all_goals first | omega | exact ⟨by decide, by decide⟩
def nd : List UInt8 := [110, 46, 100, 46]
def ca : List UInt8 := [99, 97, 46, 32]
/-- the long form -/
def lbody (y m d : Nat) : List UInt8 := (if d = 0 then [] else Lib.decDigits d ++ [32]) ++ ((if m = 0 then [] else mon m ++ [32]) ++ Lib.decDigits y)
def ltext (y m d : Nat) (c : Bool) : List UInt8 := if y = 0 then nd else (if c then ca else []) ++ lbody y m d
theorem jn3 (a b z : List UInt8) (hz : z ≠ []) : jn [a, b, z] = (if a = [] then [] else a ++ [32]) ++ ((if b = [] then [] else b ++ [32]) ++ z) := by
  simp only [jn, List.foldl_cons, List.foldl_nil]
  unfold jstep
  by_cases ha : a = [] <;> by_cases hb : b = []
  all_goals simp [ha, hb, hz]
end Go.Proofs.YtnekhfajolgjpaaGreatDoor.LdPl
