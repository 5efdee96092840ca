/-
  DERIVED. GIVEN WITH THE SEED: THE CARDS: each row of YtocgpoafhocbbaaDoorRows.lean that lists a variable, with what it lists TIED to the program's text (the seventh form; the later family's looks); each row that meets fmt, with fmt's text TOLD by the authors' own Lean function (tested against real Go, not proved from fmt's source: count such statements apart). THE CARD IS WHAT COUNTS. Prove the row's statement (the work); the ties are given (YtocgpoafhocbbaaDoorTie.lean); close each card by the builder's one call (the guide's Derived/Test/ToyasCard.lean, 'card_holds'). Laid BY PROGRAM, IN A SANDBOX (cutbox-door.mjs). By AI agents, Wed Nov 11 2026. No macro, syntax, notation, axiom, sorry.
-/
import Derived.Test.YtocgpoafhocbbaaDoorRows
import GoSem.ClaimSeven
namespace Go.Proofs.YtocgpoafhocbbaaDoor
namespace Rows

/-- THE TIED CARD OF 'laws.FnPageSets'. -/
def fnPageSetsCard : Claim7 := { stood := { row := fnPageSetsRow, standIns := [], harness := (true, "c16d426865e9a3e5052964c8a4c0eff70fd57361ede0b9795e88e53b0f04c188"), looks := false }, kinds := [], alts := [], laidByText := true, laidKinds := [.data, .data, .data], laidTests := true, laidLooks := .later }
def FnPageSetsCardSaid : Prop := Claim7.holds Tryd.pinned (.plain (OpenSpec.ofChange fnPageSetsSpec)) fnPageSetsCard

/-- THE SECOND FORM's CARD OF 'laws.FnPageSets'. -/
def fnPageSetsUptoCard : Claim7 := { stood := { row := fnPageSetsUptoRow, standIns := [], harness := (true, "c16d426865e9a3e5052964c8a4c0eff70fd57361ede0b9795e88e53b0f04c188"), looks := false }, kinds := [], alts := [], laidByText := true, laidKinds := [.data, .data, .data], laidTests := true, laidLooks := .later }
def FnPageSetsUptoCardSaid : Prop := Claim7.holds Tryd.pinned (.plain (OpenSpec.upto fnPageSetsSpec)) fnPageSetsUptoCard
end Rows
end Go.Proofs.YtocgpoafhocbbaaDoor
