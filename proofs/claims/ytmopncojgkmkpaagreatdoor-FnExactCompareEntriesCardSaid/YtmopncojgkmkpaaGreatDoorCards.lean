/-
  DERIVED. GIVEN WITH THE SEED: THE CARDS: each row of YtmopncojgkmkpaaGreatDoorRows.lean that lists a variable, with what it lists TIED to the program's text (the seventh form; the later family's looks); each row that meets fmt, with fmt's text TOLD by the authors' own Lean function (tested against real Go, not proved from fmt's source: count such statements apart). THE CARD IS WHAT COUNTS. Prove the row's statement (the work); the ties are given (YtmopncojgkmkpaaGreatDoorTie.lean); close each card by the builder's one call (the guide's Derived/Test/ToyasCard.lean, 'card_holds'). Laid BY PROGRAM, IN A SANDBOX (cutbox-door.mjs). By AI agents, Wed Nov 11 2026. No macro, syntax, notation, axiom, sorry.
-/
import Derived.Test.YtmopncojgkmkpaaGreatDoorRows
import GoSem.ClaimSeven
namespace Go.Proofs.YtmopncojgkmkpaaGreatDoor
namespace Rows

/-- THE TIED CARD OF 'laws.FnExactCompareEntries'. -/
def fnExactCompareEntriesCard : Claim7 := { stood := { row := fnExactCompareEntriesRow, standIns := [], harness := (true, "9fb2b3046cf651495464f72152f1eee303517ac743ac56926e9a7c05c5327e13"), looks := false }, kinds := [], alts := [], laidByText := true, laidKinds := [.data, .sentinel, .pinned, .pinned], laidTests := true, laidLooks := .later }
def FnExactCompareEntriesCardSaid : Prop := Claim7.holds Tryz.pinned (.plain (OpenSpec.ofChange fnExactCompareEntriesSpec)) fnExactCompareEntriesCard

/-- THE SECOND FORM's CARD OF 'laws.FnExactCompareEntries'. -/
def fnExactCompareEntriesUptoCard : Claim7 := { stood := { row := fnExactCompareEntriesUptoRow, standIns := [], harness := (true, "9fb2b3046cf651495464f72152f1eee303517ac743ac56926e9a7c05c5327e13"), looks := false }, kinds := [], alts := [], laidByText := true, laidKinds := [.data, .sentinel, .pinned, .pinned], laidTests := true, laidLooks := .later }
def FnExactCompareEntriesUptoCardSaid : Prop := Claim7.holds Tryz.pinned (.plain (OpenSpec.upto fnExactCompareEntriesSpec)) fnExactCompareEntriesUptoCard
end Rows
end Go.Proofs.YtmopncojgkmkpaaGreatDoor
