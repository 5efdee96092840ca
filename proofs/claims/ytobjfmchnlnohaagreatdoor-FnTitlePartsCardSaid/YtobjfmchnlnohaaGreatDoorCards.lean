/-
  DERIVED. GIVEN WITH THE SEED: THE CARDS: each row of YtobjfmchnlnohaaGreatDoorRows.lean that lists a variable, with what it lists TIED to the program's text (the seventh form; the later family's looks); each row that meets fmt, with fmt's text TOLD by the authors' own Lean function (tested against real Go, not proved from fmt's source: count such statements apart). THE CARD IS WHAT COUNTS. Prove the row's statement (the work); the ties are given (YtobjfmchnlnohaaGreatDoorTie.lean); close each card by the builder's one call (the guide's Derived/Test/ToyasCard.lean, 'card_holds'). Laid BY PROGRAM, IN A SANDBOX (cutbox-door.mjs). By AI agents, Wed Nov 11 2026. No macro, syntax, notation, axiom, sorry.
-/
import Derived.Test.YtobjfmchnlnohaaGreatDoorRows
import GoSem.ClaimSeven
namespace Go.Proofs.YtobjfmchnlnohaaGreatDoor
namespace Rows

/-- THE TIED CARD OF 'laws.FnTitleParts'. -/
def fnTitlePartsCard : Claim7 := { stood := { row := fnTitlePartsRow, standIns := [], harness := (true, "3d23143180cef2af7085da8762a358bdff5eb25394d06cae1cfab5f190367cae"), looks := false }, kinds := [], alts := [], laidByText := true, laidKinds := [.data, .listed, .sentinel, .data, .pinned, .pinned], laidTests := true, laidLooks := .later }
def FnTitlePartsCardSaid : Prop := Claim7.holds Tryz.pinned (.plain (OpenSpec.ofChange fnTitlePartsSpec)) fnTitlePartsCard

/-- THE SECOND FORM's CARD OF 'laws.FnTitleParts'. -/
def fnTitlePartsUptoCard : Claim7 := { stood := { row := fnTitlePartsUptoRow, standIns := [], harness := (true, "3d23143180cef2af7085da8762a358bdff5eb25394d06cae1cfab5f190367cae"), looks := false }, kinds := [], alts := [], laidByText := true, laidKinds := [.data, .listed, .sentinel, .data, .pinned, .pinned], laidTests := true, laidLooks := .later }
def FnTitlePartsUptoCardSaid : Prop := Claim7.holds Tryz.pinned (.plain (OpenSpec.upto fnTitlePartsSpec)) fnTitlePartsUptoCard
end Rows
end Go.Proofs.YtobjfmchnlnohaaGreatDoor
