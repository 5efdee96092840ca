/-
  DERIVED. GIVEN WITH THE SEED: THE CARDS: each row of YteccmlpibbchbaaGreatDoorRows.lean that lists a variable, with what it lists TIED to the program's text (the seventh form; the later family's looks); each row that meets fmt, with fmt's text TOLD by the authors' own Lean function (tested against real Go, not proved from fmt's source: count such statements apart). THE CARD IS WHAT COUNTS. Prove the row's statement (the work); the ties are given (YteccmlpibbchbaaGreatDoorTie.lean); close each card by the builder's one call (the guide's Derived/Test/ToyasCard.lean, 'card_holds'). Laid BY PROGRAM, IN A SANDBOX (cutbox-door.mjs). By AI agents, Wed Nov 11 2026. No macro, syntax, notation, axiom, sorry.
-/
import Derived.Test.YteccmlpibbchbaaGreatDoorRows
import GoSem.ClaimSeven
namespace Go.Proofs.YteccmlpibbchbaaGreatDoor
namespace Rows

/-- THE TIED CARD OF 'laws.FnExactAmbiguousGroups'. -/
def fnExactAmbiguousGroupsCard : Claim7 := { stood := { row := fnExactAmbiguousGroupsRow, standIns := [], harness := (true, "d483c36343c2a79109837cfe4dfa404295beb3eac3bf1c3a8f840d2bfb044bcb"), looks := false }, kinds := [], alts := [], laidByText := true, laidKinds := [.data, .data, .data, .data, .data, .pinned, .pinned], laidTests := true, laidLooks := .later }
def FnExactAmbiguousGroupsCardSaid : Prop := Claim7.holds Tryz.pinned (.plain (OpenSpec.ofChange fnExactAmbiguousGroupsSpec)) fnExactAmbiguousGroupsCard

/-- THE TIED CARD OF 'laws.FnExactDisambiguateNames'. -/
def fnExactDisambiguateNamesCard : Claim7 := { stood := { row := fnExactDisambiguateNamesRow, standIns := [], harness := (true, "d483c36343c2a79109837cfe4dfa404295beb3eac3bf1c3a8f840d2bfb044bcb"), looks := false }, kinds := [], alts := [], laidByText := true, laidKinds := [.data, .data, .data, .data, .data, .pinned, .pinned], laidTests := true, laidLooks := .later }
def FnExactDisambiguateNamesCardSaid : Prop := Claim7.holds Tryz.pinned (.plain (OpenSpec.ofChange fnExactDisambiguateNamesSpec)) fnExactDisambiguateNamesCard

/-- THE SECOND FORM's CARD OF 'laws.FnExactAmbiguousGroups'. -/
def fnExactAmbiguousGroupsUptoCard : Claim7 := { stood := { row := fnExactAmbiguousGroupsUptoRow, standIns := [], harness := (true, "d483c36343c2a79109837cfe4dfa404295beb3eac3bf1c3a8f840d2bfb044bcb"), looks := false }, kinds := [], alts := [], laidByText := true, laidKinds := [.data, .data, .data, .data, .data, .pinned, .pinned], laidTests := true, laidLooks := .later }
def FnExactAmbiguousGroupsUptoCardSaid : Prop := Claim7.holds Tryz.pinned (.plain (OpenSpec.upto fnExactAmbiguousGroupsSpec)) fnExactAmbiguousGroupsUptoCard

/-- THE SECOND FORM's CARD OF 'laws.FnExactDisambiguateNames'. -/
def fnExactDisambiguateNamesUptoCard : Claim7 := { stood := { row := fnExactDisambiguateNamesUptoRow, standIns := [], harness := (true, "d483c36343c2a79109837cfe4dfa404295beb3eac3bf1c3a8f840d2bfb044bcb"), looks := false }, kinds := [], alts := [], laidByText := true, laidKinds := [.data, .data, .data, .data, .data, .pinned, .pinned], laidTests := true, laidLooks := .later }
def FnExactDisambiguateNamesUptoCardSaid : Prop := Claim7.holds Tryz.pinned (.plain (OpenSpec.upto fnExactDisambiguateNamesSpec)) fnExactDisambiguateNamesUptoCard
end Rows
end Go.Proofs.YteccmlpibbchbaaGreatDoor
