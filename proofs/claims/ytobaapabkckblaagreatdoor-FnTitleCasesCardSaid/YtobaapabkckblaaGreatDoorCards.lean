/-
  DERIVED. GIVEN WITH THE SEED: THE CARDS: each row of YtobaapabkckblaaGreatDoorRows.lean that lists a variable, with what it lists TIED to the program's text (the seventh form; the later family's looks); each row that meets fmt, with fmt's text TOLD by the authors' own Lean function (tested against real Go, not proved from fmt's source: count such statements apart). THE CARD IS WHAT COUNTS. Prove the row's statement (the work); the ties are given (YtobaapabkckblaaGreatDoorTie.lean); close each card by the builder's one call (the guide's Derived/Test/ToyasCard.lean, 'card_holds'). Laid BY PROGRAM, IN A SANDBOX (cutbox-door.mjs). By AI agents, Wed Nov 11 2026. No macro, syntax, notation, axiom, sorry.
-/
import Derived.Test.YtobaapabkckblaaGreatDoorRows
import GoSem.ClaimSeven
namespace Go.Proofs.YtobaapabkckblaaGreatDoor
namespace Rows

/-- THE TIED CARD OF 'laws.FnTitleCases'. -/
def fnTitleCasesCard : Claim7 := { stood := { row := fnTitleCasesRow, standIns := [], harness := (true, "fdd5b7b9f99238e77e98efef49788889fdefd95807a0f29b04401ea38253fe88"), looks := false }, kinds := [], alts := [], laidByText := true, laidKinds := [.data, .sentinel, .pinned, .pinned], laidTests := true, laidLooks := .later }
def FnTitleCasesCardSaid : Prop := Claim7.holds Tryz.pinned (.plain (OpenSpec.ofChange fnTitleCasesSpec)) fnTitleCasesCard

/-- THE TIED CARD OF 'laws.FnTitleParts'. -/
def fnTitlePartsCard : Claim7 := { stood := { row := fnTitlePartsRow, standIns := [], harness := (true, "fdd5b7b9f99238e77e98efef49788889fdefd95807a0f29b04401ea38253fe88"), looks := false }, kinds := [], alts := [], laidByText := true, laidKinds := [.data, .listed, .sentinel, .data, .pinned, .pinned], laidTests := true, laidLooks := .later }
def FnTitlePartsCardSaid : Prop := Claim7.holds Tryz.pinned (.plain (OpenSpec.ofChange fnTitlePartsSpec)) fnTitlePartsCard

/-- THE SECOND FORM's CARD OF 'laws.FnTitleCases'. -/
def fnTitleCasesUptoCard : Claim7 := { stood := { row := fnTitleCasesUptoRow, standIns := [], harness := (true, "fdd5b7b9f99238e77e98efef49788889fdefd95807a0f29b04401ea38253fe88"), looks := false }, kinds := [], alts := [], laidByText := true, laidKinds := [.data, .sentinel, .pinned, .pinned], laidTests := true, laidLooks := .later }
def FnTitleCasesUptoCardSaid : Prop := Claim7.holds Tryz.pinned (.plain (OpenSpec.upto fnTitleCasesSpec)) fnTitleCasesUptoCard

/-- THE SECOND FORM's CARD OF 'laws.FnTitleParts'. -/
def fnTitlePartsUptoCard : Claim7 := { stood := { row := fnTitlePartsUptoRow, standIns := [], harness := (true, "fdd5b7b9f99238e77e98efef49788889fdefd95807a0f29b04401ea38253fe88"), looks := false }, kinds := [], alts := [], laidByText := true, laidKinds := [.data, .listed, .sentinel, .data, .pinned, .pinned], laidTests := true, laidLooks := .later }
def FnTitlePartsUptoCardSaid : Prop := Claim7.holds Tryz.pinned (.plain (OpenSpec.upto fnTitlePartsSpec)) fnTitlePartsUptoCard
end Rows
end Go.Proofs.YtobaapabkckblaaGreatDoor
