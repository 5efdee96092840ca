/-
  DERIVED. GIVEN WITH THE SEED: THE CARDS: each row of YthndeflimmlcaaaGreatDoorRows.lean that lists a variable, with what it lists TIED to the program's text (the seventh form; the later family's looks); each row that meets fmt, with fmt's text TOLD by the authors' own Lean function (tested against real Go, not proved from fmt's source: count such statements apart). THE CARD IS WHAT COUNTS. Prove the row's statement (the work); the ties are given (YthndeflimmlcaaaGreatDoorTie.lean); close each card by the builder's one call (the guide's Derived/Test/ToyasCard.lean, 'card_holds'). Laid BY PROGRAM, IN A SANDBOX (cutbox-door.mjs). By AI agents, Wed Nov 11 2026. No macro, syntax, notation, axiom, sorry.
-/
import Derived.Test.YthndeflimmlcaaaGreatDoorRows
import GoSem.ClaimSeven
namespace Go.Proofs.YthndeflimmlcaaaGreatDoor
namespace Rows

/-- THE TIED CARD OF 'laws.FnExactMissingFields'. -/
def fnExactMissingFieldsCard : Claim7 := { stood := { row := fnExactMissingFieldsRow, standIns := [], harness := (true, "acb347caeb80b1108ac5ec0fa3d3e930b5dfad392dfa22d375d7ada59266f237"), looks := false }, kinds := [], alts := [], laidByText := true, laidKinds := [.data, .data, .data], laidTests := true, laidLooks := .later }
def FnExactMissingFieldsCardSaid : Prop := Claim7.holds Tryz.pinned (.plain (OpenSpec.ofChange fnExactMissingFieldsSpec)) fnExactMissingFieldsCard

/-- THE TIED CARD OF 'laws.FnExactPeopleOf'. -/
def fnExactPeopleOfCard : Claim7 := { stood := { row := fnExactPeopleOfRow, standIns := [], harness := (true, "acb347caeb80b1108ac5ec0fa3d3e930b5dfad392dfa22d375d7ada59266f237"), looks := false }, kinds := [], alts := [], laidByText := true, laidKinds := [.data, .pinned, .pinned], laidTests := true, laidLooks := .later }
def FnExactPeopleOfCardSaid : Prop := Claim7.holds Tryz.pinned (.plain (OpenSpec.ofChange fnExactPeopleOfSpec)) fnExactPeopleOfCard

/-- THE TIED CARD OF 'laws.FnExactFieldText'. -/
def fnExactFieldTextCard : Claim7 := { stood := { row := fnExactFieldTextRow, standIns := [], harness := (true, "acb347caeb80b1108ac5ec0fa3d3e930b5dfad392dfa22d375d7ada59266f237"), looks := false }, kinds := [], alts := [], laidByText := true, laidKinds := [.data, .data, .data], laidTests := true, laidLooks := .later }
def FnExactFieldTextCardSaid : Prop := Claim7.holds Tryz.pinned (.plain (OpenSpec.ofChange fnExactFieldTextSpec)) fnExactFieldTextCard

/-- THE TIED CARD OF 'laws.FnExactChangedFields'. -/
def fnExactChangedFieldsCard : Claim7 := { stood := { row := fnExactChangedFieldsRow, standIns := [], harness := (true, "acb347caeb80b1108ac5ec0fa3d3e930b5dfad392dfa22d375d7ada59266f237"), looks := false }, kinds := [], alts := [], laidByText := true, laidKinds := [.data, .data, .data], laidTests := true, laidLooks := .later }
def FnExactChangedFieldsCardSaid : Prop := Claim7.holds Tryz.pinned (.plain (OpenSpec.ofChange fnExactChangedFieldsSpec)) fnExactChangedFieldsCard

/-- THE TIED CARD OF 'laws.FnFields'. -/
def fnFieldsCard : Claim7 := { stood := { row := fnFieldsRow, standIns := [], harness := (true, "acb347caeb80b1108ac5ec0fa3d3e930b5dfad392dfa22d375d7ada59266f237"), looks := false }, kinds := [], alts := [], laidByText := true, laidKinds := [.data, .data, .data, .data, .pinned, .pinned], laidTests := true, laidLooks := .later }
def FnFieldsCardSaid : Prop := Claim7.holds Tryz.pinned (.plain (OpenSpec.ofChange fnFieldsSpec)) fnFieldsCard

/-- THE TIED CARD OF 'laws.FnChangedFields'. -/
def fnChangedFieldsCard : Claim7 := { stood := { row := fnChangedFieldsRow, standIns := [], harness := (true, "acb347caeb80b1108ac5ec0fa3d3e930b5dfad392dfa22d375d7ada59266f237"), looks := false }, kinds := [], alts := [], laidByText := true, laidKinds := [.data, .data, .data], laidTests := true, laidLooks := .later }
def FnChangedFieldsCardSaid : Prop := Claim7.holds Tryz.pinned (.plain (OpenSpec.ofChange fnChangedFieldsSpec)) fnChangedFieldsCard

/-- THE TIED CARD OF 'laws.FnTitleParts'. -/
def fnTitlePartsCard : Claim7 := { stood := { row := fnTitlePartsRow, standIns := [], harness := (true, "acb347caeb80b1108ac5ec0fa3d3e930b5dfad392dfa22d375d7ada59266f237"), looks := false }, kinds := [], alts := [], laidByText := true, laidKinds := [.data, .listed, .sentinel, .data, .pinned, .pinned], laidTests := true, laidLooks := .later }
def FnTitlePartsCardSaid : Prop := Claim7.holds Tryz.pinned (.plain (OpenSpec.ofChange fnTitlePartsSpec)) fnTitlePartsCard

/-- THE SECOND FORM's CARD OF 'laws.FnExactMissingFields'. -/
def fnExactMissingFieldsUptoCard : Claim7 := { stood := { row := fnExactMissingFieldsUptoRow, standIns := [], harness := (true, "acb347caeb80b1108ac5ec0fa3d3e930b5dfad392dfa22d375d7ada59266f237"), looks := false }, kinds := [], alts := [], laidByText := true, laidKinds := [.data, .data, .data], laidTests := true, laidLooks := .later }
def FnExactMissingFieldsUptoCardSaid : Prop := Claim7.holds Tryz.pinned (.plain (OpenSpec.upto fnExactMissingFieldsSpec)) fnExactMissingFieldsUptoCard

/-- THE SECOND FORM's CARD OF 'laws.FnExactPeopleOf'. -/
def fnExactPeopleOfUptoCard : Claim7 := { stood := { row := fnExactPeopleOfUptoRow, standIns := [], harness := (true, "acb347caeb80b1108ac5ec0fa3d3e930b5dfad392dfa22d375d7ada59266f237"), looks := false }, kinds := [], alts := [], laidByText := true, laidKinds := [.data, .pinned, .pinned], laidTests := true, laidLooks := .later }
def FnExactPeopleOfUptoCardSaid : Prop := Claim7.holds Tryz.pinned (.plain (OpenSpec.upto fnExactPeopleOfSpec)) fnExactPeopleOfUptoCard

/-- THE SECOND FORM's CARD OF 'laws.FnExactFieldText'. -/
def fnExactFieldTextUptoCard : Claim7 := { stood := { row := fnExactFieldTextUptoRow, standIns := [], harness := (true, "acb347caeb80b1108ac5ec0fa3d3e930b5dfad392dfa22d375d7ada59266f237"), looks := false }, kinds := [], alts := [], laidByText := true, laidKinds := [.data, .data, .data], laidTests := true, laidLooks := .later }
def FnExactFieldTextUptoCardSaid : Prop := Claim7.holds Tryz.pinned (.plain (OpenSpec.upto fnExactFieldTextSpec)) fnExactFieldTextUptoCard

/-- THE SECOND FORM's CARD OF 'laws.FnExactChangedFields'. -/
def fnExactChangedFieldsUptoCard : Claim7 := { stood := { row := fnExactChangedFieldsUptoRow, standIns := [], harness := (true, "acb347caeb80b1108ac5ec0fa3d3e930b5dfad392dfa22d375d7ada59266f237"), looks := false }, kinds := [], alts := [], laidByText := true, laidKinds := [.data, .data, .data], laidTests := true, laidLooks := .later }
def FnExactChangedFieldsUptoCardSaid : Prop := Claim7.holds Tryz.pinned (.plain (OpenSpec.upto fnExactChangedFieldsSpec)) fnExactChangedFieldsUptoCard

/-- THE SECOND FORM's CARD OF 'laws.FnFields'. -/
def fnFieldsUptoCard : Claim7 := { stood := { row := fnFieldsUptoRow, standIns := [], harness := (true, "acb347caeb80b1108ac5ec0fa3d3e930b5dfad392dfa22d375d7ada59266f237"), looks := false }, kinds := [], alts := [], laidByText := true, laidKinds := [.data, .data, .data, .data, .pinned, .pinned], laidTests := true, laidLooks := .later }
def FnFieldsUptoCardSaid : Prop := Claim7.holds Tryz.pinned (.plain (OpenSpec.upto fnFieldsSpec)) fnFieldsUptoCard

/-- THE SECOND FORM's CARD OF 'laws.FnChangedFields'. -/
def fnChangedFieldsUptoCard : Claim7 := { stood := { row := fnChangedFieldsUptoRow, standIns := [], harness := (true, "acb347caeb80b1108ac5ec0fa3d3e930b5dfad392dfa22d375d7ada59266f237"), looks := false }, kinds := [], alts := [], laidByText := true, laidKinds := [.data, .data, .data], laidTests := true, laidLooks := .later }
def FnChangedFieldsUptoCardSaid : Prop := Claim7.holds Tryz.pinned (.plain (OpenSpec.upto fnChangedFieldsSpec)) fnChangedFieldsUptoCard

/-- THE SECOND FORM's CARD OF 'laws.FnTitleParts'. -/
def fnTitlePartsUptoCard : Claim7 := { stood := { row := fnTitlePartsUptoRow, standIns := [], harness := (true, "acb347caeb80b1108ac5ec0fa3d3e930b5dfad392dfa22d375d7ada59266f237"), looks := false }, kinds := [], alts := [], laidByText := true, laidKinds := [.data, .listed, .sentinel, .data, .pinned, .pinned], laidTests := true, laidLooks := .later }
def FnTitlePartsUptoCardSaid : Prop := Claim7.holds Tryz.pinned (.plain (OpenSpec.upto fnTitlePartsSpec)) fnTitlePartsUptoCard
end Rows
end Go.Proofs.YthndeflimmlcaaaGreatDoor
