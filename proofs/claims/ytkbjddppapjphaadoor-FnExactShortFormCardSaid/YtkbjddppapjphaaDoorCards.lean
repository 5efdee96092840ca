/-
  DERIVED. GIVEN WITH THE SEED: THE CARDS: each row of YtkbjddppapjphaaDoorRows.lean that lists a variable, with what it lists TIED to the program's text (the seventh form; the later family's looks); each row that meets fmt, with fmt's text TOLD by the authors' own Lean function (tested against real Go, not proved from fmt's source: count such statements apart). THE CARD IS WHAT COUNTS. Prove the row's statement (the work); the ties are given (YtkbjddppapjphaaDoorTie.lean); close each card by the builder's one call (the guide's Derived/Test/ToyasCard.lean, 'card_holds'). Laid BY PROGRAM, IN A SANDBOX (cutbox-door.mjs). By AI agents, Wed Nov 11 2026. No macro, syntax, notation, axiom, sorry.
-/
import Derived.Test.YtkbjddppapjphaaDoorRows
import GoSem.ClaimSeven
namespace Go.Proofs.YtkbjddppapjphaaDoor
namespace Rows

/-- THE TIED CARD OF 'laws.FnStrings'. -/
def fnStringsCard : Claim7 := { stood := { row := fnStringsRow, standIns := [], harness := (true, "cfc8f6b9a5998987b6fd0d04741e07609932423e431833e9bca70590d9973f2b"), looks := true }, kinds := [], alts := [], laidByText := true, laidKinds := [.data, .data, .data, .sentinel, .sentinel], laidTests := true, laidLooks := .later }
def FnStringsCardSaid : Prop := Claim7.holds Tryd.pinned (.plain (OpenSpec.ofChange fnStringsSpec)) fnStringsCard

/-- THE TIED CARD OF 'laws.FnNameForms'. -/
def fnNameFormsCard : Claim7 := { stood := { row := fnNameFormsRow, standIns := [], harness := (true, "cfc8f6b9a5998987b6fd0d04741e07609932423e431833e9bca70590d9973f2b"), looks := true }, kinds := [], alts := [], laidByText := true, laidKinds := [.data, .pinned, .pinned], laidTests := true, laidLooks := .later }
def FnNameFormsCardSaid : Prop := Claim7.holds Tryd.pinned (.plain (OpenSpec.ofChange fnNameFormsSpec)) fnNameFormsCard

/-- THE TIED CARD OF 'laws.FnNameOrder'. -/
def fnNameOrderCard : Claim7 := { stood := { row := fnNameOrderRow, standIns := [], harness := (true, "cfc8f6b9a5998987b6fd0d04741e07609932423e431833e9bca70590d9973f2b"), looks := true }, kinds := [], alts := [], laidByText := true, laidKinds := [.data, .pinned, .pinned], laidTests := true, laidLooks := .later }
def FnNameOrderCardSaid : Prop := Claim7.holds Tryd.pinned (.plain (OpenSpec.ofChange fnNameOrderSpec)) fnNameOrderCard

/-- THE TIED CARD OF 'laws.FnNameLists'. -/
def fnNameListsCard : Claim7 := { stood := { row := fnNameListsRow, standIns := [], harness := (true, "cfc8f6b9a5998987b6fd0d04741e07609932423e431833e9bca70590d9973f2b"), looks := true }, kinds := [], alts := [], laidByText := true, laidKinds := [.data, .pinned, .pinned], laidTests := true, laidLooks := .later }
def FnNameListsCardSaid : Prop := Claim7.holds Tryd.pinned (.plain (OpenSpec.ofChange fnNameListsSpec)) fnNameListsCard

/-- THE TIED CARD OF 'laws.FnExactInitialsOf'. -/
def fnExactInitialsOfCard : Claim7 := { stood := { row := fnExactInitialsOfRow, standIns := [], harness := (true, "cfc8f6b9a5998987b6fd0d04741e07609932423e431833e9bca70590d9973f2b"), looks := true }, kinds := [], alts := [], laidByText := true, laidKinds := [.data, .pinned, .pinned], laidTests := true, laidLooks := .later }
def FnExactInitialsOfCardSaid : Prop := Claim7.holds Tryd.pinned (.plain (OpenSpec.ofChange fnExactInitialsOfSpec)) fnExactInitialsOfCard

/-- THE TIED CARD OF 'laws.FnExactShortForm'. -/
def fnExactShortFormCard : Claim7 := { stood := { row := fnExactShortFormRow, standIns := [], harness := (true, "cfc8f6b9a5998987b6fd0d04741e07609932423e431833e9bca70590d9973f2b"), looks := true }, kinds := [], alts := [], laidByText := true, laidKinds := [.data, .pinned, .pinned], laidTests := true, laidLooks := .later }
def FnExactShortFormCardSaid : Prop := Claim7.holds Tryd.pinned (.plain (OpenSpec.ofChange fnExactShortFormSpec)) fnExactShortFormCard

/-- THE TIED CARD OF 'laws.FnExactCompareNames'. -/
def fnExactCompareNamesCard : Claim7 := { stood := { row := fnExactCompareNamesRow, standIns := [], harness := (true, "cfc8f6b9a5998987b6fd0d04741e07609932423e431833e9bca70590d9973f2b"), looks := true }, kinds := [], alts := [], laidByText := true, laidKinds := [.data, .pinned, .pinned], laidTests := true, laidLooks := .later }
def FnExactCompareNamesCardSaid : Prop := Claim7.holds Tryd.pinned (.plain (OpenSpec.ofChange fnExactCompareNamesSpec)) fnExactCompareNamesCard

/-- THE SECOND FORM's CARD OF 'laws.FnStrings'. -/
def fnStringsUptoCard : Claim7 := { stood := { row := fnStringsUptoRow, standIns := [], harness := (true, "cfc8f6b9a5998987b6fd0d04741e07609932423e431833e9bca70590d9973f2b"), looks := true }, kinds := [], alts := [], laidByText := true, laidKinds := [.data, .data, .data, .sentinel, .sentinel], laidTests := true, laidLooks := .later }
def FnStringsUptoCardSaid : Prop := Claim7.holds Tryd.pinned (.plain (OpenSpec.upto fnStringsSpec)) fnStringsUptoCard

/-- THE SECOND FORM's CARD OF 'laws.FnNameForms'. -/
def fnNameFormsUptoCard : Claim7 := { stood := { row := fnNameFormsUptoRow, standIns := [], harness := (true, "cfc8f6b9a5998987b6fd0d04741e07609932423e431833e9bca70590d9973f2b"), looks := true }, kinds := [], alts := [], laidByText := true, laidKinds := [.data, .pinned, .pinned], laidTests := true, laidLooks := .later }
def FnNameFormsUptoCardSaid : Prop := Claim7.holds Tryd.pinned (.plain (OpenSpec.upto fnNameFormsSpec)) fnNameFormsUptoCard

/-- THE SECOND FORM's CARD OF 'laws.FnNameOrder'. -/
def fnNameOrderUptoCard : Claim7 := { stood := { row := fnNameOrderUptoRow, standIns := [], harness := (true, "cfc8f6b9a5998987b6fd0d04741e07609932423e431833e9bca70590d9973f2b"), looks := true }, kinds := [], alts := [], laidByText := true, laidKinds := [.data, .pinned, .pinned], laidTests := true, laidLooks := .later }
def FnNameOrderUptoCardSaid : Prop := Claim7.holds Tryd.pinned (.plain (OpenSpec.upto fnNameOrderSpec)) fnNameOrderUptoCard

/-- THE SECOND FORM's CARD OF 'laws.FnNameLists'. -/
def fnNameListsUptoCard : Claim7 := { stood := { row := fnNameListsUptoRow, standIns := [], harness := (true, "cfc8f6b9a5998987b6fd0d04741e07609932423e431833e9bca70590d9973f2b"), looks := true }, kinds := [], alts := [], laidByText := true, laidKinds := [.data, .pinned, .pinned], laidTests := true, laidLooks := .later }
def FnNameListsUptoCardSaid : Prop := Claim7.holds Tryd.pinned (.plain (OpenSpec.upto fnNameListsSpec)) fnNameListsUptoCard

/-- THE SECOND FORM's CARD OF 'laws.FnExactInitialsOf'. -/
def fnExactInitialsOfUptoCard : Claim7 := { stood := { row := fnExactInitialsOfUptoRow, standIns := [], harness := (true, "cfc8f6b9a5998987b6fd0d04741e07609932423e431833e9bca70590d9973f2b"), looks := true }, kinds := [], alts := [], laidByText := true, laidKinds := [.data, .pinned, .pinned], laidTests := true, laidLooks := .later }
def FnExactInitialsOfUptoCardSaid : Prop := Claim7.holds Tryd.pinned (.plain (OpenSpec.upto fnExactInitialsOfSpec)) fnExactInitialsOfUptoCard

/-- THE SECOND FORM's CARD OF 'laws.FnExactShortForm'. -/
def fnExactShortFormUptoCard : Claim7 := { stood := { row := fnExactShortFormUptoRow, standIns := [], harness := (true, "cfc8f6b9a5998987b6fd0d04741e07609932423e431833e9bca70590d9973f2b"), looks := true }, kinds := [], alts := [], laidByText := true, laidKinds := [.data, .pinned, .pinned], laidTests := true, laidLooks := .later }
def FnExactShortFormUptoCardSaid : Prop := Claim7.holds Tryd.pinned (.plain (OpenSpec.upto fnExactShortFormSpec)) fnExactShortFormUptoCard

/-- THE SECOND FORM's CARD OF 'laws.FnExactCompareNames'. -/
def fnExactCompareNamesUptoCard : Claim7 := { stood := { row := fnExactCompareNamesUptoRow, standIns := [], harness := (true, "cfc8f6b9a5998987b6fd0d04741e07609932423e431833e9bca70590d9973f2b"), looks := true }, kinds := [], alts := [], laidByText := true, laidKinds := [.data, .pinned, .pinned], laidTests := true, laidLooks := .later }
def FnExactCompareNamesUptoCardSaid : Prop := Claim7.holds Tryd.pinned (.plain (OpenSpec.upto fnExactCompareNamesSpec)) fnExactCompareNamesUptoCard
end Rows
end Go.Proofs.YtkbjddppapjphaaDoor
