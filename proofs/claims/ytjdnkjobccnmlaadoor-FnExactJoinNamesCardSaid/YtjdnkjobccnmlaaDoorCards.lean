/-
  DERIVED. GIVEN WITH THE SEED: THE CARDS: each row of YtjdnkjobccnmlaaDoorRows.lean that lists a variable, with what it lists TIED to the program's text (the seventh form; the later family's looks); each row that meets fmt, with fmt's text TOLD by the authors' own Lean function (tested against real Go, not proved from fmt's source: count such statements apart). THE CARD IS WHAT COUNTS. Prove the row's statement (the work); the ties are given (YtjdnkjobccnmlaaDoorTie.lean); close each card by the builder's one call (the guide's Derived/Test/ToyasCard.lean, 'card_holds'). Laid BY PROGRAM, IN A SANDBOX (cutbox-door.mjs). By AI agents, Wed Nov 11 2026. No macro, syntax, notation, axiom, sorry.
-/
import Derived.Test.YtjdnkjobccnmlaaDoorRows
import GoSem.ClaimSeven
namespace Go.Proofs.YtjdnkjobccnmlaaDoor
namespace Rows

/-- THE TIED CARD OF 'laws.FnExactParseDate'. -/
def fnExactParseDateCard : Claim7 := { stood := { row := fnExactParseDateRow, standIns := [], harness := (true, "eb81a6c9e695766910205f617ae2bf7514e59ee650951f6f50d11c2dddd21bf6"), looks := true }, kinds := [], alts := [], laidByText := true, laidKinds := [.data, .data, .data, .sentinel, .sentinel], laidTests := true, laidLooks := .later }
def FnExactParseDateCardSaid : Prop := Claim7.holds Tryd.pinned (.plain (OpenSpec.ofChange fnExactParseDateSpec)) fnExactParseDateCard

/-- THE TIED CARD OF 'laws.FnExactLongDate'. -/
def fnExactLongDateCard : Claim7 := { stood := { row := fnExactLongDateRow, standIns := [], harness := (true, "eb81a6c9e695766910205f617ae2bf7514e59ee650951f6f50d11c2dddd21bf6"), looks := true }, kinds := [], alts := [], laidByText := true, laidKinds := [.data, .data, .data, .data], laidTests := true, laidLooks := .later }
def FnExactLongDateCardSaid : Prop := Claim7.holds Tryd.pinned (.plain (OpenSpec.ofChange fnExactLongDateSpec)) fnExactLongDateCard

/-- THE TIED CARD OF 'laws.FnDateForms'. -/
def fnDateFormsCard : Claim7 := { stood := { row := fnDateFormsRow, standIns := [], harness := (true, "eb81a6c9e695766910205f617ae2bf7514e59ee650951f6f50d11c2dddd21bf6"), looks := true }, kinds := [], alts := [], laidByText := true, laidKinds := [.data, .data, .data, .sentinel, .sentinel], laidTests := true, laidLooks := .later }
def FnDateFormsCardSaid : Prop := Claim7.holds Tryd.pinned (.plain (OpenSpec.ofChange fnDateFormsSpec)) fnDateFormsCard

/-- THE TIED CARD OF 'laws.FnExactCompareNames'. -/
def fnExactCompareNamesCard : Claim7 := { stood := { row := fnExactCompareNamesRow, standIns := [], harness := (true, "eb81a6c9e695766910205f617ae2bf7514e59ee650951f6f50d11c2dddd21bf6"), looks := true }, kinds := [], alts := [], laidByText := true, laidKinds := [.data, .pinned, .pinned], laidTests := true, laidLooks := .later }
def FnExactCompareNamesCardSaid : Prop := Claim7.holds Tryd.pinned (.plain (OpenSpec.ofChange fnExactCompareNamesSpec)) fnExactCompareNamesCard

/-- THE TIED CARD OF 'laws.FnExactJoinNames'. -/
def fnExactJoinNamesCard : Claim7 := { stood := { row := fnExactJoinNamesRow, standIns := [], harness := (true, "eb81a6c9e695766910205f617ae2bf7514e59ee650951f6f50d11c2dddd21bf6"), looks := true }, kinds := [], alts := [], laidByText := true, laidKinds := [.data, .pinned, .pinned], laidTests := true, laidLooks := .later }
def FnExactJoinNamesCardSaid : Prop := Claim7.holds Tryd.pinned (.plain (OpenSpec.ofChange fnExactJoinNamesSpec)) fnExactJoinNamesCard

/-- THE TIED CARD OF 'laws.FnNameForms'. -/
def fnNameFormsCard : Claim7 := { stood := { row := fnNameFormsRow, standIns := [], harness := (true, "eb81a6c9e695766910205f617ae2bf7514e59ee650951f6f50d11c2dddd21bf6"), looks := true }, kinds := [], alts := [], laidByText := true, laidKinds := [.data, .pinned, .pinned], laidTests := true, laidLooks := .later }
def FnNameFormsCardSaid : Prop := Claim7.holds Tryd.pinned (.plain (OpenSpec.ofChange fnNameFormsSpec)) fnNameFormsCard

/-- THE TIED CARD OF 'laws.FnNameOrder'. -/
def fnNameOrderCard : Claim7 := { stood := { row := fnNameOrderRow, standIns := [], harness := (true, "eb81a6c9e695766910205f617ae2bf7514e59ee650951f6f50d11c2dddd21bf6"), looks := true }, kinds := [], alts := [], laidByText := true, laidKinds := [.data, .pinned, .pinned], laidTests := true, laidLooks := .later }
def FnNameOrderCardSaid : Prop := Claim7.holds Tryd.pinned (.plain (OpenSpec.ofChange fnNameOrderSpec)) fnNameOrderCard

/-- THE TIED CARD OF 'laws.FnNameLists'. -/
def fnNameListsCard : Claim7 := { stood := { row := fnNameListsRow, standIns := [], harness := (true, "eb81a6c9e695766910205f617ae2bf7514e59ee650951f6f50d11c2dddd21bf6"), looks := true }, kinds := [], alts := [], laidByText := true, laidKinds := [.data, .pinned, .pinned], laidTests := true, laidLooks := .later }
def FnNameListsCardSaid : Prop := Claim7.holds Tryd.pinned (.plain (OpenSpec.ofChange fnNameListsSpec)) fnNameListsCard

/-- THE TIED CARD OF 'laws.FnExactKindWord'. -/
def fnExactKindWordCard : Claim7 := { stood := { row := fnExactKindWordRow, standIns := [], harness := (true, "eb81a6c9e695766910205f617ae2bf7514e59ee650951f6f50d11c2dddd21bf6"), looks := true }, kinds := [], alts := [], laidByText := true, laidKinds := [.data], laidTests := true, laidLooks := .later }
def FnExactKindWordCardSaid : Prop := Claim7.holds Tryd.pinned (.plain (OpenSpec.ofChange fnExactKindWordSpec)) fnExactKindWordCard

/-- THE SECOND FORM's CARD OF 'laws.FnExactParseDate'. -/
def fnExactParseDateUptoCard : Claim7 := { stood := { row := fnExactParseDateUptoRow, standIns := [], harness := (true, "eb81a6c9e695766910205f617ae2bf7514e59ee650951f6f50d11c2dddd21bf6"), looks := true }, kinds := [], alts := [], laidByText := true, laidKinds := [.data, .data, .data, .sentinel, .sentinel], laidTests := true, laidLooks := .later }
def FnExactParseDateUptoCardSaid : Prop := Claim7.holds Tryd.pinned (.plain (OpenSpec.upto fnExactParseDateSpec)) fnExactParseDateUptoCard

/-- THE SECOND FORM's CARD OF 'laws.FnExactLongDate'. -/
def fnExactLongDateUptoCard : Claim7 := { stood := { row := fnExactLongDateUptoRow, standIns := [], harness := (true, "eb81a6c9e695766910205f617ae2bf7514e59ee650951f6f50d11c2dddd21bf6"), looks := true }, kinds := [], alts := [], laidByText := true, laidKinds := [.data, .data, .data, .data], laidTests := true, laidLooks := .later }
def FnExactLongDateUptoCardSaid : Prop := Claim7.holds Tryd.pinned (.plain (OpenSpec.upto fnExactLongDateSpec)) fnExactLongDateUptoCard

/-- THE SECOND FORM's CARD OF 'laws.FnDateForms'. -/
def fnDateFormsUptoCard : Claim7 := { stood := { row := fnDateFormsUptoRow, standIns := [], harness := (true, "eb81a6c9e695766910205f617ae2bf7514e59ee650951f6f50d11c2dddd21bf6"), looks := true }, kinds := [], alts := [], laidByText := true, laidKinds := [.data, .data, .data, .sentinel, .sentinel], laidTests := true, laidLooks := .later }
def FnDateFormsUptoCardSaid : Prop := Claim7.holds Tryd.pinned (.plain (OpenSpec.upto fnDateFormsSpec)) fnDateFormsUptoCard

/-- THE SECOND FORM's CARD OF 'laws.FnExactCompareNames'. -/
def fnExactCompareNamesUptoCard : Claim7 := { stood := { row := fnExactCompareNamesUptoRow, standIns := [], harness := (true, "eb81a6c9e695766910205f617ae2bf7514e59ee650951f6f50d11c2dddd21bf6"), looks := true }, kinds := [], alts := [], laidByText := true, laidKinds := [.data, .pinned, .pinned], laidTests := true, laidLooks := .later }
def FnExactCompareNamesUptoCardSaid : Prop := Claim7.holds Tryd.pinned (.plain (OpenSpec.upto fnExactCompareNamesSpec)) fnExactCompareNamesUptoCard

/-- THE SECOND FORM's CARD OF 'laws.FnExactJoinNames'. -/
def fnExactJoinNamesUptoCard : Claim7 := { stood := { row := fnExactJoinNamesUptoRow, standIns := [], harness := (true, "eb81a6c9e695766910205f617ae2bf7514e59ee650951f6f50d11c2dddd21bf6"), looks := true }, kinds := [], alts := [], laidByText := true, laidKinds := [.data, .pinned, .pinned], laidTests := true, laidLooks := .later }
def FnExactJoinNamesUptoCardSaid : Prop := Claim7.holds Tryd.pinned (.plain (OpenSpec.upto fnExactJoinNamesSpec)) fnExactJoinNamesUptoCard

/-- THE SECOND FORM's CARD OF 'laws.FnNameForms'. -/
def fnNameFormsUptoCard : Claim7 := { stood := { row := fnNameFormsUptoRow, standIns := [], harness := (true, "eb81a6c9e695766910205f617ae2bf7514e59ee650951f6f50d11c2dddd21bf6"), looks := true }, kinds := [], alts := [], laidByText := true, laidKinds := [.data, .pinned, .pinned], laidTests := true, laidLooks := .later }
def FnNameFormsUptoCardSaid : Prop := Claim7.holds Tryd.pinned (.plain (OpenSpec.upto fnNameFormsSpec)) fnNameFormsUptoCard

/-- THE SECOND FORM's CARD OF 'laws.FnNameOrder'. -/
def fnNameOrderUptoCard : Claim7 := { stood := { row := fnNameOrderUptoRow, standIns := [], harness := (true, "eb81a6c9e695766910205f617ae2bf7514e59ee650951f6f50d11c2dddd21bf6"), looks := true }, kinds := [], alts := [], laidByText := true, laidKinds := [.data, .pinned, .pinned], laidTests := true, laidLooks := .later }
def FnNameOrderUptoCardSaid : Prop := Claim7.holds Tryd.pinned (.plain (OpenSpec.upto fnNameOrderSpec)) fnNameOrderUptoCard

/-- THE SECOND FORM's CARD OF 'laws.FnNameLists'. -/
def fnNameListsUptoCard : Claim7 := { stood := { row := fnNameListsUptoRow, standIns := [], harness := (true, "eb81a6c9e695766910205f617ae2bf7514e59ee650951f6f50d11c2dddd21bf6"), looks := true }, kinds := [], alts := [], laidByText := true, laidKinds := [.data, .pinned, .pinned], laidTests := true, laidLooks := .later }
def FnNameListsUptoCardSaid : Prop := Claim7.holds Tryd.pinned (.plain (OpenSpec.upto fnNameListsSpec)) fnNameListsUptoCard

/-- THE SECOND FORM's CARD OF 'laws.FnExactKindWord'. -/
def fnExactKindWordUptoCard : Claim7 := { stood := { row := fnExactKindWordUptoRow, standIns := [], harness := (true, "eb81a6c9e695766910205f617ae2bf7514e59ee650951f6f50d11c2dddd21bf6"), looks := true }, kinds := [], alts := [], laidByText := true, laidKinds := [.data], laidTests := true, laidLooks := .later }
def FnExactKindWordUptoCardSaid : Prop := Claim7.holds Tryd.pinned (.plain (OpenSpec.upto fnExactKindWordSpec)) fnExactKindWordUptoCard
end Rows
end Go.Proofs.YtjdnkjobccnmlaaDoor
