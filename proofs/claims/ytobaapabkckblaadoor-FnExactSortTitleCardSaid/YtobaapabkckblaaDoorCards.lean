/-
  DERIVED. GIVEN WITH THE SEED: THE CARDS: each row of YtobaapabkckblaaDoorRows.lean that lists a variable, with what it lists TIED to the program's text (the seventh form; the later family's looks); each row that meets fmt, with fmt's text TOLD by the authors' own Lean function (tested against real Go, not proved from fmt's source: count such statements apart). THE CARD IS WHAT COUNTS. Prove the row's statement (the work); the ties are given (YtobaapabkckblaaDoorTie.lean); close each card by the builder's one call (the guide's Derived/Test/ToyasCard.lean, 'card_holds'). Laid BY PROGRAM, IN A SANDBOX (cutbox-door.mjs). By AI agents, Wed Nov 11 2026. No macro, syntax, notation, axiom, sorry.
-/
import Derived.Test.YtobaapabkckblaaDoorRows
import GoSem.ClaimSeven
namespace Go.Proofs.YtobaapabkckblaaDoor
namespace Rows

/-- THE TIED CARD OF 'laws.FnExactTitleCase'. -/
def fnExactTitleCaseCard : Claim7 := { stood := { row := fnExactTitleCaseRow, standIns := [], harness := (true, "fb14d82569a3ba7bea13a4ba6db1c05014d5caa284c1f4b99ffe622c2d976f5d"), looks := false }, kinds := [], alts := [], laidByText := true, laidKinds := [.data, .sentinel, .pinned, .pinned], laidTests := true, laidLooks := .later }
def FnExactTitleCaseCardSaid : Prop := Claim7.holds Tryd.pinned (.plain (OpenSpec.ofChange fnExactTitleCaseSpec)) fnExactTitleCaseCard

/-- THE TIED CARD OF 'laws.FnExactSentenceCase'. -/
def fnExactSentenceCaseCard : Claim7 := { stood := { row := fnExactSentenceCaseRow, standIns := [], harness := (true, "fb14d82569a3ba7bea13a4ba6db1c05014d5caa284c1f4b99ffe622c2d976f5d"), looks := false }, kinds := [], alts := [], laidByText := true, laidKinds := [.data, .sentinel, .pinned, .pinned], laidTests := true, laidLooks := .later }
def FnExactSentenceCaseCardSaid : Prop := Claim7.holds Tryd.pinned (.plain (OpenSpec.ofChange fnExactSentenceCaseSpec)) fnExactSentenceCaseCard

/-- THE TIED CARD OF 'laws.FnExactSortTitle'. -/
def fnExactSortTitleCard : Claim7 := { stood := { row := fnExactSortTitleRow, standIns := [], harness := (true, "fb14d82569a3ba7bea13a4ba6db1c05014d5caa284c1f4b99ffe622c2d976f5d"), looks := false }, kinds := [], alts := [], laidByText := true, laidKinds := [.data, .listed, .sentinel, .data, .pinned, .pinned], laidTests := true, laidLooks := .later }
def FnExactSortTitleCardSaid : Prop := Claim7.holds Tryd.pinned (.plain (OpenSpec.ofChange fnExactSortTitleSpec)) fnExactSortTitleCard

/-- THE TIED CARD OF 'laws.FnExactShortTitle'. -/
def fnExactShortTitleCard : Claim7 := { stood := { row := fnExactShortTitleRow, standIns := [], harness := (true, "fb14d82569a3ba7bea13a4ba6db1c05014d5caa284c1f4b99ffe622c2d976f5d"), looks := false }, kinds := [], alts := [], laidByText := true, laidKinds := [.data, .sentinel, .pinned], laidTests := true, laidLooks := .later }
def FnExactShortTitleCardSaid : Prop := Claim7.holds Tryd.pinned (.plain (OpenSpec.ofChange fnExactShortTitleSpec)) fnExactShortTitleCard

/-- THE TIED CARD OF 'laws.FnExactProtectTitle'. -/
def fnExactProtectTitleCard : Claim7 := { stood := { row := fnExactProtectTitleRow, standIns := [], harness := (true, "fb14d82569a3ba7bea13a4ba6db1c05014d5caa284c1f4b99ffe622c2d976f5d"), looks := false }, kinds := [], alts := [], laidByText := true, laidKinds := [.data, .sentinel, .pinned], laidTests := true, laidLooks := .later }
def FnExactProtectTitleCardSaid : Prop := Claim7.holds Tryd.pinned (.plain (OpenSpec.ofChange fnExactProtectTitleSpec)) fnExactProtectTitleCard

/-- THE SECOND FORM's CARD OF 'laws.FnExactTitleCase'. -/
def fnExactTitleCaseUptoCard : Claim7 := { stood := { row := fnExactTitleCaseUptoRow, standIns := [], harness := (true, "fb14d82569a3ba7bea13a4ba6db1c05014d5caa284c1f4b99ffe622c2d976f5d"), looks := false }, kinds := [], alts := [], laidByText := true, laidKinds := [.data, .sentinel, .pinned, .pinned], laidTests := true, laidLooks := .later }
def FnExactTitleCaseUptoCardSaid : Prop := Claim7.holds Tryd.pinned (.plain (OpenSpec.upto fnExactTitleCaseSpec)) fnExactTitleCaseUptoCard

/-- THE SECOND FORM's CARD OF 'laws.FnExactSentenceCase'. -/
def fnExactSentenceCaseUptoCard : Claim7 := { stood := { row := fnExactSentenceCaseUptoRow, standIns := [], harness := (true, "fb14d82569a3ba7bea13a4ba6db1c05014d5caa284c1f4b99ffe622c2d976f5d"), looks := false }, kinds := [], alts := [], laidByText := true, laidKinds := [.data, .sentinel, .pinned, .pinned], laidTests := true, laidLooks := .later }
def FnExactSentenceCaseUptoCardSaid : Prop := Claim7.holds Tryd.pinned (.plain (OpenSpec.upto fnExactSentenceCaseSpec)) fnExactSentenceCaseUptoCard

/-- THE SECOND FORM's CARD OF 'laws.FnExactSortTitle'. -/
def fnExactSortTitleUptoCard : Claim7 := { stood := { row := fnExactSortTitleUptoRow, standIns := [], harness := (true, "fb14d82569a3ba7bea13a4ba6db1c05014d5caa284c1f4b99ffe622c2d976f5d"), looks := false }, kinds := [], alts := [], laidByText := true, laidKinds := [.data, .listed, .sentinel, .data, .pinned, .pinned], laidTests := true, laidLooks := .later }
def FnExactSortTitleUptoCardSaid : Prop := Claim7.holds Tryd.pinned (.plain (OpenSpec.upto fnExactSortTitleSpec)) fnExactSortTitleUptoCard

/-- THE SECOND FORM's CARD OF 'laws.FnExactShortTitle'. -/
def fnExactShortTitleUptoCard : Claim7 := { stood := { row := fnExactShortTitleUptoRow, standIns := [], harness := (true, "fb14d82569a3ba7bea13a4ba6db1c05014d5caa284c1f4b99ffe622c2d976f5d"), looks := false }, kinds := [], alts := [], laidByText := true, laidKinds := [.data, .sentinel, .pinned], laidTests := true, laidLooks := .later }
def FnExactShortTitleUptoCardSaid : Prop := Claim7.holds Tryd.pinned (.plain (OpenSpec.upto fnExactShortTitleSpec)) fnExactShortTitleUptoCard

/-- THE SECOND FORM's CARD OF 'laws.FnExactProtectTitle'. -/
def fnExactProtectTitleUptoCard : Claim7 := { stood := { row := fnExactProtectTitleUptoRow, standIns := [], harness := (true, "fb14d82569a3ba7bea13a4ba6db1c05014d5caa284c1f4b99ffe622c2d976f5d"), looks := false }, kinds := [], alts := [], laidByText := true, laidKinds := [.data, .sentinel, .pinned], laidTests := true, laidLooks := .later }
def FnExactProtectTitleUptoCardSaid : Prop := Claim7.holds Tryd.pinned (.plain (OpenSpec.upto fnExactProtectTitleSpec)) fnExactProtectTitleUptoCard
end Rows
end Go.Proofs.YtobaapabkckblaaDoor
