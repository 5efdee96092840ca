/-
  DERIVED. GIVEN WITH THE SEED: THE CARDS: each row of YtfmkhgcnlgmofaaDoorRows.lean that lists a variable, with what it lists TIED to the program's text (the seventh form; the later family's looks); each row that meets fmt, with fmt's text TOLD by the authors' own Lean function (tested against real Go, not proved from fmt's source: count such statements apart). THE CARD IS WHAT COUNTS. Prove the row's statement (the work); the ties are given (YtfmkhgcnlgmofaaDoorTie.lean); close each card by the builder's one call (the guide's Derived/Test/ToyasCard.lean, 'card_holds'). Laid BY PROGRAM, IN A SANDBOX (cutbox-door.mjs). By AI agents, Wed Nov 11 2026. No macro, syntax, notation, axiom, sorry.
-/
import Derived.Test.YtfmkhgcnlgmofaaDoorRows
import GoSem.ClaimSeven
namespace Go.Proofs.YtfmkhgcnlgmofaaDoor
namespace Rows

/-- THE TIED CARD OF 'laws.FnExactProtectTitle'. -/
def fnExactProtectTitleCard : Claim7 := { stood := { row := fnExactProtectTitleRow, standIns := [], harness := (true, "57400bb7850a0ba665c2eb369fe80fe6c1c270ecae8e2e442aefbc0c36981fc1"), looks := false }, kinds := [], alts := [], laidByText := true, laidKinds := [.data, .sentinel, .pinned], laidTests := true, laidLooks := .later }
def FnExactProtectTitleCardSaid : Prop := Claim7.holds Tryd.pinned (.plain (OpenSpec.ofChange fnExactProtectTitleSpec)) fnExactProtectTitleCard

/-- THE SECOND FORM's CARD OF 'laws.FnExactProtectTitle'. -/
def fnExactProtectTitleUptoCard : Claim7 := { stood := { row := fnExactProtectTitleUptoRow, standIns := [], harness := (true, "57400bb7850a0ba665c2eb369fe80fe6c1c270ecae8e2e442aefbc0c36981fc1"), looks := false }, kinds := [], alts := [], laidByText := true, laidKinds := [.data, .sentinel, .pinned], laidTests := true, laidLooks := .later }
def FnExactProtectTitleUptoCardSaid : Prop := Claim7.holds Tryd.pinned (.plain (OpenSpec.upto fnExactProtectTitleSpec)) fnExactProtectTitleUptoCard
end Rows
end Go.Proofs.YtfmkhgcnlgmofaaDoor
