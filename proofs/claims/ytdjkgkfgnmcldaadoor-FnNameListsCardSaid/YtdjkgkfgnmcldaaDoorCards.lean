/-
  DERIVED. GIVEN WITH THE SEED: THE CARDS: each row of YtdjkgkfgnmcldaaDoorRows.lean that lists a variable, with what it lists TIED to the program's text (the seventh form; the later family's looks); each row that meets fmt, with fmt's text TOLD by the authors' own Lean function (tested against real Go, not proved from fmt's source: count such statements apart). THE CARD IS WHAT COUNTS. Prove the row's statement (the work); the ties are given (YtdjkgkfgnmcldaaDoorTie.lean); close each card by the builder's one call (the guide's Derived/Test/ToyasCard.lean, 'card_holds'). Laid BY PROGRAM, IN A SANDBOX (cutbox-door.mjs). By AI agents, Wed Nov 11 2026. No macro, syntax, notation, axiom, sorry.
-/
import Derived.Test.YtdjkgkfgnmcldaaDoorRows
import GoSem.ClaimSeven
namespace Go.Proofs.YtdjkgkfgnmcldaaDoor
namespace Rows

/-- THE TIED CARD OF 'laws.FnNameLists'. -/
def fnNameListsCard : Claim7 := { stood := { row := fnNameListsRow, standIns := [], harness := (true, "2603a371ce5711bdb70302170eb1e8f528e8ceae50f5d2188ab3e7a5090c51f5"), looks := false }, kinds := [], alts := [], laidByText := true, laidKinds := [.data, .pinned, .pinned], laidTests := true, laidLooks := .later }
def FnNameListsCardSaid : Prop := Claim7.holds Tryd.pinned (.plain (OpenSpec.ofChange fnNameListsSpec)) fnNameListsCard

/-- THE SECOND FORM's CARD OF 'laws.FnNameLists'. -/
def fnNameListsUptoCard : Claim7 := { stood := { row := fnNameListsUptoRow, standIns := [], harness := (true, "2603a371ce5711bdb70302170eb1e8f528e8ceae50f5d2188ab3e7a5090c51f5"), looks := false }, kinds := [], alts := [], laidByText := true, laidKinds := [.data, .pinned, .pinned], laidTests := true, laidLooks := .later }
def FnNameListsUptoCardSaid : Prop := Claim7.holds Tryd.pinned (.plain (OpenSpec.upto fnNameListsSpec)) fnNameListsUptoCard
end Rows
end Go.Proofs.YtdjkgkfgnmcldaaDoor
