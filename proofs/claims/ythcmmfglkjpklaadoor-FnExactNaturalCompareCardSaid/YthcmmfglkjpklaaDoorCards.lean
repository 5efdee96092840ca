/-
  DERIVED. GIVEN WITH THE SEED: THE CARDS: each row of YthcmmfglkjpklaaDoorRows.lean that lists a variable, with what it lists TIED to the program's text (the seventh form; the later family's looks); each row that meets fmt, with fmt's text TOLD by the authors' own Lean function (tested against real Go, not proved from fmt's source: count such statements apart). THE CARD IS WHAT COUNTS. Prove the row's statement (the work); the ties are given (YthcmmfglkjpklaaDoorTie.lean); close each card by the builder's one call (the guide's Derived/Test/ToyasCard.lean, 'card_holds'). Laid BY PROGRAM, IN A SANDBOX (cutbox-door.mjs). By AI agents, Wed Nov 11 2026. No macro, syntax, notation, axiom, sorry.
-/
import Derived.Test.YthcmmfglkjpklaaDoorRows
import GoSem.ClaimSeven
namespace Go.Proofs.YthcmmfglkjpklaaDoor
namespace Rows

/-- THE TIED CARD OF 'laws.FnExactNaturalCompare'. -/
def fnExactNaturalCompareCard : Claim7 := { stood := { row := fnExactNaturalCompareRow, standIns := [], harness := (true, "408ee89b1408050f2c0af238dbc4d1e1176bd1132266979147e0fdb490f061ce"), looks := false }, kinds := [], alts := [], laidByText := true, laidKinds := [.data, .pinned], laidTests := true, laidLooks := .later }
def FnExactNaturalCompareCardSaid : Prop := Claim7.holds Tryd.pinned (.plain (OpenSpec.ofChange fnExactNaturalCompareSpec)) fnExactNaturalCompareCard

/-- THE SECOND FORM's CARD OF 'laws.FnExactNaturalCompare'. -/
def fnExactNaturalCompareUptoCard : Claim7 := { stood := { row := fnExactNaturalCompareUptoRow, standIns := [], harness := (true, "408ee89b1408050f2c0af238dbc4d1e1176bd1132266979147e0fdb490f061ce"), looks := false }, kinds := [], alts := [], laidByText := true, laidKinds := [.data, .pinned], laidTests := true, laidLooks := .later }
def FnExactNaturalCompareUptoCardSaid : Prop := Claim7.holds Tryd.pinned (.plain (OpenSpec.upto fnExactNaturalCompareSpec)) fnExactNaturalCompareUptoCard
end Rows
end Go.Proofs.YthcmmfglkjpklaaDoor
