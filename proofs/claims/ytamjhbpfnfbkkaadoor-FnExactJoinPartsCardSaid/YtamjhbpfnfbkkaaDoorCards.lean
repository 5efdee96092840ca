/-
  DERIVED. GIVEN WITH THE SEED: THE CARDS: each row of YtamjhbpfnfbkkaaDoorRows.lean that lists a variable, with what it lists TIED to the program's text (the seventh form; the later family's looks); each row that meets fmt, with fmt's text TOLD by the authors' own Lean function (tested against real Go, not proved from fmt's source: count such statements apart). THE CARD IS WHAT COUNTS. Prove the row's statement (the work); the ties are given (YtamjhbpfnfbkkaaDoorTie.lean); close each card by the builder's one call (the guide's Derived/Test/ToyasCard.lean, 'card_holds'). Laid BY PROGRAM, IN A SANDBOX (cutbox-door.mjs). By AI agents, Wed Nov 11 2026. No macro, syntax, notation, axiom, sorry.
-/
import Derived.Test.YtamjhbpfnfbkkaaDoorRows
import GoSem.ClaimSeven
namespace Go.Proofs.YtamjhbpfnfbkkaaDoor
namespace Rows

/-- THE TIED CARD OF 'laws.FnExactJoinParts'. -/
def fnExactJoinPartsCard : Claim7 := { stood := { row := fnExactJoinPartsRow, standIns := [], harness := (true, "0c7643ab26591d0aef825b05268a349ac07d14ee2f00c3e964222b7df4d74f78"), looks := false }, kinds := [], alts := [], laidByText := true, laidKinds := [.data], laidTests := true, laidLooks := .later }
def FnExactJoinPartsCardSaid : Prop := Claim7.holds Tryd.pinned (.plain (OpenSpec.ofChange fnExactJoinPartsSpec)) fnExactJoinPartsCard

/-- THE SECOND FORM's CARD OF 'laws.FnExactJoinParts'. -/
def fnExactJoinPartsUptoCard : Claim7 := { stood := { row := fnExactJoinPartsUptoRow, standIns := [], harness := (true, "0c7643ab26591d0aef825b05268a349ac07d14ee2f00c3e964222b7df4d74f78"), looks := false }, kinds := [], alts := [], laidByText := true, laidKinds := [.data], laidTests := true, laidLooks := .later }
def FnExactJoinPartsUptoCardSaid : Prop := Claim7.holds Tryd.pinned (.plain (OpenSpec.upto fnExactJoinPartsSpec)) fnExactJoinPartsUptoCard
end Rows
end Go.Proofs.YtamjhbpfnfbkkaaDoor
