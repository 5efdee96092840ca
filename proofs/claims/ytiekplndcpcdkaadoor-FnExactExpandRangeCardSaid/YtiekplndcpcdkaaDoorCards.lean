/-
  DERIVED. GIVEN WITH THE SEED: THE CARDS: each row of YtiekplndcpcdkaaDoorRows.lean that lists a variable, with what it lists TIED to the program's text (the seventh form; the later family's looks); each row that meets fmt, with fmt's text TOLD by the authors' own Lean function (tested against real Go, not proved from fmt's source: count such statements apart). THE CARD IS WHAT COUNTS. Prove the row's statement (the work); the ties are given (YtiekplndcpcdkaaDoorTie.lean); close each card by the builder's one call (the guide's Derived/Test/ToyasCard.lean, 'card_holds'). Laid BY PROGRAM, IN A SANDBOX (cutbox-door.mjs). By AI agents, Wed Nov 11 2026. No macro, syntax, notation, axiom, sorry.
-/
import Derived.Test.YtiekplndcpcdkaaDoorRows
import GoSem.ClaimSeven
namespace Go.Proofs.YtiekplndcpcdkaaDoor
namespace Rows

/-- THE TIED CARD OF 'laws.FnExactExpandRange'. -/
def fnExactExpandRangeCard : Claim7 := { stood := { row := fnExactExpandRangeRow, standIns := [], harness := (true, "b0c4dd15994e5183230355944f76b6725b66f3d48e13eb1ef331364cd877831e"), looks := true }, kinds := [], alts := [], laidByText := true, laidKinds := [.data, .data, .data, .sentinel, .sentinel], laidTests := true, laidLooks := .later }
def FnExactExpandRangeCardSaid : Prop := Claim7.holds Tryd.pinned (.plain (OpenSpec.ofChange fnExactExpandRangeSpec)) fnExactExpandRangeCard

/-- THE SECOND FORM's CARD OF 'laws.FnExactExpandRange'. -/
def fnExactExpandRangeUptoCard : Claim7 := { stood := { row := fnExactExpandRangeUptoRow, standIns := [], harness := (true, "b0c4dd15994e5183230355944f76b6725b66f3d48e13eb1ef331364cd877831e"), looks := true }, kinds := [], alts := [], laidByText := true, laidKinds := [.data, .data, .data, .sentinel, .sentinel], laidTests := true, laidLooks := .later }
def FnExactExpandRangeUptoCardSaid : Prop := Claim7.holds Tryd.pinned (.plain (OpenSpec.upto fnExactExpandRangeSpec)) fnExactExpandRangeUptoCard
end Rows
end Go.Proofs.YtiekplndcpcdkaaDoor
