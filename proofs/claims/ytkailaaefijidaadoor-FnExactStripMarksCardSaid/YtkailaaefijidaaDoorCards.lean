/-
  DERIVED. GIVEN WITH THE SEED: THE CARDS: each row of YtkailaaefijidaaDoorRows.lean that lists a variable, with what it lists TIED to the program's text (the seventh form; the later family's looks); each row that meets fmt, with fmt's text TOLD by the authors' own Lean function (tested against real Go, not proved from fmt's source: count such statements apart). THE CARD IS WHAT COUNTS. Prove the row's statement (the work); the ties are given (YtkailaaefijidaaDoorTie.lean); close each card by the builder's one call (the guide's Derived/Test/ToyasCard.lean, 'card_holds'). Laid BY PROGRAM, IN A SANDBOX (cutbox-door.mjs). By AI agents, Wed Nov 11 2026. No macro, syntax, notation, axiom, sorry.
-/
import Derived.Test.YtkailaaefijidaaDoorRows
import GoSem.ClaimSeven
namespace Go.Proofs.YtkailaaefijidaaDoor
namespace Rows

/-- THE TIED CARD OF 'laws.FnExactStripMarks'. -/
def fnExactStripMarksCard : Claim7 := { stood := { row := fnExactStripMarksRow, standIns := [], harness := (true, "16631eeee320b7e8c99e9bc8e0a69240a139ce420c5ec2a36abba76c13f738bd"), looks := false }, kinds := [], alts := [], laidByText := true, laidKinds := [.data, .pinned], laidTests := true, laidLooks := .later }
def FnExactStripMarksCardSaid : Prop := Claim7.holds Tryd.pinned (.plain (OpenSpec.ofChange fnExactStripMarksSpec)) fnExactStripMarksCard

/-- THE SECOND FORM's CARD OF 'laws.FnExactStripMarks'. -/
def fnExactStripMarksUptoCard : Claim7 := { stood := { row := fnExactStripMarksUptoRow, standIns := [], harness := (true, "16631eeee320b7e8c99e9bc8e0a69240a139ce420c5ec2a36abba76c13f738bd"), looks := false }, kinds := [], alts := [], laidByText := true, laidKinds := [.data, .pinned], laidTests := true, laidLooks := .later }
def FnExactStripMarksUptoCardSaid : Prop := Claim7.holds Tryd.pinned (.plain (OpenSpec.upto fnExactStripMarksSpec)) fnExactStripMarksUptoCard
end Rows
end Go.Proofs.YtkailaaefijidaaDoor
