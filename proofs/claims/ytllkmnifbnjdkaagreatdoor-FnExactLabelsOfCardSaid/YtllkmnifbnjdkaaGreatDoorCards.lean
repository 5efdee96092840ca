/-
  DERIVED. GIVEN WITH THE SEED: THE CARDS: each row of YtllkmnifbnjdkaaGreatDoorRows.lean that lists a variable, with what it lists TIED to the program's text (the seventh form; the later family's looks); each row that meets fmt, with fmt's text TOLD by the authors' own Lean function (tested against real Go, not proved from fmt's source: count such statements apart). THE CARD IS WHAT COUNTS. Prove the row's statement (the work); the ties are given (YtllkmnifbnjdkaaGreatDoorTie.lean); close each card by the builder's one call (the guide's Derived/Test/ToyasCard.lean, 'card_holds'). Laid BY PROGRAM, IN A SANDBOX (cutbox-door.mjs). By AI agents, Wed Nov 11 2026. No macro, syntax, notation, axiom, sorry.
-/
import Derived.Test.YtllkmnifbnjdkaaGreatDoorRows
import GoSem.ClaimSeven
namespace Go.Proofs.YtllkmnifbnjdkaaGreatDoor
namespace Rows

/-- THE TIED CARD OF 'laws.FnExactBaseLabel'. -/
def fnExactBaseLabelCard : Claim7 := { stood := { row := fnExactBaseLabelRow, standIns := [], harness := (true, "326d3ccfe78462102f972b14b9e49b0122b38c3ae859fa3907769771ae872216"), looks := false }, kinds := [], alts := [], laidByText := true, laidKinds := [.data, .data, .data], laidTests := true, laidLooks := .later }
def FnExactBaseLabelCardSaid : Prop := Claim7.holds Tryz.pinned (.plain (OpenSpec.ofChange fnExactBaseLabelSpec)) fnExactBaseLabelCard

/-- THE TIED CARD OF 'laws.FnExactLabelsOf'. -/
def fnExactLabelsOfCard : Claim7 := { stood := { row := fnExactLabelsOfRow, standIns := [], harness := (true, "326d3ccfe78462102f972b14b9e49b0122b38c3ae859fa3907769771ae872216"), looks := false }, kinds := [], alts := [], laidByText := true, laidKinds := [.data, .data, .data], laidTests := true, laidLooks := .later }
def FnExactLabelsOfCardSaid : Prop := Claim7.holds Tryz.pinned (.plain (OpenSpec.ofChange fnExactLabelsOfSpec)) fnExactLabelsOfCard

/-- THE SECOND FORM's CARD OF 'laws.FnExactBaseLabel'. -/
def fnExactBaseLabelUptoCard : Claim7 := { stood := { row := fnExactBaseLabelUptoRow, standIns := [], harness := (true, "326d3ccfe78462102f972b14b9e49b0122b38c3ae859fa3907769771ae872216"), looks := false }, kinds := [], alts := [], laidByText := true, laidKinds := [.data, .data, .data], laidTests := true, laidLooks := .later }
def FnExactBaseLabelUptoCardSaid : Prop := Claim7.holds Tryz.pinned (.plain (OpenSpec.upto fnExactBaseLabelSpec)) fnExactBaseLabelUptoCard

/-- THE SECOND FORM's CARD OF 'laws.FnExactLabelsOf'. -/
def fnExactLabelsOfUptoCard : Claim7 := { stood := { row := fnExactLabelsOfUptoRow, standIns := [], harness := (true, "326d3ccfe78462102f972b14b9e49b0122b38c3ae859fa3907769771ae872216"), looks := false }, kinds := [], alts := [], laidByText := true, laidKinds := [.data, .data, .data], laidTests := true, laidLooks := .later }
def FnExactLabelsOfUptoCardSaid : Prop := Claim7.holds Tryz.pinned (.plain (OpenSpec.upto fnExactLabelsOfSpec)) fnExactLabelsOfUptoCard
end Rows
end Go.Proofs.YtllkmnifbnjdkaaGreatDoor
