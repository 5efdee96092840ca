/-
  DERIVED. GIVEN WITH THE SEED: THE CARDS: each row of YtbibjcmfgpmddaaDoorRows.lean that lists a variable, with what it lists TIED to the program's text (the seventh form; the later family's looks); each row that meets fmt, with fmt's text TOLD by the authors' own Lean function (tested against real Go, not proved from fmt's source: count such statements apart). THE CARD IS WHAT COUNTS. Prove the row's statement (the work); the ties are given (YtbibjcmfgpmddaaDoorTie.lean); close each card by the builder's one call (the guide's Derived/Test/ToyasCard.lean, 'card_holds'). Laid BY PROGRAM, IN A SANDBOX (cutbox-door.mjs). By AI agents, Wed Nov 11 2026. No macro, syntax, notation, axiom, sorry.
-/
import Derived.Test.YtbibjcmfgpmddaaDoorRows
import GoSem.ClaimSeven
namespace Go.Proofs.YtbibjcmfgpmddaaDoor
namespace Rows

/-- THE TIED CARD OF 'laws.FnExactFieldsUsed'. -/
def fnExactFieldsUsedCard : Claim7 := { stood := { row := fnExactFieldsUsedRow, standIns := [], harness := (true, "2745f383a3a130d62fa624f3d6bd55ce0df41ae2d6feca7a2f01ad7c54f45369"), looks := false }, kinds := [], alts := [], laidByText := true, laidKinds := [.data, .data], laidTests := true, laidLooks := .later }
def FnExactFieldsUsedCardSaid : Prop := Claim7.holds Tryd.pinned (.plain (OpenSpec.ofChange fnExactFieldsUsedSpec)) fnExactFieldsUsedCard

/-- THE SECOND FORM's CARD OF 'laws.FnExactFieldsUsed'. -/
def fnExactFieldsUsedUptoCard : Claim7 := { stood := { row := fnExactFieldsUsedUptoRow, standIns := [], harness := (true, "2745f383a3a130d62fa624f3d6bd55ce0df41ae2d6feca7a2f01ad7c54f45369"), looks := false }, kinds := [], alts := [], laidByText := true, laidKinds := [.data, .data], laidTests := true, laidLooks := .later }
def FnExactFieldsUsedUptoCardSaid : Prop := Claim7.holds Tryd.pinned (.plain (OpenSpec.upto fnExactFieldsUsedSpec)) fnExactFieldsUsedUptoCard
end Rows
end Go.Proofs.YtbibjcmfgpmddaaDoor
