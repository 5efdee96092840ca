/-
  DERIVED. GIVEN WITH THE SEED: THE CARDS: each row of YtdjlcjmaikdeiaaDoorRows.lean that lists a variable, with what it lists TIED to the program's text (the seventh form; the later family's looks); each row that meets fmt, with fmt's text TOLD by the authors' own Lean function (tested against real Go, not proved from fmt's source: count such statements apart). THE CARD IS WHAT COUNTS. Prove the row's statement (the work); the ties are given (YtdjlcjmaikdeiaaDoorTie.lean); close each card by the builder's one call (the guide's Derived/Test/ToyasCard.lean, 'card_holds'). Laid BY PROGRAM, IN A SANDBOX (cutbox-door.mjs). By AI agents, Wed Nov 11 2026. No macro, syntax, notation, axiom, sorry.
-/
import Derived.Test.YtdjlcjmaikdeiaaDoorRows
import GoSem.ClaimSeven
namespace Go.Proofs.YtdjlcjmaikdeiaaDoor
namespace Rows

/-- THE TIED CARD OF 'laws.FnExactFormatStyle'. -/
def fnExactFormatStyleCard : Claim7 := { stood := { row := fnExactFormatStyleRow, standIns := [], harness := (true, "0268408a7932f980cd753f2b13f7a2a009db149a7bc7ee9b83d0fa10f7058b68"), looks := false }, kinds := [], alts := [], laidByText := true, laidKinds := [.data, .data, .data, .data, .data], laidTests := true, laidLooks := .later }
def FnExactFormatStyleCardSaid : Prop := Claim7.holds Tryd.pinned (.plain (OpenSpec.ofChange fnExactFormatStyleSpec)) fnExactFormatStyleCard

/-- THE TIED CARD OF 'laws.FnExactFieldsUsed'. -/
def fnExactFieldsUsedCard : Claim7 := { stood := { row := fnExactFieldsUsedRow, standIns := [], harness := (true, "0268408a7932f980cd753f2b13f7a2a009db149a7bc7ee9b83d0fa10f7058b68"), looks := false }, kinds := [], alts := [], laidByText := true, laidKinds := [.data, .data], laidTests := true, laidLooks := .later }
def FnExactFieldsUsedCardSaid : Prop := Claim7.holds Tryd.pinned (.plain (OpenSpec.ofChange fnExactFieldsUsedSpec)) fnExactFieldsUsedCard

/-- THE SECOND FORM's CARD OF 'laws.FnExactFormatStyle'. -/
def fnExactFormatStyleUptoCard : Claim7 := { stood := { row := fnExactFormatStyleUptoRow, standIns := [], harness := (true, "0268408a7932f980cd753f2b13f7a2a009db149a7bc7ee9b83d0fa10f7058b68"), looks := false }, kinds := [], alts := [], laidByText := true, laidKinds := [.data, .data, .data, .data, .data], laidTests := true, laidLooks := .later }
def FnExactFormatStyleUptoCardSaid : Prop := Claim7.holds Tryd.pinned (.plain (OpenSpec.upto fnExactFormatStyleSpec)) fnExactFormatStyleUptoCard

/-- THE SECOND FORM's CARD OF 'laws.FnExactFieldsUsed'. -/
def fnExactFieldsUsedUptoCard : Claim7 := { stood := { row := fnExactFieldsUsedUptoRow, standIns := [], harness := (true, "0268408a7932f980cd753f2b13f7a2a009db149a7bc7ee9b83d0fa10f7058b68"), looks := false }, kinds := [], alts := [], laidByText := true, laidKinds := [.data, .data], laidTests := true, laidLooks := .later }
def FnExactFieldsUsedUptoCardSaid : Prop := Claim7.holds Tryd.pinned (.plain (OpenSpec.upto fnExactFieldsUsedSpec)) fnExactFieldsUsedUptoCard
end Rows
end Go.Proofs.YtdjlcjmaikdeiaaDoor
