/-
  DERIVED. GIVEN WITH THE SEED: THE CARDS: each row of YtlhkfhgnlopejaaDoorRows.lean that lists a variable, with what it lists TIED to the program's text (the seventh form; the later family's looks); each row that meets fmt, with fmt's text TOLD by the authors' own Lean function (tested against real Go, not proved from fmt's source: count such statements apart). THE CARD IS WHAT COUNTS. Prove the row's statement (the work); the ties are given (YtlhkfhgnlopejaaDoorTie.lean); close each card by the builder's one call (the guide's Derived/Test/ToyasCard.lean, 'card_holds'). Laid BY PROGRAM, IN A SANDBOX (cutbox-door.mjs). By AI agents, Wed Nov 11 2026. No macro, syntax, notation, axiom, sorry.
-/
import Derived.Test.YtlhkfhgnlopejaaDoorRows
import GoSem.ClaimSeven
namespace Go.Proofs.YtlhkfhgnlopejaaDoor
namespace Rows

/-- THE TIED CARD OF 'laws.FnDateForms'. -/
def fnDateFormsCard : Claim7 := { stood := { row := fnDateFormsRow, standIns := [], harness := (true, "bd266ce155173ac64bf037ca860ddbb33f5d7279edfd7c72b5e07d6cbc85ac0a"), looks := true }, kinds := [], alts := [], laidByText := true, laidKinds := [.data, .data, .data, .sentinel, .sentinel], laidTests := true, laidLooks := .later }
def FnDateFormsCardSaid : Prop := Claim7.holds Tryd.pinned (.plain (OpenSpec.ofChange fnDateFormsSpec)) fnDateFormsCard

/-- THE SECOND FORM's CARD OF 'laws.FnDateForms'. -/
def fnDateFormsUptoCard : Claim7 := { stood := { row := fnDateFormsUptoRow, standIns := [], harness := (true, "bd266ce155173ac64bf037ca860ddbb33f5d7279edfd7c72b5e07d6cbc85ac0a"), looks := true }, kinds := [], alts := [], laidByText := true, laidKinds := [.data, .data, .data, .sentinel, .sentinel], laidTests := true, laidLooks := .later }
def FnDateFormsUptoCardSaid : Prop := Claim7.holds Tryd.pinned (.plain (OpenSpec.upto fnDateFormsSpec)) fnDateFormsUptoCard
end Rows
end Go.Proofs.YtlhkfhgnlopejaaDoor
