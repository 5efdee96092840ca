/-
  DERIVED. GIVEN WITH THE SEED: THE CARDS: each row of YtmdjdgamojndkaaDoorRows.lean that lists a variable, with what it lists TIED to the program's text (the seventh form; the later family's looks); each row that meets fmt, with fmt's text TOLD by the authors' own Lean function (tested against real Go, not proved from fmt's source: count such statements apart). THE CARD IS WHAT COUNTS. Prove the row's statement (the work); the ties are given (YtmdjdgamojndkaaDoorTie.lean); close each card by the builder's one call (the guide's Derived/Test/ToyasCard.lean, 'card_holds'). Laid BY PROGRAM, IN A SANDBOX (cutbox-door.mjs). By AI agents, Wed Nov 11 2026. No macro, syntax, notation, axiom, sorry.
-/
import Derived.Test.YtmdjdgamojndkaaDoorRows
import GoSem.ClaimSeven
namespace Go.Proofs.YtmdjdgamojndkaaDoor
namespace Rows

/-- THE TIED CARD OF 'laws.FnNameForms'. -/
def fnNameFormsCard : Claim7 := { stood := { row := fnNameFormsRow, standIns := [], harness := (true, "87b6d52a94d4ef08b526ae9d5fe2688ae309e5a5dd9520d86b2397ac1e688e4a"), looks := false }, kinds := [], alts := [], laidByText := true, laidKinds := [.data, .pinned, .pinned], laidTests := true, laidLooks := .later }
def FnNameFormsCardSaid : Prop := Claim7.holds Tryd.pinned (.plain (OpenSpec.ofChange fnNameFormsSpec)) fnNameFormsCard

/-- THE SECOND FORM's CARD OF 'laws.FnNameForms'. -/
def fnNameFormsUptoCard : Claim7 := { stood := { row := fnNameFormsUptoRow, standIns := [], harness := (true, "87b6d52a94d4ef08b526ae9d5fe2688ae309e5a5dd9520d86b2397ac1e688e4a"), looks := false }, kinds := [], alts := [], laidByText := true, laidKinds := [.data, .pinned, .pinned], laidTests := true, laidLooks := .later }
def FnNameFormsUptoCardSaid : Prop := Claim7.holds Tryd.pinned (.plain (OpenSpec.upto fnNameFormsSpec)) fnNameFormsUptoCard
end Rows
end Go.Proofs.YtmdjdgamojndkaaDoor
