/-
  DERIVED. GIVEN WITH THE SEED: THE CARDS: each row of YtlgfncemjcmpgaaDoorRows.lean that lists a variable, with what it lists TIED to the program's text (the seventh form; the later family's looks); each row that meets fmt, with fmt's text TOLD by the authors' own Lean function (tested against real Go, not proved from fmt's source: count such statements apart). THE CARD IS WHAT COUNTS. Prove the row's statement (the work); the ties are given (YtlgfncemjcmpgaaDoorTie.lean); close each card by the builder's one call (the guide's Derived/Test/ToyasCard.lean, 'card_holds'). Laid BY PROGRAM, IN A SANDBOX (cutbox-door.mjs). By AI agents, Wed Nov 11 2026. No macro, syntax, notation, axiom, sorry.
-/
import Derived.Test.YtlgfncemjcmpgaaDoorRows
import GoSem.ClaimSeven
namespace Go.Proofs.YtlgfncemjcmpgaaDoor
namespace Rows

/-- THE TIED CARD OF 'laws.FnExactIsValidStyle'. -/
def fnExactIsValidStyleCard : Claim7 := { stood := { row := fnExactIsValidStyleRow, standIns := [], harness := (true, "bdd0fac5565b54c7d8a71636e57dc84866d60a6bf0b6de6b82c14b3327c69e2a"), looks := false }, kinds := [], alts := [], laidByText := true, laidKinds := [.data, .data], laidTests := true, laidLooks := .later }
def FnExactIsValidStyleCardSaid : Prop := Claim7.holds Tryd.pinned (.plain (OpenSpec.ofChange fnExactIsValidStyleSpec)) fnExactIsValidStyleCard

/-- THE TIED CARD OF 'laws.FnExactCountNodes'. -/
def fnExactCountNodesCard : Claim7 := { stood := { row := fnExactCountNodesRow, standIns := [], harness := (true, "bdd0fac5565b54c7d8a71636e57dc84866d60a6bf0b6de6b82c14b3327c69e2a"), looks := false }, kinds := [], alts := [], laidByText := true, laidKinds := [.data, .data], laidTests := true, laidLooks := .later }
def FnExactCountNodesCardSaid : Prop := Claim7.holds Tryd.pinned (.plain (OpenSpec.ofChange fnExactCountNodesSpec)) fnExactCountNodesCard

/-- THE SECOND FORM's CARD OF 'laws.FnExactIsValidStyle'. -/
def fnExactIsValidStyleUptoCard : Claim7 := { stood := { row := fnExactIsValidStyleUptoRow, standIns := [], harness := (true, "bdd0fac5565b54c7d8a71636e57dc84866d60a6bf0b6de6b82c14b3327c69e2a"), looks := false }, kinds := [], alts := [], laidByText := true, laidKinds := [.data, .data], laidTests := true, laidLooks := .later }
def FnExactIsValidStyleUptoCardSaid : Prop := Claim7.holds Tryd.pinned (.plain (OpenSpec.upto fnExactIsValidStyleSpec)) fnExactIsValidStyleUptoCard

/-- THE SECOND FORM's CARD OF 'laws.FnExactCountNodes'. -/
def fnExactCountNodesUptoCard : Claim7 := { stood := { row := fnExactCountNodesUptoRow, standIns := [], harness := (true, "bdd0fac5565b54c7d8a71636e57dc84866d60a6bf0b6de6b82c14b3327c69e2a"), looks := false }, kinds := [], alts := [], laidByText := true, laidKinds := [.data, .data], laidTests := true, laidLooks := .later }
def FnExactCountNodesUptoCardSaid : Prop := Claim7.holds Tryd.pinned (.plain (OpenSpec.upto fnExactCountNodesSpec)) fnExactCountNodesUptoCard
end Rows
end Go.Proofs.YtlgfncemjcmpgaaDoor
