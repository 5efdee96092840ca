/-
  DERIVED. GIVEN WITH THE SEED: THE CARDS: each row of YtgabgmogcniedaaDoorRows.lean that lists a variable, with what it lists TIED to the program's text (the seventh form; the later family's looks); each row that meets fmt, with fmt's text TOLD by the authors' own Lean function (tested against real Go, not proved from fmt's source: count such statements apart). THE CARD IS WHAT COUNTS. Prove the row's statement (the work); the ties are given (YtgabgmogcniedaaDoorTie.lean); close each card by the builder's one call (the guide's Derived/Test/ToyasCard.lean, 'card_holds'). Laid BY PROGRAM, IN A SANDBOX (cutbox-door.mjs). By AI agents, Wed Nov 11 2026. No macro, syntax, notation, axiom, sorry.
-/
import Derived.Test.YtgabgmogcniedaaDoorRows
import GoSem.ClaimSeven
namespace Go.Proofs.YtgabgmogcniedaaDoor
namespace Rows

/-- THE TIED CARD OF 'laws.FnNameOrder'. -/
def fnNameOrderCard : Claim7 := { stood := { row := fnNameOrderRow, standIns := [], harness := (true, "c759e0212a4bb1ecbc1226df7d430e5e9b9f9e050b955653beb611e4d51d2258"), looks := false }, kinds := [], alts := [], laidByText := true, laidKinds := [.data, .pinned, .pinned], laidTests := true, laidLooks := .later }
def FnNameOrderCardSaid : Prop := Claim7.holds Tryd.pinned (.plain (OpenSpec.ofChange fnNameOrderSpec)) fnNameOrderCard

/-- THE SECOND FORM's CARD OF 'laws.FnNameOrder'. -/
def fnNameOrderUptoCard : Claim7 := { stood := { row := fnNameOrderUptoRow, standIns := [], harness := (true, "c759e0212a4bb1ecbc1226df7d430e5e9b9f9e050b955653beb611e4d51d2258"), looks := false }, kinds := [], alts := [], laidByText := true, laidKinds := [.data, .pinned, .pinned], laidTests := true, laidLooks := .later }
def FnNameOrderUptoCardSaid : Prop := Claim7.holds Tryd.pinned (.plain (OpenSpec.upto fnNameOrderSpec)) fnNameOrderUptoCard
end Rows
end Go.Proofs.YtgabgmogcniedaaDoor
