/-
  DERIVED. GIVEN WITH THE SEED: THE CARDS: each row of YthacdkbjefpoaaaDoorRows.lean that lists a variable, with what it lists TIED to the program's text (the seventh form; the later family's looks); each row that meets fmt, with fmt's text TOLD by the authors' own Lean function (tested against real Go, not proved from fmt's source: count such statements apart). THE CARD IS WHAT COUNTS. Prove the row's statement (the work); the ties are given (YthacdkbjefpoaaaDoorTie.lean); close each card by the builder's one call (the guide's Derived/Test/ToyasCard.lean, 'card_holds'). Laid BY PROGRAM, IN A SANDBOX (cutbox-door.mjs). By AI agents, Wed Nov 11 2026. No macro, syntax, notation, axiom, sorry.
-/
import Derived.Test.YthacdkbjefpoaaaDoorRows
import GoSem.ClaimSeven
namespace Go.Proofs.YthacdkbjefpoaaaDoor
namespace Rows

/-- THE TIED CARD OF 'laws.FnCollation'. -/
def fnCollationCard : Claim7 := { stood := { row := fnCollationRow, standIns := [], harness := (true, "a2878fff8137d9ecd36feec3a158b16336a067f813a7a3e914ba93ed65b90929"), looks := false }, kinds := [], alts := [], laidByText := true, laidKinds := [.data, .sentinel, .pinned, .pinned], laidTests := true, laidLooks := .later }
def FnCollationCardSaid : Prop := Claim7.holds Tryd.pinned (.plain (OpenSpec.ofChange fnCollationSpec)) fnCollationCard

/-- THE SECOND FORM's CARD OF 'laws.FnCollation'. -/
def fnCollationUptoCard : Claim7 := { stood := { row := fnCollationUptoRow, standIns := [], harness := (true, "a2878fff8137d9ecd36feec3a158b16336a067f813a7a3e914ba93ed65b90929"), looks := false }, kinds := [], alts := [], laidByText := true, laidKinds := [.data, .sentinel, .pinned, .pinned], laidTests := true, laidLooks := .later }
def FnCollationUptoCardSaid : Prop := Claim7.holds Tryd.pinned (.plain (OpenSpec.upto fnCollationSpec)) fnCollationUptoCard
end Rows
end Go.Proofs.YthacdkbjefpoaaaDoor
