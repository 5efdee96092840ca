/-
  DERIVED. GIVEN WITH THE SEED: THE CARDS: each row of YtbicfmoemgaapaaGreatDoorRows.lean that lists a variable, with what it lists TIED to the program's text (the seventh form; the later family's looks); each row that meets fmt, with fmt's text TOLD by the authors' own Lean function (tested against real Go, not proved from fmt's source: count such statements apart). THE CARD IS WHAT COUNTS. Prove the row's statement (the work); the ties are given (YtbicfmoemgaapaaGreatDoorTie.lean); close each card by the builder's one call (the guide's Derived/Test/ToyasCard.lean, 'card_holds'). Laid BY PROGRAM, IN A SANDBOX (cutbox-door.mjs). By AI agents, Wed Nov 11 2026. No macro, syntax, notation, axiom, sorry.
-/
import Derived.Test.YtbicfmoemgaapaaGreatDoorRows
import GoSem.ClaimSeven
namespace Go.Proofs.YtbicfmoemgaapaaGreatDoor
namespace Rows

/-- THE TIED CARD OF 'laws.FnExactKeysOfLabel'. -/
def fnExactKeysOfLabelCard : Claim7 := { stood := { row := fnExactKeysOfLabelRow, standIns := [], harness := (true, "85bcd5e7d297360794e9b8044be37668bcfeab7c2fa45b018389aed22b4d801d"), looks := false }, kinds := [], alts := [], laidByText := true, laidKinds := [.data, .data, .data], laidTests := true, laidLooks := .later }
def FnExactKeysOfLabelCardSaid : Prop := Claim7.holds Tryz.pinned (.plain (OpenSpec.ofChange fnExactKeysOfLabelSpec)) fnExactKeysOfLabelCard

/-- THE TIED CARD OF 'laws.FnExactRelabelKeys'. -/
def fnExactRelabelKeysCard : Claim7 := { stood := { row := fnExactRelabelKeysRow, standIns := [], harness := (true, "85bcd5e7d297360794e9b8044be37668bcfeab7c2fa45b018389aed22b4d801d"), looks := false }, kinds := [], alts := [], laidByText := true, laidKinds := [.data, .data, .data], laidTests := true, laidLooks := .later }
def FnExactRelabelKeysCardSaid : Prop := Claim7.holds Tryz.pinned (.plain (OpenSpec.ofChange fnExactRelabelKeysSpec)) fnExactRelabelKeysCard

/-- THE SECOND FORM's CARD OF 'laws.FnExactKeysOfLabel'. -/
def fnExactKeysOfLabelUptoCard : Claim7 := { stood := { row := fnExactKeysOfLabelUptoRow, standIns := [], harness := (true, "85bcd5e7d297360794e9b8044be37668bcfeab7c2fa45b018389aed22b4d801d"), looks := false }, kinds := [], alts := [], laidByText := true, laidKinds := [.data, .data, .data], laidTests := true, laidLooks := .later }
def FnExactKeysOfLabelUptoCardSaid : Prop := Claim7.holds Tryz.pinned (.plain (OpenSpec.upto fnExactKeysOfLabelSpec)) fnExactKeysOfLabelUptoCard

/-- THE SECOND FORM's CARD OF 'laws.FnExactRelabelKeys'. -/
def fnExactRelabelKeysUptoCard : Claim7 := { stood := { row := fnExactRelabelKeysUptoRow, standIns := [], harness := (true, "85bcd5e7d297360794e9b8044be37668bcfeab7c2fa45b018389aed22b4d801d"), looks := false }, kinds := [], alts := [], laidByText := true, laidKinds := [.data, .data, .data], laidTests := true, laidLooks := .later }
def FnExactRelabelKeysUptoCardSaid : Prop := Claim7.holds Tryz.pinned (.plain (OpenSpec.upto fnExactRelabelKeysSpec)) fnExactRelabelKeysUptoCard
end Rows
end Go.Proofs.YtbicfmoemgaapaaGreatDoor
