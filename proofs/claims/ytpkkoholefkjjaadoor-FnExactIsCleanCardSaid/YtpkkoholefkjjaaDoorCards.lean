/-
  DERIVED. GIVEN WITH THE SEED: THE CARDS: each row of YtpkkoholefkjjaaDoorRows.lean that lists a variable, with what it lists TIED to the program's text (the seventh form; the later family's looks); each row that meets fmt, with fmt's text TOLD by the authors' own Lean function (tested against real Go, not proved from fmt's source: count such statements apart). THE CARD IS WHAT COUNTS. Prove the row's statement (the work); the ties are given (YtpkkoholefkjjaaDoorTie.lean); close each card by the builder's one call (the guide's Derived/Test/ToyasCard.lean, 'card_holds'). Laid BY PROGRAM, IN A SANDBOX (cutbox-door.mjs). By AI agents, Wed Nov 11 2026. No macro, syntax, notation, axiom, sorry.
-/
import Derived.Test.YtpkkoholefkjjaaDoorRows
import GoSem.ClaimSeven
namespace Go.Proofs.YtpkkoholefkjjaaDoor
namespace Rows

/-- THE TIED CARD OF 'laws.FnExactCleanText'. -/
def fnExactCleanTextCard : Claim7 := { stood := { row := fnExactCleanTextRow, standIns := [], harness := (true, "8fc05c570019f6f3749e5e5ea968f338720d3b66be4de259ed67e8156c50c49c"), looks := false }, kinds := [], alts := [], laidByText := true, laidKinds := [.data, .data, .pinned], laidTests := true, laidLooks := .later }
def FnExactCleanTextCardSaid : Prop := Claim7.holds Tryd.pinned (.plain (OpenSpec.ofChange fnExactCleanTextSpec)) fnExactCleanTextCard

/-- THE TIED CARD OF 'laws.FnExactIsClean'. -/
def fnExactIsCleanCard : Claim7 := { stood := { row := fnExactIsCleanRow, standIns := [], harness := (true, "8fc05c570019f6f3749e5e5ea968f338720d3b66be4de259ed67e8156c50c49c"), looks := false }, kinds := [], alts := [], laidByText := true, laidKinds := [.data, .data, .pinned], laidTests := true, laidLooks := .later }
def FnExactIsCleanCardSaid : Prop := Claim7.holds Tryd.pinned (.plain (OpenSpec.ofChange fnExactIsCleanSpec)) fnExactIsCleanCard

/-- THE SECOND FORM's CARD OF 'laws.FnExactCleanText'. -/
def fnExactCleanTextUptoCard : Claim7 := { stood := { row := fnExactCleanTextUptoRow, standIns := [], harness := (true, "8fc05c570019f6f3749e5e5ea968f338720d3b66be4de259ed67e8156c50c49c"), looks := false }, kinds := [], alts := [], laidByText := true, laidKinds := [.data, .data, .pinned], laidTests := true, laidLooks := .later }
def FnExactCleanTextUptoCardSaid : Prop := Claim7.holds Tryd.pinned (.plain (OpenSpec.upto fnExactCleanTextSpec)) fnExactCleanTextUptoCard

/-- THE SECOND FORM's CARD OF 'laws.FnExactIsClean'. -/
def fnExactIsCleanUptoCard : Claim7 := { stood := { row := fnExactIsCleanUptoRow, standIns := [], harness := (true, "8fc05c570019f6f3749e5e5ea968f338720d3b66be4de259ed67e8156c50c49c"), looks := false }, kinds := [], alts := [], laidByText := true, laidKinds := [.data, .data, .pinned], laidTests := true, laidLooks := .later }
def FnExactIsCleanUptoCardSaid : Prop := Claim7.holds Tryd.pinned (.plain (OpenSpec.upto fnExactIsCleanSpec)) fnExactIsCleanUptoCard
end Rows
end Go.Proofs.YtpkkoholefkjjaaDoor
