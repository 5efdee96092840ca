/-
  DERIVED. GIVEN WITH THE SEED: THE CARDS: each row of YtjaebblkedlpnaaDoorRows.lean that lists a variable, with what it lists TIED to the program's text (the seventh form; the later family's looks); each row that meets fmt, with fmt's text TOLD by the authors' own Lean function (tested against real Go, not proved from fmt's source: count such statements apart). THE CARD IS WHAT COUNTS. Prove the row's statement (the work); the ties are given (YtjaebblkedlpnaaDoorTie.lean); close each card by the builder's one call (the guide's Derived/Test/ToyasCard.lean, 'card_holds'). Laid BY PROGRAM, IN A SANDBOX (cutbox-door.mjs). By AI agents, Wed Nov 11 2026. No macro, syntax, notation, axiom, sorry.
-/
import Derived.Test.YtjaebblkedlpnaaDoorRows
import GoSem.ClaimSeven
namespace Go.Proofs.YtjaebblkedlpnaaDoor
namespace Rows

/-- THE TIED CARD OF 'laws.FnExactFormatPages'. -/
def fnExactFormatPagesCard : Claim7 := { stood := { row := fnExactFormatPagesRow, standIns := [], harness := (true, "736b506bdac8393900799d4ff0f27bf8f9a4e93437fa83eda24f22d7feff415a"), looks := false }, kinds := [], alts := [], laidByText := true, laidKinds := [.data, .data, .data], laidTests := true, laidLooks := .later }
def FnExactFormatPagesCardSaid : Prop := Claim7.holds Tryd.pinned (.plain (OpenSpec.ofChange fnExactFormatPagesSpec)) fnExactFormatPagesCard

/-- THE TIED CARD OF 'laws.FnExactCollapseRange'. -/
def fnExactCollapseRangeCard : Claim7 := { stood := { row := fnExactCollapseRangeRow, standIns := [], harness := (true, "736b506bdac8393900799d4ff0f27bf8f9a4e93437fa83eda24f22d7feff415a"), looks := false }, kinds := [], alts := [], laidByText := true, laidKinds := [.data, .data, .data], laidTests := true, laidLooks := .later }
def FnExactCollapseRangeCardSaid : Prop := Claim7.holds Tryd.pinned (.plain (OpenSpec.ofChange fnExactCollapseRangeSpec)) fnExactCollapseRangeCard

/-- THE TIED CARD OF 'laws.FnExactLocatorText'. -/
def fnExactLocatorTextCard : Claim7 := { stood := { row := fnExactLocatorTextRow, standIns := [], harness := (true, "736b506bdac8393900799d4ff0f27bf8f9a4e93437fa83eda24f22d7feff415a"), looks := false }, kinds := [], alts := [], laidByText := true, laidKinds := [.data, .data, .data], laidTests := true, laidLooks := .later }
def FnExactLocatorTextCardSaid : Prop := Claim7.holds Tryd.pinned (.plain (OpenSpec.ofChange fnExactLocatorTextSpec)) fnExactLocatorTextCard

/-- THE SECOND FORM's CARD OF 'laws.FnExactFormatPages'. -/
def fnExactFormatPagesUptoCard : Claim7 := { stood := { row := fnExactFormatPagesUptoRow, standIns := [], harness := (true, "736b506bdac8393900799d4ff0f27bf8f9a4e93437fa83eda24f22d7feff415a"), looks := false }, kinds := [], alts := [], laidByText := true, laidKinds := [.data, .data, .data], laidTests := true, laidLooks := .later }
def FnExactFormatPagesUptoCardSaid : Prop := Claim7.holds Tryd.pinned (.plain (OpenSpec.upto fnExactFormatPagesSpec)) fnExactFormatPagesUptoCard

/-- THE SECOND FORM's CARD OF 'laws.FnExactCollapseRange'. -/
def fnExactCollapseRangeUptoCard : Claim7 := { stood := { row := fnExactCollapseRangeUptoRow, standIns := [], harness := (true, "736b506bdac8393900799d4ff0f27bf8f9a4e93437fa83eda24f22d7feff415a"), looks := false }, kinds := [], alts := [], laidByText := true, laidKinds := [.data, .data, .data], laidTests := true, laidLooks := .later }
def FnExactCollapseRangeUptoCardSaid : Prop := Claim7.holds Tryd.pinned (.plain (OpenSpec.upto fnExactCollapseRangeSpec)) fnExactCollapseRangeUptoCard

/-- THE SECOND FORM's CARD OF 'laws.FnExactLocatorText'. -/
def fnExactLocatorTextUptoCard : Claim7 := { stood := { row := fnExactLocatorTextUptoRow, standIns := [], harness := (true, "736b506bdac8393900799d4ff0f27bf8f9a4e93437fa83eda24f22d7feff415a"), looks := false }, kinds := [], alts := [], laidByText := true, laidKinds := [.data, .data, .data], laidTests := true, laidLooks := .later }
def FnExactLocatorTextUptoCardSaid : Prop := Claim7.holds Tryd.pinned (.plain (OpenSpec.upto fnExactLocatorTextSpec)) fnExactLocatorTextUptoCard
end Rows
end Go.Proofs.YtjaebblkedlpnaaDoor
