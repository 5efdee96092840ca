/-
  DERIVED. GIVEN WITH THE SEED: THE CARDS: each row of YtjjijpeiaojhkaaDoorRows.lean that lists a variable, with what it lists TIED to the program's text (the seventh form; the later family's looks); each row that meets fmt, with fmt's text TOLD by the authors' own Lean function (tested against real Go, not proved from fmt's source: count such statements apart). THE CARD IS WHAT COUNTS. Prove the row's statement (the work); the ties are given (YtjjijpeiaojhkaaDoorTie.lean); close each card by the builder's one call (the guide's Derived/Test/ToyasCard.lean, 'card_holds'). Laid BY PROGRAM, IN A SANDBOX (cutbox-door.mjs). By AI agents, Wed Nov 11 2026. No macro, syntax, notation, axiom, sorry.
-/
import Derived.Test.YtjjijpeiaojhkaaDoorRows
import GoSem.ClaimSeven
namespace Go.Proofs.YtjjijpeiaojhkaaDoor
namespace Rows

/-- THE TIED CARD OF 'laws.FnExactMergeMarks'. -/
def fnExactMergeMarksCard : Claim7 := { stood := { row := fnExactMergeMarksRow, standIns := [], harness := (true, "efd0b6a2e56bacfa2f4da67cc2cd661993c8133832d63d978fc3a7df53207a32"), looks := false }, kinds := [], alts := [], laidByText := true, laidKinds := [.data], laidTests := true, laidLooks := .later }
def FnExactMergeMarksCardSaid : Prop := Claim7.holds Tryd.pinned (.plain (OpenSpec.ofChange fnExactMergeMarksSpec)) fnExactMergeMarksCard

/-- THE TIED CARD OF 'laws.FnExactJoinTwo'. -/
def fnExactJoinTwoCard : Claim7 := { stood := { row := fnExactJoinTwoRow, standIns := [], harness := (true, "efd0b6a2e56bacfa2f4da67cc2cd661993c8133832d63d978fc3a7df53207a32"), looks := false }, kinds := [], alts := [], laidByText := true, laidKinds := [.data], laidTests := true, laidLooks := .later }
def FnExactJoinTwoCardSaid : Prop := Claim7.holds Tryd.pinned (.plain (OpenSpec.ofChange fnExactJoinTwoSpec)) fnExactJoinTwoCard

/-- THE TIED CARD OF 'laws.FnExactEndWith'. -/
def fnExactEndWithCard : Claim7 := { stood := { row := fnExactEndWithRow, standIns := [], harness := (true, "efd0b6a2e56bacfa2f4da67cc2cd661993c8133832d63d978fc3a7df53207a32"), looks := false }, kinds := [], alts := [], laidByText := true, laidKinds := [.data, .data, .pinned], laidTests := true, laidLooks := .later }
def FnExactEndWithCardSaid : Prop := Claim7.holds Tryd.pinned (.plain (OpenSpec.ofChange fnExactEndWithSpec)) fnExactEndWithCard

/-- THE SECOND FORM's CARD OF 'laws.FnExactMergeMarks'. -/
def fnExactMergeMarksUptoCard : Claim7 := { stood := { row := fnExactMergeMarksUptoRow, standIns := [], harness := (true, "efd0b6a2e56bacfa2f4da67cc2cd661993c8133832d63d978fc3a7df53207a32"), looks := false }, kinds := [], alts := [], laidByText := true, laidKinds := [.data], laidTests := true, laidLooks := .later }
def FnExactMergeMarksUptoCardSaid : Prop := Claim7.holds Tryd.pinned (.plain (OpenSpec.upto fnExactMergeMarksSpec)) fnExactMergeMarksUptoCard

/-- THE SECOND FORM's CARD OF 'laws.FnExactJoinTwo'. -/
def fnExactJoinTwoUptoCard : Claim7 := { stood := { row := fnExactJoinTwoUptoRow, standIns := [], harness := (true, "efd0b6a2e56bacfa2f4da67cc2cd661993c8133832d63d978fc3a7df53207a32"), looks := false }, kinds := [], alts := [], laidByText := true, laidKinds := [.data], laidTests := true, laidLooks := .later }
def FnExactJoinTwoUptoCardSaid : Prop := Claim7.holds Tryd.pinned (.plain (OpenSpec.upto fnExactJoinTwoSpec)) fnExactJoinTwoUptoCard

/-- THE SECOND FORM's CARD OF 'laws.FnExactEndWith'. -/
def fnExactEndWithUptoCard : Claim7 := { stood := { row := fnExactEndWithUptoRow, standIns := [], harness := (true, "efd0b6a2e56bacfa2f4da67cc2cd661993c8133832d63d978fc3a7df53207a32"), looks := false }, kinds := [], alts := [], laidByText := true, laidKinds := [.data, .data, .pinned], laidTests := true, laidLooks := .later }
def FnExactEndWithUptoCardSaid : Prop := Claim7.holds Tryd.pinned (.plain (OpenSpec.upto fnExactEndWithSpec)) fnExactEndWithUptoCard
end Rows
end Go.Proofs.YtjjijpeiaojhkaaDoor
