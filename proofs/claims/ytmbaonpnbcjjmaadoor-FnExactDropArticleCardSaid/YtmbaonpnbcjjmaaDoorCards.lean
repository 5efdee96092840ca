/-
  DERIVED. GIVEN WITH THE SEED: THE CARDS: each row of YtmbaonpnbcjjmaaDoorRows.lean that lists a variable, with what it lists TIED to the program's text (the seventh form; the later family's looks); each row that meets fmt, with fmt's text TOLD by the authors' own Lean function (tested against real Go, not proved from fmt's source: count such statements apart). THE CARD IS WHAT COUNTS. Prove the row's statement (the work); the ties are given (YtmbaonpnbcjjmaaDoorTie.lean); close each card by the builder's one call (the guide's Derived/Test/ToyasCard.lean, 'card_holds'). Laid BY PROGRAM, IN A SANDBOX (cutbox-door.mjs). By AI agents, Wed Nov 11 2026. No macro, syntax, notation, axiom, sorry.
-/
import Derived.Test.YtmbaonpnbcjjmaaDoorRows
import GoSem.ClaimSeven
namespace Go.Proofs.YtmbaonpnbcjjmaaDoor
namespace Rows

/-- THE TIED CARD OF 'laws.FnExactFoldText'. -/
def fnExactFoldTextCard : Claim7 := { stood := { row := fnExactFoldTextRow, standIns := [], harness := (true, "3cf2cd5925d6174a15804beef96da8182f6760b4ab558f69c0a43a10b5c5b203"), looks := false }, kinds := [], alts := [], laidByText := true, laidKinds := [.data, .sentinel, .pinned, .pinned], laidTests := true, laidLooks := .later }
def FnExactFoldTextCardSaid : Prop := Claim7.holds Tryd.pinned (.plain (OpenSpec.ofChange fnExactFoldTextSpec)) fnExactFoldTextCard

/-- THE TIED CARD OF 'laws.FnExactDropArticle'. -/
def fnExactDropArticleCard : Claim7 := { stood := { row := fnExactDropArticleRow, standIns := [], harness := (true, "3cf2cd5925d6174a15804beef96da8182f6760b4ab558f69c0a43a10b5c5b203"), looks := false }, kinds := [], alts := [], laidByText := true, laidKinds := [.data, .pinned, .pinned], laidTests := true, laidLooks := .later }
def FnExactDropArticleCardSaid : Prop := Claim7.holds Tryd.pinned (.plain (OpenSpec.ofChange fnExactDropArticleSpec)) fnExactDropArticleCard

/-- THE TIED CARD OF 'laws.FnExactCollateTexts'. -/
def fnExactCollateTextsCard : Claim7 := { stood := { row := fnExactCollateTextsRow, standIns := [], harness := (true, "3cf2cd5925d6174a15804beef96da8182f6760b4ab558f69c0a43a10b5c5b203"), looks := false }, kinds := [], alts := [], laidByText := true, laidKinds := [.data, .sentinel, .pinned, .pinned], laidTests := true, laidLooks := .later }
def FnExactCollateTextsCardSaid : Prop := Claim7.holds Tryd.pinned (.plain (OpenSpec.ofChange fnExactCollateTextsSpec)) fnExactCollateTextsCard

/-- THE SECOND FORM's CARD OF 'laws.FnExactFoldText'. -/
def fnExactFoldTextUptoCard : Claim7 := { stood := { row := fnExactFoldTextUptoRow, standIns := [], harness := (true, "3cf2cd5925d6174a15804beef96da8182f6760b4ab558f69c0a43a10b5c5b203"), looks := false }, kinds := [], alts := [], laidByText := true, laidKinds := [.data, .sentinel, .pinned, .pinned], laidTests := true, laidLooks := .later }
def FnExactFoldTextUptoCardSaid : Prop := Claim7.holds Tryd.pinned (.plain (OpenSpec.upto fnExactFoldTextSpec)) fnExactFoldTextUptoCard

/-- THE SECOND FORM's CARD OF 'laws.FnExactDropArticle'. -/
def fnExactDropArticleUptoCard : Claim7 := { stood := { row := fnExactDropArticleUptoRow, standIns := [], harness := (true, "3cf2cd5925d6174a15804beef96da8182f6760b4ab558f69c0a43a10b5c5b203"), looks := false }, kinds := [], alts := [], laidByText := true, laidKinds := [.data, .pinned, .pinned], laidTests := true, laidLooks := .later }
def FnExactDropArticleUptoCardSaid : Prop := Claim7.holds Tryd.pinned (.plain (OpenSpec.upto fnExactDropArticleSpec)) fnExactDropArticleUptoCard

/-- THE SECOND FORM's CARD OF 'laws.FnExactCollateTexts'. -/
def fnExactCollateTextsUptoCard : Claim7 := { stood := { row := fnExactCollateTextsUptoRow, standIns := [], harness := (true, "3cf2cd5925d6174a15804beef96da8182f6760b4ab558f69c0a43a10b5c5b203"), looks := false }, kinds := [], alts := [], laidByText := true, laidKinds := [.data, .sentinel, .pinned, .pinned], laidTests := true, laidLooks := .later }
def FnExactCollateTextsUptoCardSaid : Prop := Claim7.holds Tryd.pinned (.plain (OpenSpec.upto fnExactCollateTextsSpec)) fnExactCollateTextsUptoCard
end Rows
end Go.Proofs.YtmbaonpnbcjjmaaDoor
