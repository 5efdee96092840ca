/-
  DERIVED. GIVEN WITH THE SEED: THE CARDS: each row of YtheiammmanpddaaDoorRows.lean that lists a variable, with what it lists TIED to the program's text (the seventh form; the later family's looks); each row that meets fmt, with fmt's text TOLD by the authors' own Lean function (tested against real Go, not proved from fmt's source: count such statements apart). THE CARD IS WHAT COUNTS. Prove the row's statement (the work); the ties are given (YtheiammmanpddaaDoorTie.lean); close each card by the builder's one call (the guide's Derived/Test/ToyasCard.lean, 'card_holds'). Laid BY PROGRAM, IN A SANDBOX (cutbox-door.mjs). By AI agents, Wed Nov 11 2026. No macro, syntax, notation, axiom, sorry.
-/
import Derived.Test.YtheiammmanpddaaDoorRows
import GoSem.ClaimSeven
namespace Go.Proofs.YtheiammmanpddaaDoor
namespace Rows

/-- THE TIED CARD OF 'laws.FnExactPlainTitle'. -/
def fnExactPlainTitleCard : Claim7 := { stood := { row := fnExactPlainTitleRow, standIns := [], harness := (true, "57a3c396d5ca9c6a8b411dedf7b1ef62424cd002a44a1d8b3d4be7140da8f5df"), looks := false }, kinds := [], alts := [], laidByText := true, laidKinds := [.sentinel], laidTests := true, laidLooks := .later }
def FnExactPlainTitleCardSaid : Prop := Claim7.holds Tryd.pinned (.plain (OpenSpec.ofChange fnExactPlainTitleSpec)) fnExactPlainTitleCard

/-- THE TIED CARD OF 'laws.FnExactTitleWords'. -/
def fnExactTitleWordsCard : Claim7 := { stood := { row := fnExactTitleWordsRow, standIns := [], harness := (true, "57a3c396d5ca9c6a8b411dedf7b1ef62424cd002a44a1d8b3d4be7140da8f5df"), looks := false }, kinds := [], alts := [], laidByText := true, laidKinds := [.data, .sentinel, .pinned], laidTests := true, laidLooks := .later }
def FnExactTitleWordsCardSaid : Prop := Claim7.holds Tryd.pinned (.plain (OpenSpec.ofChange fnExactTitleWordsSpec)) fnExactTitleWordsCard

/-- THE TIED CARD OF 'laws.FnExactSplitSubtitle'. -/
def fnExactSplitSubtitleCard : Claim7 := { stood := { row := fnExactSplitSubtitleRow, standIns := [], harness := (true, "57a3c396d5ca9c6a8b411dedf7b1ef62424cd002a44a1d8b3d4be7140da8f5df"), looks := false }, kinds := [], alts := [], laidByText := true, laidKinds := [.sentinel], laidTests := true, laidLooks := .later }
def FnExactSplitSubtitleCardSaid : Prop := Claim7.holds Tryd.pinned (.plain (OpenSpec.ofChange fnExactSplitSubtitleSpec)) fnExactSplitSubtitleCard

/-- THE SECOND FORM's CARD OF 'laws.FnExactPlainTitle'. -/
def fnExactPlainTitleUptoCard : Claim7 := { stood := { row := fnExactPlainTitleUptoRow, standIns := [], harness := (true, "57a3c396d5ca9c6a8b411dedf7b1ef62424cd002a44a1d8b3d4be7140da8f5df"), looks := false }, kinds := [], alts := [], laidByText := true, laidKinds := [.sentinel], laidTests := true, laidLooks := .later }
def FnExactPlainTitleUptoCardSaid : Prop := Claim7.holds Tryd.pinned (.plain (OpenSpec.upto fnExactPlainTitleSpec)) fnExactPlainTitleUptoCard

/-- THE SECOND FORM's CARD OF 'laws.FnExactTitleWords'. -/
def fnExactTitleWordsUptoCard : Claim7 := { stood := { row := fnExactTitleWordsUptoRow, standIns := [], harness := (true, "57a3c396d5ca9c6a8b411dedf7b1ef62424cd002a44a1d8b3d4be7140da8f5df"), looks := false }, kinds := [], alts := [], laidByText := true, laidKinds := [.data, .sentinel, .pinned], laidTests := true, laidLooks := .later }
def FnExactTitleWordsUptoCardSaid : Prop := Claim7.holds Tryd.pinned (.plain (OpenSpec.upto fnExactTitleWordsSpec)) fnExactTitleWordsUptoCard

/-- THE SECOND FORM's CARD OF 'laws.FnExactSplitSubtitle'. -/
def fnExactSplitSubtitleUptoCard : Claim7 := { stood := { row := fnExactSplitSubtitleUptoRow, standIns := [], harness := (true, "57a3c396d5ca9c6a8b411dedf7b1ef62424cd002a44a1d8b3d4be7140da8f5df"), looks := false }, kinds := [], alts := [], laidByText := true, laidKinds := [.sentinel], laidTests := true, laidLooks := .later }
def FnExactSplitSubtitleUptoCardSaid : Prop := Claim7.holds Tryd.pinned (.plain (OpenSpec.upto fnExactSplitSubtitleSpec)) fnExactSplitSubtitleUptoCard
end Rows
end Go.Proofs.YtheiammmanpddaaDoor
