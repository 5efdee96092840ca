/-
  No cell of these rows narrows 'for every input' (looked for: loops, veiled, ifaces, maps, wideKeys, modest, calm, conditions, laid).
  DERIVED. THE GIVEN ROWS OF THIS SEAT. 3 by the template 'for every input the law returns true; each argument reads behind the call as it read before'; 0 by the template 'total and deterministic' (their statements: YtianelbcjdbjkaaTotals.lean).
  GIVEN WITH THE SEED: the statements are not yours to turn. If you find one false, say at which input.
  Laid BY PROGRAM, IN A SANDBOX (cutbox-rows.mjs): the forced cells as the released guide's own fill.sh prints them over the translation d06a4003a00bdbd6… (all of the seat's roots in one cut). By AI agents, Wed Nov 11 2026. No macro, syntax, notation, axiom, sorry.
-/
import Derived.Test.YtianelbcjdbjkaaChecked
import GoSem.Claim
import GoSem.ClaimJoined
import GoSem.ClaimMapViews
import Derived.JoinedTies
import Derived.KernelRfl
namespace Go.Proofs.Ytianelbcjdbjkaa
/- THE CELL 'sum', in the pinned program and in every row, IS THE sha256 OF THE DUMP (.gsa) THAT YtianelbcjdbjkaaProg.lean LOADS. Nothing in Lean hashes anything: it is a label: what it is worth is what the hold of that sum in a sandbox is worth. -/
noncomputable def Try.pinned : Pinned := { name := "ytianelbcjdbjkaa", sum := "d06a4003a00bdbd6229ca9789149207bb2fd8791eba14e2d2e460a3522641543", checked := Try.checked }
namespace Rows
def none {H : Type} : Left H := { results := [], args := [] }

/-- 'laws.FnExactPairMarks': WHATEVER THE INPUT: true; the input reads as it did. -/
def fnExactPairMarksSpec : ChangeSpec := { name := "fnExactPairMarks", fn := fun _ => fun
  | [d] => { results := [.lit (.bool true)], args := [d] }
  | _ => none }
def fnExactPairMarksRow : OpenClaim := { program := "ytianelbcjdbjkaa", sum := "d06a4003a00bdbd6229ca9789149207bb2fd8791eba14e2d2e460a3522641543", func := "loop.example/g00896/laws.FnExactPairMarks", spec := "fnExactPairMarks", inPlace := ["slices.overlaps[loop.example/g00896/impl.markPair]"], unfollowed := true, recurses := true, apart := false }
def FnExactPairMarksSaid : Prop := fnExactPairMarksRow.holds Try.pinned (OpenSpec.ofChange fnExactPairMarksSpec)

/-- ITS FALSE NEIGHBOUR: 'it returns false'. Refute it at one input. -/
def fnExactPairMarksWrong : ChangeSpec := { name := "fnExactPairMarks", fn := fun _ => fun
  | [d] => { results := [.lit (.bool false)], args := [d] }
  | _ => none }
def FnExactPairMarksWrongFalsely : Prop := fnExactPairMarksRow.holds Try.pinned (OpenSpec.ofChange fnExactPairMarksWrong)

/-- 'laws.FnExactQuoteDepth': WHATEVER THE INPUT: true; the input reads as it did. -/
def fnExactQuoteDepthSpec : ChangeSpec := { name := "fnExactQuoteDepth", fn := fun _ => fun
  | [d] => { results := [.lit (.bool true)], args := [d] }
  | _ => none }
def fnExactQuoteDepthRow : OpenClaim := { program := "ytianelbcjdbjkaa", sum := "d06a4003a00bdbd6229ca9789149207bb2fd8791eba14e2d2e460a3522641543", func := "loop.example/g00896/laws.FnExactQuoteDepth", spec := "fnExactQuoteDepth", inPlace := ["slices.overlaps[loop.example/g00896/impl.markPair]"], unfollowed := true, recurses := true, apart := false }
def FnExactQuoteDepthSaid : Prop := fnExactQuoteDepthRow.holds Try.pinned (OpenSpec.ofChange fnExactQuoteDepthSpec)

/-- ITS FALSE NEIGHBOUR: 'it returns false'. Refute it at one input. -/
def fnExactQuoteDepthWrong : ChangeSpec := { name := "fnExactQuoteDepth", fn := fun _ => fun
  | [d] => { results := [.lit (.bool false)], args := [d] }
  | _ => none }
def FnExactQuoteDepthWrongFalsely : Prop := fnExactQuoteDepthRow.holds Try.pinned (OpenSpec.ofChange fnExactQuoteDepthWrong)

/-- 'laws.FnExactUnpairedMarks': WHATEVER THE INPUT: true; the input reads as it did. -/
def fnExactUnpairedMarksSpec : ChangeSpec := { name := "fnExactUnpairedMarks", fn := fun _ => fun
  | [d] => { results := [.lit (.bool true)], args := [d] }
  | _ => none }
def fnExactUnpairedMarksRow : OpenClaim := { program := "ytianelbcjdbjkaa", sum := "d06a4003a00bdbd6229ca9789149207bb2fd8791eba14e2d2e460a3522641543", func := "loop.example/g00896/laws.FnExactUnpairedMarks", spec := "fnExactUnpairedMarks", inPlace := ["slices.overlaps[loop.example/g00896/impl.markPair]"], unfollowed := true, recurses := true, apart := false }
def FnExactUnpairedMarksSaid : Prop := fnExactUnpairedMarksRow.holds Try.pinned (OpenSpec.ofChange fnExactUnpairedMarksSpec)

/-- ITS FALSE NEIGHBOUR: 'it returns false'. Refute it at one input. -/
def fnExactUnpairedMarksWrong : ChangeSpec := { name := "fnExactUnpairedMarks", fn := fun _ => fun
  | [d] => { results := [.lit (.bool false)], args := [d] }
  | _ => none }
def FnExactUnpairedMarksWrongFalsely : Prop := fnExactUnpairedMarksRow.holds Try.pinned (OpenSpec.ofChange fnExactUnpairedMarksWrong)

/- THE SECOND FORM. 'bulk': how many values and letters a reading holds, each counted each time it is reached (what is shared counts as often as it is met; a slice's spare places count too). A statement '..UptoSaid' is the law's where the arguments, and the package variables that the reading takes, are together of bulk at most 1048576: NARROWER than '..Said'. Prove '..Said' where nothing that the law and all that it calls make is longer than what came in: it says more and counts as full. Else prove '..UptoSaid'. A law counts once. -/
mutual
def uptoBulk {H : Type} : DataW H → Nat
  | .lit (.string bytes) => bytes.length + 1
  | .lit _ => 1
  | .nil => 1
  | .ptr d => uptoBulk d + 1
  | .slice elems spare => uptoBulkAll elems + uptoBulkAll spare + 1
  | .agg parts => uptoBulkAll parts + 1
  | .iface _ d => uptoBulk d + 1
  | .map entries => uptoBulkEntries entries + 1
  | .held _ => 1
def uptoBulkAll {H : Type} : List (DataW H) → Nat
  | [] => 0
  | d :: r => uptoBulk d + uptoBulkAll r
def uptoBulkEntries {H : Type} : List (Lit × DataW H) → Nat
  | [] => 0
  | x :: r => uptoBulkEntry x + uptoBulkEntries r
def uptoBulkEntry {H : Type} : Lit × DataW H → Nat
  | (.string bytes, d) => bytes.length + uptoBulk d + 1
  | (_, d) => uptoBulk d + 1
 end
def uptoSmall : (H : Type) → List (DataW H) → Bool := fun _ ds => decide (uptoBulkAll ds ≤ 1048576)
def OpenSpec.upto (s : _root_.Go.ChangeSpec) : _root_.Go.OpenSpec := { _root_.Go.OpenSpec.ofChange s with cond := some uptoSmall }

/-- 'laws.FnExactPairMarks', WHERE WHAT IT READS IS OF BULK AT MOST 1048576: true; the input reads as it did. -/
def fnExactPairMarksUptoRow : OpenClaim := { program := "ytianelbcjdbjkaa", sum := "d06a4003a00bdbd6229ca9789149207bb2fd8791eba14e2d2e460a3522641543", func := "loop.example/g00896/laws.FnExactPairMarks", spec := "fnExactPairMarks", inPlace := ["slices.overlaps[loop.example/g00896/impl.markPair]"], unfollowed := true, recurses := true, apart := false, narrowed := true }
def FnExactPairMarksUptoSaid : Prop := fnExactPairMarksUptoRow.holds Try.pinned (OpenSpec.upto fnExactPairMarksSpec)

/-- 'laws.FnExactQuoteDepth', WHERE WHAT IT READS IS OF BULK AT MOST 1048576: true; the input reads as it did. -/
def fnExactQuoteDepthUptoRow : OpenClaim := { program := "ytianelbcjdbjkaa", sum := "d06a4003a00bdbd6229ca9789149207bb2fd8791eba14e2d2e460a3522641543", func := "loop.example/g00896/laws.FnExactQuoteDepth", spec := "fnExactQuoteDepth", inPlace := ["slices.overlaps[loop.example/g00896/impl.markPair]"], unfollowed := true, recurses := true, apart := false, narrowed := true }
def FnExactQuoteDepthUptoSaid : Prop := fnExactQuoteDepthUptoRow.holds Try.pinned (OpenSpec.upto fnExactQuoteDepthSpec)

/-- 'laws.FnExactUnpairedMarks', WHERE WHAT IT READS IS OF BULK AT MOST 1048576: true; the input reads as it did. -/
def fnExactUnpairedMarksUptoRow : OpenClaim := { program := "ytianelbcjdbjkaa", sum := "d06a4003a00bdbd6229ca9789149207bb2fd8791eba14e2d2e460a3522641543", func := "loop.example/g00896/laws.FnExactUnpairedMarks", spec := "fnExactUnpairedMarks", inPlace := ["slices.overlaps[loop.example/g00896/impl.markPair]"], unfollowed := true, recurses := true, apart := false, narrowed := true }
def FnExactUnpairedMarksUptoSaid : Prop := fnExactUnpairedMarksUptoRow.holds Try.pinned (OpenSpec.upto fnExactUnpairedMarksSpec)

end Rows
end Go.Proofs.Ytianelbcjdbjkaa
