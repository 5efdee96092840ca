/-
  No cell of these rows narrows 'for every input' (looked for: loops, veiled, ifaces, maps, wideKeys, modest, calm, conditions, laid).
  DERIVED. THE GIVEN ROWS OF THIS SEAT. 3 by the template 'for every input the law returns true; each argument reads behind the call as it read before'; 0 by the template 'total and deterministic' (their statements: YtfmngmkjmgnknaaTotals.lean).
  GIVEN WITH THE SEED: the statements are not yours to turn. If you find one false, say at which input.
  Laid BY PROGRAM, IN A SANDBOX (cutbox-rows.mjs): the forced cells as the released guide's own fill.sh prints them over the translation 2d51a25ab076cbb3… (all of the seat's roots in one cut). By AI agents, Wed Nov 11 2026. No macro, syntax, notation, axiom, sorry.
-/
import Derived.Test.YtfmngmkjmgnknaaChecked
import GoSem.Claim
import GoSem.ClaimJoined
import GoSem.ClaimMapViews
import Derived.JoinedTies
import Derived.KernelRfl
namespace Go.Proofs.Ytfmngmkjmgnknaa
/- THE CELL 'sum', in the pinned program and in every row, IS THE sha256 OF THE DUMP (.gsa) THAT YtfmngmkjmgnknaaProg.lean LOADS. Nothing in Lean hashes anything: it is a label: what it is worth is what the hold of that sum in a sandbox is worth. -/
noncomputable def Try.pinned : Pinned := { name := "ytfmngmkjmgnknaa", sum := "2d51a25ab076cbb37b19d36beb64bdd7303170946a08acbcf6a430b10e80fef9", checked := Try.checked }
namespace Rows
def none {H : Type} : Left H := { results := [], args := [] }

/-- 'laws.FnExactAlternateQuotes': WHATEVER THE INPUT: true; the input reads as it did. -/
def fnExactAlternateQuotesSpec : ChangeSpec := { name := "fnExactAlternateQuotes", fn := fun _ => fun
  | [d] => { results := [.lit (.bool true)], args := [d] }
  | _ => none }
def fnExactAlternateQuotesRow : OpenClaim := { program := "ytfmngmkjmgnknaa", sum := "2d51a25ab076cbb37b19d36beb64bdd7303170946a08acbcf6a430b10e80fef9", func := "loop.example/g00896/laws.FnExactAlternateQuotes", spec := "fnExactAlternateQuotes", inPlace := ["slices.overlaps[loop.example/g00896/impl.markPair]"], unfollowed := true, recurses := true, apart := false }
def FnExactAlternateQuotesSaid : Prop := fnExactAlternateQuotesRow.holds Try.pinned (OpenSpec.ofChange fnExactAlternateQuotesSpec)

/-- ITS FALSE NEIGHBOUR: 'it returns false'. Refute it at one input. -/
def fnExactAlternateQuotesWrong : ChangeSpec := { name := "fnExactAlternateQuotes", fn := fun _ => fun
  | [d] => { results := [.lit (.bool false)], args := [d] }
  | _ => none }
def FnExactAlternateQuotesWrongFalsely : Prop := fnExactAlternateQuotesRow.holds Try.pinned (OpenSpec.ofChange fnExactAlternateQuotesWrong)

/-- 'laws.FnExactQuoteText': WHATEVER THE INPUT: true; the input reads as it did. -/
def fnExactQuoteTextSpec : ChangeSpec := { name := "fnExactQuoteText", fn := fun _ => fun
  | [d] => { results := [.lit (.bool true)], args := [d] }
  | _ => none }
def fnExactQuoteTextRow : OpenClaim := { program := "ytfmngmkjmgnknaa", sum := "2d51a25ab076cbb37b19d36beb64bdd7303170946a08acbcf6a430b10e80fef9", func := "loop.example/g00896/laws.FnExactQuoteText", spec := "fnExactQuoteText", inPlace := ["slices.overlaps[loop.example/g00896/impl.markPair]"], unfollowed := true, recurses := true, apart := false }
def FnExactQuoteTextSaid : Prop := fnExactQuoteTextRow.holds Try.pinned (OpenSpec.ofChange fnExactQuoteTextSpec)

/-- ITS FALSE NEIGHBOUR: 'it returns false'. Refute it at one input. -/
def fnExactQuoteTextWrong : ChangeSpec := { name := "fnExactQuoteText", fn := fun _ => fun
  | [d] => { results := [.lit (.bool false)], args := [d] }
  | _ => none }
def FnExactQuoteTextWrongFalsely : Prop := fnExactQuoteTextRow.holds Try.pinned (OpenSpec.ofChange fnExactQuoteTextWrong)

/-- 'laws.FnExactUnquoteText': WHATEVER THE INPUT: true; the input reads as it did. -/
def fnExactUnquoteTextSpec : ChangeSpec := { name := "fnExactUnquoteText", fn := fun _ => fun
  | [d] => { results := [.lit (.bool true)], args := [d] }
  | _ => none }
def fnExactUnquoteTextRow : OpenClaim := { program := "ytfmngmkjmgnknaa", sum := "2d51a25ab076cbb37b19d36beb64bdd7303170946a08acbcf6a430b10e80fef9", func := "loop.example/g00896/laws.FnExactUnquoteText", spec := "fnExactUnquoteText", inPlace := ["slices.overlaps[loop.example/g00896/impl.markPair]"], unfollowed := true, recurses := true, apart := false }
def FnExactUnquoteTextSaid : Prop := fnExactUnquoteTextRow.holds Try.pinned (OpenSpec.ofChange fnExactUnquoteTextSpec)

/-- ITS FALSE NEIGHBOUR: 'it returns false'. Refute it at one input. -/
def fnExactUnquoteTextWrong : ChangeSpec := { name := "fnExactUnquoteText", fn := fun _ => fun
  | [d] => { results := [.lit (.bool false)], args := [d] }
  | _ => none }
def FnExactUnquoteTextWrongFalsely : Prop := fnExactUnquoteTextRow.holds Try.pinned (OpenSpec.ofChange fnExactUnquoteTextWrong)

/- THE SECOND FORM. 'bulk': how many values and letters a reading holds, each counted each time it is reached (what is shared counts as often as it is met; a slice's spare places count too). A statement '..UptoSaid' is the law's where the arguments, and the package variables that the reading takes, are together of bulk at most 1048576: NARROWER than '..Said'. Prove '..Said' where nothing that the law and all that it calls make is longer than what came in: it says more and counts as full. Else prove '..UptoSaid'. A law counts once. -/
mutual
def uptoBulk {H : Type} : DataW H → Nat
  | .lit (.string bytes) => bytes.length + 1
  | .lit _ => 1
  | .nil => 1
  | .ptr d => uptoBulk d + 1
  | .slice elems spare => uptoBulkAll elems + uptoBulkAll spare + 1
  | .agg parts => uptoBulkAll parts + 1
  | .iface _ d => uptoBulk d + 1
  | .map entries => uptoBulkEntries entries + 1
  | .held _ => 1
def uptoBulkAll {H : Type} : List (DataW H) → Nat
  | [] => 0
  | d :: r => uptoBulk d + uptoBulkAll r
def uptoBulkEntries {H : Type} : List (Lit × DataW H) → Nat
  | [] => 0
  | x :: r => uptoBulkEntry x + uptoBulkEntries r
def uptoBulkEntry {H : Type} : Lit × DataW H → Nat
  | (.string bytes, d) => bytes.length + uptoBulk d + 1
  | (_, d) => uptoBulk d + 1
 end
def uptoSmall : (H : Type) → List (DataW H) → Bool := fun _ ds => decide (uptoBulkAll ds ≤ 1048576)
def OpenSpec.upto (s : _root_.Go.ChangeSpec) : _root_.Go.OpenSpec := { _root_.Go.OpenSpec.ofChange s with cond := some uptoSmall }

/-- 'laws.FnExactAlternateQuotes', WHERE WHAT IT READS IS OF BULK AT MOST 1048576: true; the input reads as it did. -/
def fnExactAlternateQuotesUptoRow : OpenClaim := { program := "ytfmngmkjmgnknaa", sum := "2d51a25ab076cbb37b19d36beb64bdd7303170946a08acbcf6a430b10e80fef9", func := "loop.example/g00896/laws.FnExactAlternateQuotes", spec := "fnExactAlternateQuotes", inPlace := ["slices.overlaps[loop.example/g00896/impl.markPair]"], unfollowed := true, recurses := true, apart := false, narrowed := true }
def FnExactAlternateQuotesUptoSaid : Prop := fnExactAlternateQuotesUptoRow.holds Try.pinned (OpenSpec.upto fnExactAlternateQuotesSpec)

/-- 'laws.FnExactQuoteText', WHERE WHAT IT READS IS OF BULK AT MOST 1048576: true; the input reads as it did. -/
def fnExactQuoteTextUptoRow : OpenClaim := { program := "ytfmngmkjmgnknaa", sum := "2d51a25ab076cbb37b19d36beb64bdd7303170946a08acbcf6a430b10e80fef9", func := "loop.example/g00896/laws.FnExactQuoteText", spec := "fnExactQuoteText", inPlace := ["slices.overlaps[loop.example/g00896/impl.markPair]"], unfollowed := true, recurses := true, apart := false, narrowed := true }
def FnExactQuoteTextUptoSaid : Prop := fnExactQuoteTextUptoRow.holds Try.pinned (OpenSpec.upto fnExactQuoteTextSpec)

/-- 'laws.FnExactUnquoteText', WHERE WHAT IT READS IS OF BULK AT MOST 1048576: true; the input reads as it did. -/
def fnExactUnquoteTextUptoRow : OpenClaim := { program := "ytfmngmkjmgnknaa", sum := "2d51a25ab076cbb37b19d36beb64bdd7303170946a08acbcf6a430b10e80fef9", func := "loop.example/g00896/laws.FnExactUnquoteText", spec := "fnExactUnquoteText", inPlace := ["slices.overlaps[loop.example/g00896/impl.markPair]"], unfollowed := true, recurses := true, apart := false, narrowed := true }
def FnExactUnquoteTextUptoSaid : Prop := fnExactUnquoteTextUptoRow.holds Try.pinned (OpenSpec.upto fnExactUnquoteTextSpec)

end Rows
end Go.Proofs.Ytfmngmkjmgnknaa
