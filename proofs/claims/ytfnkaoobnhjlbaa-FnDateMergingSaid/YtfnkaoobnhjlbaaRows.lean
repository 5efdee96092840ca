/-
  No cell of these rows narrows 'for every input' (looked for: loops, veiled, ifaces, maps, wideKeys, modest, calm, conditions, laid).
  DERIVED. THE GIVEN ROWS OF THIS SEAT. 7 by the template 'for every input the law returns true; each argument reads behind the call as it read before'; 0 by the template 'total and deterministic' (their statements: YtfnkaoobnhjlbaaTotals.lean).
  GIVEN WITH THE SEED: the statements are not yours to turn. If you find one false, say at which input.
  Laid BY PROGRAM, IN A SANDBOX (cutbox-rows.mjs): the forced cells as the released guide's own fill.sh prints them over the translation 2bf07986c89deef4… (all of the seat's roots in one cut). By AI agents, Wed Nov 11 2026. No macro, syntax, notation, axiom, sorry.
-/
import Derived.Test.YtfnkaoobnhjlbaaChecked
import GoSem.Claim
import GoSem.ClaimJoined
import GoSem.ClaimMapViews
import Derived.JoinedTies
import Derived.KernelRfl
namespace Go.Proofs.Ytfnkaoobnhjlbaa
/- THE CELL 'sum', in the pinned program and in every row, IS THE sha256 OF THE DUMP (.gsa) THAT YtfnkaoobnhjlbaaProg.lean LOADS. Nothing in Lean hashes anything: it is a label: what it is worth is what the hold of that sum in a sandbox is worth. -/
noncomputable def Try.pinned : Pinned := { name := "ytfnkaoobnhjlbaa", sum := "2bf07986c89deef45b52b91bc5d60a7a3bb73d3a2b17c447b615e8d99988343e", checked := Try.checked }
namespace Rows
def none {H : Type} : Left H := { results := [], args := [] }

/-- 'laws.FnExactIsValidDate': WHATEVER THE INPUT: true; the input reads as it did. -/
def fnExactIsValidDateSpec : ChangeSpec := { name := "fnExactIsValidDate", fn := fun _ => fun
  | [d] => { results := [.lit (.bool true)], args := [d] }
  | _ => none }
def fnExactIsValidDateRow : OpenClaim := { program := "ytfnkaoobnhjlbaa", sum := "2bf07986c89deef45b52b91bc5d60a7a3bb73d3a2b17c447b615e8d99988343e", func := "loop.example/g00896/laws.FnExactIsValidDate", spec := "fnExactIsValidDate", apart := false }
def FnExactIsValidDateSaid : Prop := fnExactIsValidDateRow.holds Try.pinned (OpenSpec.ofChange fnExactIsValidDateSpec)

/-- ITS FALSE NEIGHBOUR: 'it returns false'. Refute it at one input. -/
def fnExactIsValidDateWrong : ChangeSpec := { name := "fnExactIsValidDate", fn := fun _ => fun
  | [d] => { results := [.lit (.bool false)], args := [d] }
  | _ => none }
def FnExactIsValidDateWrongFalsely : Prop := fnExactIsValidDateRow.holds Try.pinned (OpenSpec.ofChange fnExactIsValidDateWrong)

/-- 'laws.FnExactDaysInMonth': WHATEVER THE INPUT: true; the input reads as it did. -/
def fnExactDaysInMonthSpec : ChangeSpec := { name := "fnExactDaysInMonth", fn := fun _ => fun
  | [d1, d2] => { results := [.lit (.bool true)], args := [d1, d2] }
  | _ => none }
def fnExactDaysInMonthRow : OpenClaim := { program := "ytfnkaoobnhjlbaa", sum := "2bf07986c89deef45b52b91bc5d60a7a3bb73d3a2b17c447b615e8d99988343e", func := "loop.example/g00896/laws.FnExactDaysInMonth", spec := "fnExactDaysInMonth", apart := false }
def FnExactDaysInMonthSaid : Prop := fnExactDaysInMonthRow.holds Try.pinned (OpenSpec.ofChange fnExactDaysInMonthSpec)

/-- ITS FALSE NEIGHBOUR: 'it returns false'. Refute it at one input. -/
def fnExactDaysInMonthWrong : ChangeSpec := { name := "fnExactDaysInMonth", fn := fun _ => fun
  | [d1, d2] => { results := [.lit (.bool false)], args := [d1, d2] }
  | _ => none }
def FnExactDaysInMonthWrongFalsely : Prop := fnExactDaysInMonthRow.holds Try.pinned (OpenSpec.ofChange fnExactDaysInMonthWrong)

/-- 'laws.FnExactCompareDates': WHATEVER THE INPUT: true; the input reads as it did. -/
def fnExactCompareDatesSpec : ChangeSpec := { name := "fnExactCompareDates", fn := fun _ => fun
  | [d1, d2] => { results := [.lit (.bool true)], args := [d1, d2] }
  | _ => none }
def fnExactCompareDatesRow : OpenClaim := { program := "ytfnkaoobnhjlbaa", sum := "2bf07986c89deef45b52b91bc5d60a7a3bb73d3a2b17c447b615e8d99988343e", func := "loop.example/g00896/laws.FnExactCompareDates", spec := "fnExactCompareDates", apart := false }
def FnExactCompareDatesSaid : Prop := fnExactCompareDatesRow.holds Try.pinned (OpenSpec.ofChange fnExactCompareDatesSpec)

/-- ITS FALSE NEIGHBOUR: 'it returns false'. Refute it at one input. -/
def fnExactCompareDatesWrong : ChangeSpec := { name := "fnExactCompareDates", fn := fun _ => fun
  | [d1, d2] => { results := [.lit (.bool false)], args := [d1, d2] }
  | _ => none }
def FnExactCompareDatesWrongFalsely : Prop := fnExactCompareDatesRow.holds Try.pinned (OpenSpec.ofChange fnExactCompareDatesWrong)

/-- 'laws.FnExactRefines': WHATEVER THE INPUT: true; the input reads as it did. -/
def fnExactRefinesSpec : ChangeSpec := { name := "fnExactRefines", fn := fun _ => fun
  | [d1, d2] => { results := [.lit (.bool true)], args := [d1, d2] }
  | _ => none }
def fnExactRefinesRow : OpenClaim := { program := "ytfnkaoobnhjlbaa", sum := "2bf07986c89deef45b52b91bc5d60a7a3bb73d3a2b17c447b615e8d99988343e", func := "loop.example/g00896/laws.FnExactRefines", spec := "fnExactRefines", apart := false }
def FnExactRefinesSaid : Prop := fnExactRefinesRow.holds Try.pinned (OpenSpec.ofChange fnExactRefinesSpec)

/-- ITS FALSE NEIGHBOUR: 'it returns false'. Refute it at one input. -/
def fnExactRefinesWrong : ChangeSpec := { name := "fnExactRefines", fn := fun _ => fun
  | [d1, d2] => { results := [.lit (.bool false)], args := [d1, d2] }
  | _ => none }
def FnExactRefinesWrongFalsely : Prop := fnExactRefinesRow.holds Try.pinned (OpenSpec.ofChange fnExactRefinesWrong)

/-- 'laws.FnExactDateBounds': WHATEVER THE INPUT: true; the input reads as it did. -/
def fnExactDateBoundsSpec : ChangeSpec := { name := "fnExactDateBounds", fn := fun _ => fun
  | [d] => { results := [.lit (.bool true)], args := [d] }
  | _ => none }
def fnExactDateBoundsRow : OpenClaim := { program := "ytfnkaoobnhjlbaa", sum := "2bf07986c89deef45b52b91bc5d60a7a3bb73d3a2b17c447b615e8d99988343e", func := "loop.example/g00896/laws.FnExactDateBounds", spec := "fnExactDateBounds", apart := false }
def FnExactDateBoundsSaid : Prop := fnExactDateBoundsRow.holds Try.pinned (OpenSpec.ofChange fnExactDateBoundsSpec)

/-- ITS FALSE NEIGHBOUR: 'it returns false'. Refute it at one input. -/
def fnExactDateBoundsWrong : ChangeSpec := { name := "fnExactDateBounds", fn := fun _ => fun
  | [d] => { results := [.lit (.bool false)], args := [d] }
  | _ => none }
def FnExactDateBoundsWrongFalsely : Prop := fnExactDateBoundsRow.holds Try.pinned (OpenSpec.ofChange fnExactDateBoundsWrong)

/-- 'laws.FnExactMergeDates': WHATEVER THE INPUT: true; the input reads as it did. -/
def fnExactMergeDatesSpec : ChangeSpec := { name := "fnExactMergeDates", fn := fun _ => fun
  | [d1, d2] => { results := [.lit (.bool true)], args := [d1, d2] }
  | _ => none }
def fnExactMergeDatesRow : OpenClaim := { program := "ytfnkaoobnhjlbaa", sum := "2bf07986c89deef45b52b91bc5d60a7a3bb73d3a2b17c447b615e8d99988343e", func := "loop.example/g00896/laws.FnExactMergeDates", spec := "fnExactMergeDates", apart := false }
def FnExactMergeDatesSaid : Prop := fnExactMergeDatesRow.holds Try.pinned (OpenSpec.ofChange fnExactMergeDatesSpec)

/-- ITS FALSE NEIGHBOUR: 'it returns false'. Refute it at one input. -/
def fnExactMergeDatesWrong : ChangeSpec := { name := "fnExactMergeDates", fn := fun _ => fun
  | [d1, d2] => { results := [.lit (.bool false)], args := [d1, d2] }
  | _ => none }
def FnExactMergeDatesWrongFalsely : Prop := fnExactMergeDatesRow.holds Try.pinned (OpenSpec.ofChange fnExactMergeDatesWrong)

/-- 'laws.FnDateMerging': WHATEVER THE INPUT: true; the input reads as it did. -/
def fnDateMergingSpec : ChangeSpec := { name := "fnDateMerging", fn := fun _ => fun
  | [d] => { results := [.lit (.bool true)], args := [d] }
  | _ => none }
def fnDateMergingRow : OpenClaim := { program := "ytfnkaoobnhjlbaa", sum := "2bf07986c89deef45b52b91bc5d60a7a3bb73d3a2b17c447b615e8d99988343e", func := "loop.example/g00896/laws.FnDateMerging", spec := "fnDateMerging", apart := false }
def FnDateMergingSaid : Prop := fnDateMergingRow.holds Try.pinned (OpenSpec.ofChange fnDateMergingSpec)

/-- ITS FALSE NEIGHBOUR: 'it returns false'. Refute it at one input. -/
def fnDateMergingWrong : ChangeSpec := { name := "fnDateMerging", fn := fun _ => fun
  | [d] => { results := [.lit (.bool false)], args := [d] }
  | _ => none }
def FnDateMergingWrongFalsely : Prop := fnDateMergingRow.holds Try.pinned (OpenSpec.ofChange fnDateMergingWrong)

/- THE SECOND FORM. 'bulk': how many values and letters a reading holds, each counted each time it is reached (what is shared counts as often as it is met; a slice's spare places count too). A statement '..UptoSaid' is the law's where the arguments, and the package variables that the reading takes, are together of bulk at most 1048576: NARROWER than '..Said'. Prove '..Said' where nothing that the law and all that it calls make is longer than what came in: it says more and counts as full. Else prove '..UptoSaid'. A law counts once. -/
mutual
def uptoBulk {H : Type} : DataW H → Nat
  | .lit (.string bytes) => bytes.length + 1
  | .lit _ => 1
  | .nil => 1
  | .ptr d => uptoBulk d + 1
  | .slice elems spare => uptoBulkAll elems + uptoBulkAll spare + 1
  | .agg parts => uptoBulkAll parts + 1
  | .iface _ d => uptoBulk d + 1
  | .map entries => uptoBulkEntries entries + 1
  | .held _ => 1
def uptoBulkAll {H : Type} : List (DataW H) → Nat
  | [] => 0
  | d :: r => uptoBulk d + uptoBulkAll r
def uptoBulkEntries {H : Type} : List (Lit × DataW H) → Nat
  | [] => 0
  | x :: r => uptoBulkEntry x + uptoBulkEntries r
def uptoBulkEntry {H : Type} : Lit × DataW H → Nat
  | (.string bytes, d) => bytes.length + uptoBulk d + 1
  | (_, d) => uptoBulk d + 1
 end
def uptoSmall : (H : Type) → List (DataW H) → Bool := fun _ ds => decide (uptoBulkAll ds ≤ 1048576)
def OpenSpec.upto (s : _root_.Go.ChangeSpec) : _root_.Go.OpenSpec := { _root_.Go.OpenSpec.ofChange s with cond := some uptoSmall }

/-- 'laws.FnExactIsValidDate', WHERE WHAT IT READS IS OF BULK AT MOST 1048576: true; the input reads as it did. -/
def fnExactIsValidDateUptoRow : OpenClaim := { program := "ytfnkaoobnhjlbaa", sum := "2bf07986c89deef45b52b91bc5d60a7a3bb73d3a2b17c447b615e8d99988343e", func := "loop.example/g00896/laws.FnExactIsValidDate", spec := "fnExactIsValidDate", apart := false, narrowed := true }
def FnExactIsValidDateUptoSaid : Prop := fnExactIsValidDateUptoRow.holds Try.pinned (OpenSpec.upto fnExactIsValidDateSpec)

/-- 'laws.FnExactDaysInMonth', WHERE WHAT IT READS IS OF BULK AT MOST 1048576: true; the input reads as it did. -/
def fnExactDaysInMonthUptoRow : OpenClaim := { program := "ytfnkaoobnhjlbaa", sum := "2bf07986c89deef45b52b91bc5d60a7a3bb73d3a2b17c447b615e8d99988343e", func := "loop.example/g00896/laws.FnExactDaysInMonth", spec := "fnExactDaysInMonth", apart := false, narrowed := true }
def FnExactDaysInMonthUptoSaid : Prop := fnExactDaysInMonthUptoRow.holds Try.pinned (OpenSpec.upto fnExactDaysInMonthSpec)

/-- 'laws.FnExactCompareDates', WHERE WHAT IT READS IS OF BULK AT MOST 1048576: true; the input reads as it did. -/
def fnExactCompareDatesUptoRow : OpenClaim := { program := "ytfnkaoobnhjlbaa", sum := "2bf07986c89deef45b52b91bc5d60a7a3bb73d3a2b17c447b615e8d99988343e", func := "loop.example/g00896/laws.FnExactCompareDates", spec := "fnExactCompareDates", apart := false, narrowed := true }
def FnExactCompareDatesUptoSaid : Prop := fnExactCompareDatesUptoRow.holds Try.pinned (OpenSpec.upto fnExactCompareDatesSpec)

/-- 'laws.FnExactRefines', WHERE WHAT IT READS IS OF BULK AT MOST 1048576: true; the input reads as it did. -/
def fnExactRefinesUptoRow : OpenClaim := { program := "ytfnkaoobnhjlbaa", sum := "2bf07986c89deef45b52b91bc5d60a7a3bb73d3a2b17c447b615e8d99988343e", func := "loop.example/g00896/laws.FnExactRefines", spec := "fnExactRefines", apart := false, narrowed := true }
def FnExactRefinesUptoSaid : Prop := fnExactRefinesUptoRow.holds Try.pinned (OpenSpec.upto fnExactRefinesSpec)

/-- 'laws.FnExactDateBounds', WHERE WHAT IT READS IS OF BULK AT MOST 1048576: true; the input reads as it did. -/
def fnExactDateBoundsUptoRow : OpenClaim := { program := "ytfnkaoobnhjlbaa", sum := "2bf07986c89deef45b52b91bc5d60a7a3bb73d3a2b17c447b615e8d99988343e", func := "loop.example/g00896/laws.FnExactDateBounds", spec := "fnExactDateBounds", apart := false, narrowed := true }
def FnExactDateBoundsUptoSaid : Prop := fnExactDateBoundsUptoRow.holds Try.pinned (OpenSpec.upto fnExactDateBoundsSpec)

/-- 'laws.FnExactMergeDates', WHERE WHAT IT READS IS OF BULK AT MOST 1048576: true; the input reads as it did. -/
def fnExactMergeDatesUptoRow : OpenClaim := { program := "ytfnkaoobnhjlbaa", sum := "2bf07986c89deef45b52b91bc5d60a7a3bb73d3a2b17c447b615e8d99988343e", func := "loop.example/g00896/laws.FnExactMergeDates", spec := "fnExactMergeDates", apart := false, narrowed := true }
def FnExactMergeDatesUptoSaid : Prop := fnExactMergeDatesUptoRow.holds Try.pinned (OpenSpec.upto fnExactMergeDatesSpec)

/-- 'laws.FnDateMerging', WHERE WHAT IT READS IS OF BULK AT MOST 1048576: true; the input reads as it did. -/
def fnDateMergingUptoRow : OpenClaim := { program := "ytfnkaoobnhjlbaa", sum := "2bf07986c89deef45b52b91bc5d60a7a3bb73d3a2b17c447b615e8d99988343e", func := "loop.example/g00896/laws.FnDateMerging", spec := "fnDateMerging", apart := false, narrowed := true }
def FnDateMergingUptoSaid : Prop := fnDateMergingUptoRow.holds Try.pinned (OpenSpec.upto fnDateMergingSpec)

end Rows
end Go.Proofs.Ytfnkaoobnhjlbaa
