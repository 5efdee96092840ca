/-
  NARROWER THAN 'FOR EVERY INPUT', by the rows' own cells (each row's printed sentence says how): FnExactFieldsUsed: loops, laid.
  DERIVED. THE GIVEN ROWS OF THIS SEAT. 1 by the template 'for every input the law returns true; each argument reads behind the call as it read before'; 0 by the template 'total and deterministic' (their statements: YtbibjcmfgpmddaaDoorTotals.lean).
  GIVEN WITH THE SEED: the statements are not yours to turn. If you find one false, say at which input.
  Laid BY PROGRAM, IN A SANDBOX (cutbox-rows.mjs): the forced cells as the released guide's own fill.sh prints them over the translation 9681775b92ba9882… (all of the seat's roots in one cut). By AI agents, Wed Nov 11 2026. No macro, syntax, notation, axiom, sorry.
-/
import Derived.Test.YtbibjcmfgpmddaaDoorChecked
import GoSem.Claim
import GoSem.ClaimJoined
import GoSem.ClaimMapViews
import Derived.JoinedTies
import Derived.KernelRfl
namespace Go.Proofs.YtbibjcmfgpmddaaDoor
/- THE CELL 'sum', in the pinned program and in every row, IS THE sha256 OF THE DUMP (.gsa) THAT YtbibjcmfgpmddaaDoorProg.lean LOADS. Nothing in Lean hashes anything: it is a label: what it is worth is what the hold of that sum in a sandbox is worth. -/
noncomputable def Tryd.pinned : Pinned := { name := "ytbibjcmfgpmddaadoor", sum := "9681775b92ba9882f5c7ff0232f0079b7ea405035a73fd29e0c2808ba6ba506e", checked := Tryd.checked }
namespace Rows
def none {H : Type} : Left H := { results := [], args := [] }

/- WHAT THE LISTED PACKAGE-LEVEL VARIABLES READ AS WHEN THE CALL BEGINS. Each datum BY PROGRAM (the guide's laid-datum.mjs) off the statement by which the dump's own 'gosem.cut.vars' lays the variable. In a bare row this is a premise. The card (YtbibjcmfgpmddaaDoorCards.lean) ties it to the program's text. -/
def laid_loop_example_g00896_impl_kindWords {H : Type} : DataW H := .agg [.lit (.string [98, 111, 111, 107]), .lit (.string [97, 114, 116, 105, 99, 108, 101]), .lit (.string [99, 104, 97, 112, 116, 101, 114]), .lit (.string [114, 101, 112, 111, 114, 116])]
def laid_loop_example_g00896_impl_nodeForms {H : Type} : DataW H := .agg [.agg [.lit (.string []), .lit (.bool false), .lit (.bool false), .lit (.bool false), .lit (.bool false), .lit (.int .i64 0), .lit (.int .i64 0)], .agg [.lit (.string []), .lit (.bool true), .lit (.bool false), .lit (.bool false), .lit (.bool false), .lit (.int .i64 0), .lit (.int .i64 0)], .agg [.lit (.string []), .lit (.bool false), .lit (.bool false), .lit (.bool true), .lit (.bool false), .lit (.int .i64 0), .lit (.int .i64 0)], .agg [.lit (.string [103, 114, 111, 117, 112]), .lit (.bool false), .lit (.bool false), .lit (.bool true), .lit (.bool false), .lit (.int .i64 1), .lit (.int .i64 6)], .agg [.lit (.string [105, 102]), .lit (.bool true), .lit (.bool false), .lit (.bool false), .lit (.bool false), .lit (.int .i64 2), .lit (.int .i64 2)], .agg [.lit (.string [107, 105, 110, 100]), .lit (.bool false), .lit (.bool true), .lit (.bool false), .lit (.bool false), .lit (.int .i64 2), .lit (.int .i64 2)], .agg [.lit (.string [102, 105, 114, 115, 116]), .lit (.bool false), .lit (.bool false), .lit (.bool false), .lit (.bool false), .lit (.int .i64 1), .lit (.int .i64 6)], .agg [.lit (.string [97, 102, 102, 105, 120]), .lit (.bool false), .lit (.bool false), .lit (.bool true), .lit (.bool true), .lit (.int .i64 1), .lit (.int .i64 1)], .agg [.lit (.string [105, 116, 97, 108, 105, 99]), .lit (.bool false), .lit (.bool false), .lit (.bool false), .lit (.bool false), .lit (.int .i64 1), .lit (.int .i64 1)], .agg [.lit (.string [98, 111, 108, 100]), .lit (.bool false), .lit (.bool false), .lit (.bool false), .lit (.bool false), .lit (.int .i64 1), .lit (.int .i64 1)]]

/-- 'laws.FnExactFieldsUsed': WHATEVER THE INPUT: true; the input reads as it did. -/
def fnExactFieldsUsedSpec : ChangeSpec := { name := "fnExactFieldsUsed", vars := ["loop.example/g00896/impl.nodeForms", "loop.example/g00896/impl.kindWords"], fn := fun _ => fun
  | [d, g1, g2] => { results := [.lit (.bool true)], args := [d], vars := [g1, g2] }
  | _ => none }
def fnExactFieldsUsedRow : OpenClaim := { program := "ytbibjcmfgpmddaadoor", sum := "9681775b92ba9882f5c7ff0232f0079b7ea405035a73fd29e0c2808ba6ba506e", func := "loop.example/g00896/laws.FnExactFieldsUsed", spec := "fnExactFieldsUsed", inPlace := ["internal/bytealg.IndexByteString", "internal/bytealg.IndexString"], recurses := true, named := ["loop.example/g00896/impl.nodeForms", "loop.example/g00896/impl.kindWords", "internal/bytealg.MaxLen"], loops := true, apart := false, laid := [("loop.example/g00896/impl.kindWords", laid_loop_example_g00896_impl_kindWords), ("loop.example/g00896/impl.nodeForms", laid_loop_example_g00896_impl_nodeForms)] }
def FnExactFieldsUsedSaid : Prop := fnExactFieldsUsedRow.holds Tryd.pinned (OpenSpec.ofChange fnExactFieldsUsedSpec)

/-- ITS FALSE NEIGHBOUR: 'it returns false'. Refute it at one input. -/
def fnExactFieldsUsedWrong : ChangeSpec := { name := "fnExactFieldsUsed", vars := ["loop.example/g00896/impl.nodeForms", "loop.example/g00896/impl.kindWords"], fn := fun _ => fun
  | [d, g1, g2] => { results := [.lit (.bool false)], args := [d], vars := [g1, g2] }
  | _ => none }
def FnExactFieldsUsedWrongFalsely : Prop := fnExactFieldsUsedRow.holds Tryd.pinned (OpenSpec.ofChange fnExactFieldsUsedWrong)

/- THE SECOND FORM. 'bulk': how many values and letters a reading holds, each counted each time it is reached (what is shared counts as often as it is met; a slice's spare places count too). A statement '..UptoSaid' is the law's where the arguments, and the package variables that the reading takes, are together of bulk at most 1048576: NARROWER than '..Said'. Prove '..Said' where nothing that the law and all that it calls make is longer than what came in: it says more and counts as full. Else prove '..UptoSaid'. A law counts once. -/
mutual
def uptoBulk {H : Type} : DataW H → Nat
  | .lit (.string bytes) => bytes.length + 1
  | .lit _ => 1
  | .nil => 1
  | .ptr d => uptoBulk d + 1
  | .slice elems spare => uptoBulkAll elems + uptoBulkAll spare + 1
  | .agg parts => uptoBulkAll parts + 1
  | .iface _ d => uptoBulk d + 1
  | .map entries => uptoBulkEntries entries + 1
  | .held _ => 1
def uptoBulkAll {H : Type} : List (DataW H) → Nat
  | [] => 0
  | d :: r => uptoBulk d + uptoBulkAll r
def uptoBulkEntries {H : Type} : List (Lit × DataW H) → Nat
  | [] => 0
  | x :: r => uptoBulkEntry x + uptoBulkEntries r
def uptoBulkEntry {H : Type} : Lit × DataW H → Nat
  | (.string bytes, d) => bytes.length + uptoBulk d + 1
  | (_, d) => uptoBulk d + 1
 end
def uptoSmall : (H : Type) → List (DataW H) → Bool := fun _ ds => decide (uptoBulkAll ds ≤ 1048576)
def OpenSpec.upto (s : _root_.Go.ChangeSpec) : _root_.Go.OpenSpec := { _root_.Go.OpenSpec.ofChange s with cond := some uptoSmall }

/-- 'laws.FnExactFieldsUsed', WHERE WHAT IT READS IS OF BULK AT MOST 1048576: true; the input reads as it did. -/
def fnExactFieldsUsedUptoRow : OpenClaim := { program := "ytbibjcmfgpmddaadoor", sum := "9681775b92ba9882f5c7ff0232f0079b7ea405035a73fd29e0c2808ba6ba506e", func := "loop.example/g00896/laws.FnExactFieldsUsed", spec := "fnExactFieldsUsed", inPlace := ["internal/bytealg.IndexByteString", "internal/bytealg.IndexString"], recurses := true, named := ["loop.example/g00896/impl.nodeForms", "loop.example/g00896/impl.kindWords", "internal/bytealg.MaxLen"], loops := true, apart := false, laid := [("loop.example/g00896/impl.kindWords", laid_loop_example_g00896_impl_kindWords), ("loop.example/g00896/impl.nodeForms", laid_loop_example_g00896_impl_nodeForms)], narrowed := true }
def FnExactFieldsUsedUptoSaid : Prop := fnExactFieldsUsedUptoRow.holds Tryd.pinned (OpenSpec.upto fnExactFieldsUsedSpec)

end Rows
end Go.Proofs.YtbibjcmfgpmddaaDoor
