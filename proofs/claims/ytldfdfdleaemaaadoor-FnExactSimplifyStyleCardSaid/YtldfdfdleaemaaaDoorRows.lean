/-
  NARROWER THAN 'FOR EVERY INPUT', by the rows' own cells (each row's printed sentence says how): FnExactReplaceField: loops, laid · FnExactSimplifyStyle: loops, laid · FnExactChooseKind: loops, laid.
  DERIVED. THE GIVEN ROWS OF THIS SEAT. 3 by the template 'for every input the law returns true; each argument reads behind the call as it read before'; 0 by the template 'total and deterministic' (their statements: YtldfdfdleaemaaaDoorTotals.lean).
  GIVEN WITH THE SEED: the statements are not yours to turn. If you find one false, say at which input.
  Laid BY PROGRAM, IN A SANDBOX (cutbox-rows.mjs): the forced cells as the released guide's own fill.sh prints them over the translation 09d87a7d5a3fa544… (all of the seat's roots in one cut). By AI agents, Wed Nov 11 2026. No macro, syntax, notation, axiom, sorry.
-/
import Derived.Test.YtldfdfdleaemaaaDoorChecked
import GoSem.Claim
import GoSem.ClaimJoined
import GoSem.ClaimMapViews
import Derived.JoinedTies
import Derived.KernelRfl
namespace Go.Proofs.YtldfdfdleaemaaaDoor
/- THE CELL 'sum', in the pinned program and in every row, IS THE sha256 OF THE DUMP (.gsa) THAT YtldfdfdleaemaaaDoorProg.lean LOADS. Nothing in Lean hashes anything: it is a label: what it is worth is what the hold of that sum in a sandbox is worth. -/
noncomputable def Tryd.pinned : Pinned := { name := "ytldfdfdleaemaaadoor", sum := "09d87a7d5a3fa544521e9bb0ae52b742841c0447d8e4088fb3cc58da9f3c8db9", checked := Tryd.checked }
namespace Rows
def none {H : Type} : Left H := { results := [], args := [] }

/- WHAT THE LISTED PACKAGE-LEVEL VARIABLES READ AS WHEN THE CALL BEGINS. Each datum BY PROGRAM (the guide's laid-datum.mjs) off the statement by which the dump's own 'gosem.cut.vars' lays the variable. In a bare row this is a premise. The card (YtldfdfdleaemaaaDoorCards.lean) ties it to the program's text. -/
def laid_loop_example_g00896_impl_kindWords {H : Type} : DataW H := .agg [.lit (.string [98, 111, 111, 107]), .lit (.string [97, 114, 116, 105, 99, 108, 101]), .lit (.string [99, 104, 97, 112, 116, 101, 114]), .lit (.string [114, 101, 112, 111, 114, 116])]
def laid_loop_example_g00896_impl_nodeForms {H : Type} : DataW H := .agg [.agg [.lit (.string []), .lit (.bool false), .lit (.bool false), .lit (.bool false), .lit (.bool false), .lit (.int .i64 0), .lit (.int .i64 0)], .agg [.lit (.string []), .lit (.bool true), .lit (.bool false), .lit (.bool false), .lit (.bool false), .lit (.int .i64 0), .lit (.int .i64 0)], .agg [.lit (.string []), .lit (.bool false), .lit (.bool false), .lit (.bool true), .lit (.bool false), .lit (.int .i64 0), .lit (.int .i64 0)], .agg [.lit (.string [103, 114, 111, 117, 112]), .lit (.bool false), .lit (.bool false), .lit (.bool true), .lit (.bool false), .lit (.int .i64 1), .lit (.int .i64 6)], .agg [.lit (.string [105, 102]), .lit (.bool true), .lit (.bool false), .lit (.bool false), .lit (.bool false), .lit (.int .i64 2), .lit (.int .i64 2)], .agg [.lit (.string [107, 105, 110, 100]), .lit (.bool false), .lit (.bool true), .lit (.bool false), .lit (.bool false), .lit (.int .i64 2), .lit (.int .i64 2)], .agg [.lit (.string [102, 105, 114, 115, 116]), .lit (.bool false), .lit (.bool false), .lit (.bool false), .lit (.bool false), .lit (.int .i64 1), .lit (.int .i64 6)], .agg [.lit (.string [97, 102, 102, 105, 120]), .lit (.bool false), .lit (.bool false), .lit (.bool true), .lit (.bool true), .lit (.int .i64 1), .lit (.int .i64 1)], .agg [.lit (.string [105, 116, 97, 108, 105, 99]), .lit (.bool false), .lit (.bool false), .lit (.bool false), .lit (.bool false), .lit (.int .i64 1), .lit (.int .i64 1)], .agg [.lit (.string [98, 111, 108, 100]), .lit (.bool false), .lit (.bool false), .lit (.bool false), .lit (.bool false), .lit (.int .i64 1), .lit (.int .i64 1)]]

/-- 'laws.FnExactReplaceField': WHATEVER THE INPUT: true; the input reads as it did. -/
def fnExactReplaceFieldSpec : ChangeSpec := { name := "fnExactReplaceField", vars := ["loop.example/g00896/impl.nodeForms", "loop.example/g00896/impl.kindWords"], fn := fun _ => fun
  | [d1, d2, d3, g1, g2] => { results := [.lit (.bool true)], args := [d1, d2, d3], vars := [g1, g2] }
  | _ => none }
def fnExactReplaceFieldRow : OpenClaim := { program := "ytldfdfdleaemaaadoor", sum := "09d87a7d5a3fa544521e9bb0ae52b742841c0447d8e4088fb3cc58da9f3c8db9", func := "loop.example/g00896/laws.FnExactReplaceField", spec := "fnExactReplaceField", inPlace := ["internal/bytealg.IndexByteString", "internal/bytealg.IndexString"], unfollowed := true, recurses := true, named := ["loop.example/g00896/impl.nodeForms", "loop.example/g00896/impl.kindWords", "internal/bytealg.MaxLen"], loops := true, apart := false, laid := [("loop.example/g00896/impl.kindWords", laid_loop_example_g00896_impl_kindWords), ("loop.example/g00896/impl.nodeForms", laid_loop_example_g00896_impl_nodeForms)] }
def FnExactReplaceFieldSaid : Prop := fnExactReplaceFieldRow.holds Tryd.pinned (OpenSpec.ofChange fnExactReplaceFieldSpec)

/-- ITS FALSE NEIGHBOUR: 'it returns false'. Refute it at one input. -/
def fnExactReplaceFieldWrong : ChangeSpec := { name := "fnExactReplaceField", vars := ["loop.example/g00896/impl.nodeForms", "loop.example/g00896/impl.kindWords"], fn := fun _ => fun
  | [d1, d2, d3, g1, g2] => { results := [.lit (.bool false)], args := [d1, d2, d3], vars := [g1, g2] }
  | _ => none }
def FnExactReplaceFieldWrongFalsely : Prop := fnExactReplaceFieldRow.holds Tryd.pinned (OpenSpec.ofChange fnExactReplaceFieldWrong)

/-- 'laws.FnExactSimplifyStyle': WHATEVER THE INPUT: true; the input reads as it did. -/
def fnExactSimplifyStyleSpec : ChangeSpec := { name := "fnExactSimplifyStyle", vars := ["loop.example/g00896/impl.nodeForms", "loop.example/g00896/impl.kindWords"], fn := fun _ => fun
  | [d, g1, g2] => { results := [.lit (.bool true)], args := [d], vars := [g1, g2] }
  | _ => none }
def fnExactSimplifyStyleRow : OpenClaim := { program := "ytldfdfdleaemaaadoor", sum := "09d87a7d5a3fa544521e9bb0ae52b742841c0447d8e4088fb3cc58da9f3c8db9", func := "loop.example/g00896/laws.FnExactSimplifyStyle", spec := "fnExactSimplifyStyle", inPlace := ["internal/bytealg.IndexByteString", "internal/bytealg.IndexString"], unfollowed := true, recurses := true, named := ["loop.example/g00896/impl.nodeForms", "loop.example/g00896/impl.kindWords", "internal/bytealg.MaxLen"], loops := true, apart := false, laid := [("loop.example/g00896/impl.kindWords", laid_loop_example_g00896_impl_kindWords), ("loop.example/g00896/impl.nodeForms", laid_loop_example_g00896_impl_nodeForms)] }
def FnExactSimplifyStyleSaid : Prop := fnExactSimplifyStyleRow.holds Tryd.pinned (OpenSpec.ofChange fnExactSimplifyStyleSpec)

/-- ITS FALSE NEIGHBOUR: 'it returns false'. Refute it at one input. -/
def fnExactSimplifyStyleWrong : ChangeSpec := { name := "fnExactSimplifyStyle", vars := ["loop.example/g00896/impl.nodeForms", "loop.example/g00896/impl.kindWords"], fn := fun _ => fun
  | [d, g1, g2] => { results := [.lit (.bool false)], args := [d], vars := [g1, g2] }
  | _ => none }
def FnExactSimplifyStyleWrongFalsely : Prop := fnExactSimplifyStyleRow.holds Tryd.pinned (OpenSpec.ofChange fnExactSimplifyStyleWrong)

/-- 'laws.FnExactChooseKind': WHATEVER THE INPUT: true; the input reads as it did. -/
def fnExactChooseKindSpec : ChangeSpec := { name := "fnExactChooseKind", vars := ["loop.example/g00896/impl.kindWords", "loop.example/g00896/impl.nodeForms"], fn := fun _ => fun
  | [d1, d2, g1, g2] => { results := [.lit (.bool true)], args := [d1, d2], vars := [g1, g2] }
  | _ => none }
def fnExactChooseKindRow : OpenClaim := { program := "ytldfdfdleaemaaadoor", sum := "09d87a7d5a3fa544521e9bb0ae52b742841c0447d8e4088fb3cc58da9f3c8db9", func := "loop.example/g00896/laws.FnExactChooseKind", spec := "fnExactChooseKind", inPlace := ["internal/bytealg.IndexByteString", "internal/bytealg.IndexString"], unfollowed := true, recurses := true, named := ["loop.example/g00896/impl.kindWords", "loop.example/g00896/impl.nodeForms", "internal/bytealg.MaxLen"], loops := true, apart := false, laid := [("loop.example/g00896/impl.kindWords", laid_loop_example_g00896_impl_kindWords), ("loop.example/g00896/impl.nodeForms", laid_loop_example_g00896_impl_nodeForms)] }
def FnExactChooseKindSaid : Prop := fnExactChooseKindRow.holds Tryd.pinned (OpenSpec.ofChange fnExactChooseKindSpec)

/-- ITS FALSE NEIGHBOUR: 'it returns false'. Refute it at one input. -/
def fnExactChooseKindWrong : ChangeSpec := { name := "fnExactChooseKind", vars := ["loop.example/g00896/impl.kindWords", "loop.example/g00896/impl.nodeForms"], fn := fun _ => fun
  | [d1, d2, g1, g2] => { results := [.lit (.bool false)], args := [d1, d2], vars := [g1, g2] }
  | _ => none }
def FnExactChooseKindWrongFalsely : Prop := fnExactChooseKindRow.holds Tryd.pinned (OpenSpec.ofChange fnExactChooseKindWrong)

/- THE SECOND FORM. 'bulk': how many values and letters a reading holds, each counted each time it is reached (what is shared counts as often as it is met; a slice's spare places count too). A statement '..UptoSaid' is the law's where the arguments, and the package variables that the reading takes, are together of bulk at most 1048576: NARROWER than '..Said'. Prove '..Said' where nothing that the law and all that it calls make is longer than what came in: it says more and counts as full. Else prove '..UptoSaid'. A law counts once. -/
mutual
def uptoBulk {H : Type} : DataW H → Nat
  | .lit (.string bytes) => bytes.length + 1
  | .lit _ => 1
  | .nil => 1
  | .ptr d => uptoBulk d + 1
  | .slice elems spare => uptoBulkAll elems + uptoBulkAll spare + 1
  | .agg parts => uptoBulkAll parts + 1
  | .iface _ d => uptoBulk d + 1
  | .map entries => uptoBulkEntries entries + 1
  | .held _ => 1
def uptoBulkAll {H : Type} : List (DataW H) → Nat
  | [] => 0
  | d :: r => uptoBulk d + uptoBulkAll r
def uptoBulkEntries {H : Type} : List (Lit × DataW H) → Nat
  | [] => 0
  | x :: r => uptoBulkEntry x + uptoBulkEntries r
def uptoBulkEntry {H : Type} : Lit × DataW H → Nat
  | (.string bytes, d) => bytes.length + uptoBulk d + 1
  | (_, d) => uptoBulk d + 1
 end
def uptoSmall : (H : Type) → List (DataW H) → Bool := fun _ ds => decide (uptoBulkAll ds ≤ 1048576)
def OpenSpec.upto (s : _root_.Go.ChangeSpec) : _root_.Go.OpenSpec := { _root_.Go.OpenSpec.ofChange s with cond := some uptoSmall }

/-- 'laws.FnExactReplaceField', WHERE WHAT IT READS IS OF BULK AT MOST 1048576: true; the input reads as it did. -/
def fnExactReplaceFieldUptoRow : OpenClaim := { program := "ytldfdfdleaemaaadoor", sum := "09d87a7d5a3fa544521e9bb0ae52b742841c0447d8e4088fb3cc58da9f3c8db9", func := "loop.example/g00896/laws.FnExactReplaceField", spec := "fnExactReplaceField", inPlace := ["internal/bytealg.IndexByteString", "internal/bytealg.IndexString"], unfollowed := true, recurses := true, named := ["loop.example/g00896/impl.nodeForms", "loop.example/g00896/impl.kindWords", "internal/bytealg.MaxLen"], loops := true, apart := false, laid := [("loop.example/g00896/impl.kindWords", laid_loop_example_g00896_impl_kindWords), ("loop.example/g00896/impl.nodeForms", laid_loop_example_g00896_impl_nodeForms)], narrowed := true }
def FnExactReplaceFieldUptoSaid : Prop := fnExactReplaceFieldUptoRow.holds Tryd.pinned (OpenSpec.upto fnExactReplaceFieldSpec)

/-- 'laws.FnExactSimplifyStyle', WHERE WHAT IT READS IS OF BULK AT MOST 1048576: true; the input reads as it did. -/
def fnExactSimplifyStyleUptoRow : OpenClaim := { program := "ytldfdfdleaemaaadoor", sum := "09d87a7d5a3fa544521e9bb0ae52b742841c0447d8e4088fb3cc58da9f3c8db9", func := "loop.example/g00896/laws.FnExactSimplifyStyle", spec := "fnExactSimplifyStyle", inPlace := ["internal/bytealg.IndexByteString", "internal/bytealg.IndexString"], unfollowed := true, recurses := true, named := ["loop.example/g00896/impl.nodeForms", "loop.example/g00896/impl.kindWords", "internal/bytealg.MaxLen"], loops := true, apart := false, laid := [("loop.example/g00896/impl.kindWords", laid_loop_example_g00896_impl_kindWords), ("loop.example/g00896/impl.nodeForms", laid_loop_example_g00896_impl_nodeForms)], narrowed := true }
def FnExactSimplifyStyleUptoSaid : Prop := fnExactSimplifyStyleUptoRow.holds Tryd.pinned (OpenSpec.upto fnExactSimplifyStyleSpec)

/-- 'laws.FnExactChooseKind', WHERE WHAT IT READS IS OF BULK AT MOST 1048576: true; the input reads as it did. -/
def fnExactChooseKindUptoRow : OpenClaim := { program := "ytldfdfdleaemaaadoor", sum := "09d87a7d5a3fa544521e9bb0ae52b742841c0447d8e4088fb3cc58da9f3c8db9", func := "loop.example/g00896/laws.FnExactChooseKind", spec := "fnExactChooseKind", inPlace := ["internal/bytealg.IndexByteString", "internal/bytealg.IndexString"], unfollowed := true, recurses := true, named := ["loop.example/g00896/impl.kindWords", "loop.example/g00896/impl.nodeForms", "internal/bytealg.MaxLen"], loops := true, apart := false, laid := [("loop.example/g00896/impl.kindWords", laid_loop_example_g00896_impl_kindWords), ("loop.example/g00896/impl.nodeForms", laid_loop_example_g00896_impl_nodeForms)], narrowed := true }
def FnExactChooseKindUptoSaid : Prop := fnExactChooseKindUptoRow.holds Tryd.pinned (OpenSpec.upto fnExactChooseKindSpec)

end Rows
end Go.Proofs.YtldfdfdleaemaaaDoor
