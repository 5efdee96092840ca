/-
  NARROWER THAN 'FOR EVERY INPUT', by the rows' own cells (each row's printed sentence says how): FnExactMergeMarks: laid · FnExactJoinTwo: laid · FnExactEndWith: laid.
  DERIVED. THE GIVEN ROWS OF THIS SEAT. 3 by the template 'for every input the law returns true; each argument reads behind the call as it read before'; 0 by the template 'total and deterministic' (their statements: YtjjijpeiaojhkaaDoorTotals.lean).
  GIVEN WITH THE SEED: the statements are not yours to turn. If you find one false, say at which input.
  Laid BY PROGRAM, IN A SANDBOX (cutbox-rows.mjs): the forced cells as the released guide's own fill.sh prints them over the translation 5a076cced1363549… (all of the seat's roots in one cut). By AI agents, Wed Nov 11 2026. No macro, syntax, notation, axiom, sorry.
-/
import Derived.Test.YtjjijpeiaojhkaaDoorChecked
import GoSem.PinnedTables
import GoSem.Claim
import GoSem.ClaimJoined
import GoSem.ClaimMapViews
import Derived.JoinedTies
import Derived.KernelRfl
namespace Go.Proofs.YtjjijpeiaojhkaaDoor
/- THE CELL 'sum', in the pinned program and in every row, IS THE sha256 OF THE DUMP (.gsa) THAT YtjjijpeiaojhkaaDoorProg.lean LOADS. Nothing in Lean hashes anything: it is a label: what it is worth is what the hold of that sum in a sandbox is worth. -/
noncomputable def Tryd.pinned : Pinned := { name := "ytjjijpeiaojhkaadoor", sum := "5a076cced1363549860d526c5dd7288bf6b42490a1274085fae94ebf67a687f2", checked := Tryd.checked }
namespace Rows
def none {H : Type} : Left H := { results := [], args := [] }

/- WHAT THE LISTED PACKAGE-LEVEL VARIABLES READ AS WHEN THE CALL BEGINS. Each datum BY PROGRAM (the guide's laid-datum.mjs) off the statement by which the dump's own 'gosem.cut.vars' lays the variable. In a bare row this is a premise. The card (YtjjijpeiaojhkaaDoorCards.lean) ties it to the program's text. -/
def laid_loop_example_g00896_impl_replacingMarks {H : Type} : DataW H := .agg [.agg [.lit (.int .u8 46), .lit (.int .u8 0), .lit (.int .u8 0), .lit (.int .u8 0), .lit (.int .u8 33), .lit (.int .u8 63)], .agg [.lit (.int .u8 46), .lit (.int .u8 44), .lit (.int .u8 59), .lit (.int .u8 58), .lit (.int .u8 33), .lit (.int .u8 63)], .agg [.lit (.int .u8 46), .lit (.int .u8 59), .lit (.int .u8 59), .lit (.int .u8 58), .lit (.int .u8 33), .lit (.int .u8 63)], .agg [.lit (.int .u8 58), .lit (.int .u8 58), .lit (.int .u8 59), .lit (.int .u8 58), .lit (.int .u8 33), .lit (.int .u8 63)], .agg [.lit (.int .u8 33), .lit (.int .u8 33), .lit (.int .u8 0), .lit (.int .u8 0), .lit (.int .u8 33), .lit (.int .u8 0)], .agg [.lit (.int .u8 63), .lit (.int .u8 63), .lit (.int .u8 0), .lit (.int .u8 0), .lit (.int .u8 0), .lit (.int .u8 63)]]
def laid_unicode_utf8_acceptRanges {H : Type} : DataW H := .agg [.agg [.lit (.int .u8 128), .lit (.int .u8 191)], .agg [.lit (.int .u8 160), .lit (.int .u8 191)], .agg [.lit (.int .u8 128), .lit (.int .u8 159)], .agg [.lit (.int .u8 144), .lit (.int .u8 191)], .agg [.lit (.int .u8 128), .lit (.int .u8 143)], .agg [.lit (.int .u8 0), .lit (.int .u8 0)], .agg [.lit (.int .u8 0), .lit (.int .u8 0)], .agg [.lit (.int .u8 0), .lit (.int .u8 0)], .agg [.lit (.int .u8 0), .lit (.int .u8 0)], .agg [.lit (.int .u8 0), .lit (.int .u8 0)], .agg [.lit (.int .u8 0), .lit (.int .u8 0)], .agg [.lit (.int .u8 0), .lit (.int .u8 0)], .agg [.lit (.int .u8 0), .lit (.int .u8 0)], .agg [.lit (.int .u8 0), .lit (.int .u8 0)], .agg [.lit (.int .u8 0), .lit (.int .u8 0)], .agg [.lit (.int .u8 0), .lit (.int .u8 0)]]
/-- One of Go's own tables, pinned by name: the form's constant. -/
def laid_unicode_utf8_first : DataW Unit := Go.Pinned.utf8First

/-- 'laws.FnExactMergeMarks': WHATEVER THE INPUT: true; the input reads as it did. -/
def fnExactMergeMarksSpec : ChangeSpec := { name := "fnExactMergeMarks", vars := ["loop.example/g00896/impl.replacingMarks"], fn := fun _ => fun
  | [d1, d2, g1] => { results := [.lit (.bool true)], args := [d1, d2], vars := [g1] }
  | _ => none }
def fnExactMergeMarksRow : OpenClaim := { program := "ytjjijpeiaojhkaadoor", sum := "5a076cced1363549860d526c5dd7288bf6b42490a1274085fae94ebf67a687f2", func := "loop.example/g00896/laws.FnExactMergeMarks", spec := "fnExactMergeMarks", inPlace := ["internal/bytealg.IndexByteString"], named := ["loop.example/g00896/impl.replacingMarks"], apart := false, laid := [("loop.example/g00896/impl.replacingMarks", laid_loop_example_g00896_impl_replacingMarks)] }
def FnExactMergeMarksSaid : Prop := fnExactMergeMarksRow.holds Tryd.pinned (OpenSpec.ofChange fnExactMergeMarksSpec)

/-- ITS FALSE NEIGHBOUR: 'it returns false'. Refute it at one input. -/
def fnExactMergeMarksWrong : ChangeSpec := { name := "fnExactMergeMarks", vars := ["loop.example/g00896/impl.replacingMarks"], fn := fun _ => fun
  | [d1, d2, g1] => { results := [.lit (.bool false)], args := [d1, d2], vars := [g1] }
  | _ => none }
def FnExactMergeMarksWrongFalsely : Prop := fnExactMergeMarksRow.holds Tryd.pinned (OpenSpec.ofChange fnExactMergeMarksWrong)

/-- 'laws.FnExactJoinTwo': WHATEVER THE INPUT: true; the input reads as it did. -/
def fnExactJoinTwoSpec : ChangeSpec := { name := "fnExactJoinTwo", vars := ["loop.example/g00896/impl.replacingMarks"], fn := fun _ => fun
  | [d1, d2, g1] => { results := [.lit (.bool true)], args := [d1, d2], vars := [g1] }
  | _ => none }
def fnExactJoinTwoRow : OpenClaim := { program := "ytjjijpeiaojhkaadoor", sum := "5a076cced1363549860d526c5dd7288bf6b42490a1274085fae94ebf67a687f2", func := "loop.example/g00896/laws.FnExactJoinTwo", spec := "fnExactJoinTwo", inPlace := ["internal/bytealg.IndexByteString"], named := ["loop.example/g00896/impl.replacingMarks"], apart := false, laid := [("loop.example/g00896/impl.replacingMarks", laid_loop_example_g00896_impl_replacingMarks)] }
def FnExactJoinTwoSaid : Prop := fnExactJoinTwoRow.holds Tryd.pinned (OpenSpec.ofChange fnExactJoinTwoSpec)

/-- ITS FALSE NEIGHBOUR: 'it returns false'. Refute it at one input. -/
def fnExactJoinTwoWrong : ChangeSpec := { name := "fnExactJoinTwo", vars := ["loop.example/g00896/impl.replacingMarks"], fn := fun _ => fun
  | [d1, d2, g1] => { results := [.lit (.bool false)], args := [d1, d2], vars := [g1] }
  | _ => none }
def FnExactJoinTwoWrongFalsely : Prop := fnExactJoinTwoRow.holds Tryd.pinned (OpenSpec.ofChange fnExactJoinTwoWrong)

/-- 'laws.FnExactEndWith': WHATEVER THE INPUT: true; the input reads as it did. -/
def fnExactEndWithSpec : ChangeSpec := { name := "fnExactEndWith", vars := ["loop.example/g00896/impl.replacingMarks"], fn := fun _ => fun
  | [d1, d2, g1] => { results := [.lit (.bool true)], args := [d1, d2], vars := [g1] }
  | _ => none }
def fnExactEndWithRow : OpenClaim := { program := "ytjjijpeiaojhkaadoor", sum := "5a076cced1363549860d526c5dd7288bf6b42490a1274085fae94ebf67a687f2", func := "loop.example/g00896/laws.FnExactEndWith", spec := "fnExactEndWith", inPlace := ["internal/bytealg.IndexByteString", "internal/bytealg.IndexString"], named := ["unicode/utf8.first", "unicode/utf8.acceptRanges", "loop.example/g00896/impl.replacingMarks", "internal/bytealg.MaxLen"], apart := false, laid := [("unicode/utf8.acceptRanges", laid_unicode_utf8_acceptRanges), ("loop.example/g00896/impl.replacingMarks", laid_loop_example_g00896_impl_replacingMarks), ("unicode/utf8.first", laid_unicode_utf8_first)] }
def FnExactEndWithSaid : Prop := fnExactEndWithRow.holds Tryd.pinned (OpenSpec.ofChange fnExactEndWithSpec)

/-- ITS FALSE NEIGHBOUR: 'it returns false'. Refute it at one input. -/
def fnExactEndWithWrong : ChangeSpec := { name := "fnExactEndWith", vars := ["loop.example/g00896/impl.replacingMarks"], fn := fun _ => fun
  | [d1, d2, g1] => { results := [.lit (.bool false)], args := [d1, d2], vars := [g1] }
  | _ => none }
def FnExactEndWithWrongFalsely : Prop := fnExactEndWithRow.holds Tryd.pinned (OpenSpec.ofChange fnExactEndWithWrong)

/- THE SECOND FORM. 'bulk': how many values and letters a reading holds, each counted each time it is reached (what is shared counts as often as it is met; a slice's spare places count too). A statement '..UptoSaid' is the law's where the arguments, and the package variables that the reading takes, are together of bulk at most 1048576: NARROWER than '..Said'. Prove '..Said' where nothing that the law and all that it calls make is longer than what came in: it says more and counts as full. Else prove '..UptoSaid'. A law counts once. -/
mutual
def uptoBulk {H : Type} : DataW H → Nat
  | .lit (.string bytes) => bytes.length + 1
  | .lit _ => 1
  | .nil => 1
  | .ptr d => uptoBulk d + 1
  | .slice elems spare => uptoBulkAll elems + uptoBulkAll spare + 1
  | .agg parts => uptoBulkAll parts + 1
  | .iface _ d => uptoBulk d + 1
  | .map entries => uptoBulkEntries entries + 1
  | .held _ => 1
def uptoBulkAll {H : Type} : List (DataW H) → Nat
  | [] => 0
  | d :: r => uptoBulk d + uptoBulkAll r
def uptoBulkEntries {H : Type} : List (Lit × DataW H) → Nat
  | [] => 0
  | x :: r => uptoBulkEntry x + uptoBulkEntries r
def uptoBulkEntry {H : Type} : Lit × DataW H → Nat
  | (.string bytes, d) => bytes.length + uptoBulk d + 1
  | (_, d) => uptoBulk d + 1
 end
def uptoSmall : (H : Type) → List (DataW H) → Bool := fun _ ds => decide (uptoBulkAll ds ≤ 1048576)
def OpenSpec.upto (s : _root_.Go.ChangeSpec) : _root_.Go.OpenSpec := { _root_.Go.OpenSpec.ofChange s with cond := some uptoSmall }

/-- 'laws.FnExactMergeMarks', WHERE WHAT IT READS IS OF BULK AT MOST 1048576: true; the input reads as it did. -/
def fnExactMergeMarksUptoRow : OpenClaim := { program := "ytjjijpeiaojhkaadoor", sum := "5a076cced1363549860d526c5dd7288bf6b42490a1274085fae94ebf67a687f2", func := "loop.example/g00896/laws.FnExactMergeMarks", spec := "fnExactMergeMarks", inPlace := ["internal/bytealg.IndexByteString"], named := ["loop.example/g00896/impl.replacingMarks"], apart := false, laid := [("loop.example/g00896/impl.replacingMarks", laid_loop_example_g00896_impl_replacingMarks)], narrowed := true }
def FnExactMergeMarksUptoSaid : Prop := fnExactMergeMarksUptoRow.holds Tryd.pinned (OpenSpec.upto fnExactMergeMarksSpec)

/-- 'laws.FnExactJoinTwo', WHERE WHAT IT READS IS OF BULK AT MOST 1048576: true; the input reads as it did. -/
def fnExactJoinTwoUptoRow : OpenClaim := { program := "ytjjijpeiaojhkaadoor", sum := "5a076cced1363549860d526c5dd7288bf6b42490a1274085fae94ebf67a687f2", func := "loop.example/g00896/laws.FnExactJoinTwo", spec := "fnExactJoinTwo", inPlace := ["internal/bytealg.IndexByteString"], named := ["loop.example/g00896/impl.replacingMarks"], apart := false, laid := [("loop.example/g00896/impl.replacingMarks", laid_loop_example_g00896_impl_replacingMarks)], narrowed := true }
def FnExactJoinTwoUptoSaid : Prop := fnExactJoinTwoUptoRow.holds Tryd.pinned (OpenSpec.upto fnExactJoinTwoSpec)

/-- 'laws.FnExactEndWith', WHERE WHAT IT READS IS OF BULK AT MOST 1048576: true; the input reads as it did. -/
def fnExactEndWithUptoRow : OpenClaim := { program := "ytjjijpeiaojhkaadoor", sum := "5a076cced1363549860d526c5dd7288bf6b42490a1274085fae94ebf67a687f2", func := "loop.example/g00896/laws.FnExactEndWith", spec := "fnExactEndWith", inPlace := ["internal/bytealg.IndexByteString", "internal/bytealg.IndexString"], named := ["unicode/utf8.first", "unicode/utf8.acceptRanges", "loop.example/g00896/impl.replacingMarks", "internal/bytealg.MaxLen"], apart := false, laid := [("unicode/utf8.acceptRanges", laid_unicode_utf8_acceptRanges), ("loop.example/g00896/impl.replacingMarks", laid_loop_example_g00896_impl_replacingMarks), ("unicode/utf8.first", laid_unicode_utf8_first)], narrowed := true }
def FnExactEndWithUptoSaid : Prop := fnExactEndWithUptoRow.holds Tryd.pinned (OpenSpec.upto fnExactEndWithSpec)

end Rows
end Go.Proofs.YtjjijpeiaojhkaaDoor
