/-
  No cell of these rows narrows 'for every input' (looked for: loops, veiled, ifaces, maps, wideKeys, modest, calm, conditions, laid).
  DERIVED. THE GIVEN ROWS OF THIS SEAT. 6 by the template 'for every input the law returns true; each argument reads behind the call as it read before'; 0 by the template 'total and deterministic' (their statements: YtheiammmanpddaaTotals.lean).
  GIVEN WITH THE SEED: the statements are not yours to turn. If you find one false, say at which input.
  Laid BY PROGRAM, IN A SANDBOX (cutbox-rows.mjs): the forced cells as the released guide's own fill.sh prints them over the translation 7edfc98c7d219de7… (all of the seat's roots in one cut). By AI agents, Wed Nov 11 2026. No macro, syntax, notation, axiom, sorry.
-/
import Derived.Test.YtheiammmanpddaaChecked
import GoSem.Claim
import GoSem.ClaimJoined
import GoSem.ClaimMapViews
import Derived.JoinedTies
import Derived.KernelRfl
namespace Go.Proofs.Ytheiammmanpddaa
/- THE CELL 'sum', in the pinned program and in every row, IS THE sha256 OF THE DUMP (.gsa) THAT YtheiammmanpddaaProg.lean LOADS. Nothing in Lean hashes anything: it is a label: what it is worth is what the hold of that sum in a sandbox is worth. -/
noncomputable def Try.pinned : Pinned := { name := "ytheiammmanpddaa", sum := "7edfc98c7d219de79cc9541d43b3182f8a57048cce156989c0afa2fd3e80794d", checked := Try.checked }
namespace Rows
def none {H : Type} : Left H := { results := [], args := [] }

/-- 'laws.FnExactFindEntry': WHATEVER THE INPUT: true; the input reads as it did. -/
def fnExactFindEntrySpec : ChangeSpec := { name := "fnExactFindEntry", fn := fun _ => fun
  | [d1, d2] => { results := [.lit (.bool true)], args := [d1, d2] }
  | _ => none }
def fnExactFindEntryRow : OpenClaim := { program := "ytheiammmanpddaa", sum := "7edfc98c7d219de79cc9541d43b3182f8a57048cce156989c0afa2fd3e80794d", func := "loop.example/g00896/laws.FnExactFindEntry", spec := "fnExactFindEntry", inPlace := ["internal/bytealg.IndexByteString", "internal/bytealg.IndexString", "internal/bytealg.abigen_runtime_cmpstring"], unfollowed := true, recurses := true, named := ["internal/bytealg.MaxLen"], apart := false }
def FnExactFindEntrySaid : Prop := fnExactFindEntryRow.holds Try.pinned (OpenSpec.ofChange fnExactFindEntrySpec)

/-- ITS FALSE NEIGHBOUR: 'it returns false'. Refute it at one input. -/
def fnExactFindEntryWrong : ChangeSpec := { name := "fnExactFindEntry", fn := fun _ => fun
  | [d1, d2] => { results := [.lit (.bool false)], args := [d1, d2] }
  | _ => none }
def FnExactFindEntryWrongFalsely : Prop := fnExactFindEntryRow.holds Try.pinned (OpenSpec.ofChange fnExactFindEntryWrong)

/-- 'laws.FnExactIsValidLibrary': WHATEVER THE INPUT: true; the input reads as it did. -/
def fnExactIsValidLibrarySpec : ChangeSpec := { name := "fnExactIsValidLibrary", fn := fun _ => fun
  | [d] => { results := [.lit (.bool true)], args := [d] }
  | _ => none }
def fnExactIsValidLibraryRow : OpenClaim := { program := "ytheiammmanpddaa", sum := "7edfc98c7d219de79cc9541d43b3182f8a57048cce156989c0afa2fd3e80794d", func := "loop.example/g00896/laws.FnExactIsValidLibrary", spec := "fnExactIsValidLibrary", inPlace := ["internal/bytealg.IndexByteString", "internal/bytealg.IndexString"], named := ["internal/bytealg.MaxLen"], apart := false }
def FnExactIsValidLibrarySaid : Prop := fnExactIsValidLibraryRow.holds Try.pinned (OpenSpec.ofChange fnExactIsValidLibrarySpec)

/-- ITS FALSE NEIGHBOUR: 'it returns false'. Refute it at one input. -/
def fnExactIsValidLibraryWrong : ChangeSpec := { name := "fnExactIsValidLibrary", fn := fun _ => fun
  | [d] => { results := [.lit (.bool false)], args := [d] }
  | _ => none }
def FnExactIsValidLibraryWrongFalsely : Prop := fnExactIsValidLibraryRow.holds Try.pinned (OpenSpec.ofChange fnExactIsValidLibraryWrong)

/-- 'laws.FnExactEntriesOfKind': WHATEVER THE INPUT: true; the input reads as it did. -/
def fnExactEntriesOfKindSpec : ChangeSpec := { name := "fnExactEntriesOfKind", fn := fun _ => fun
  | [d1, d2] => { results := [.lit (.bool true)], args := [d1, d2] }
  | _ => none }
def fnExactEntriesOfKindRow : OpenClaim := { program := "ytheiammmanpddaa", sum := "7edfc98c7d219de79cc9541d43b3182f8a57048cce156989c0afa2fd3e80794d", func := "loop.example/g00896/laws.FnExactEntriesOfKind", spec := "fnExactEntriesOfKind", inPlace := ["internal/bytealg.IndexByteString", "internal/bytealg.IndexString"], named := ["internal/bytealg.MaxLen"], apart := false }
def FnExactEntriesOfKindSaid : Prop := fnExactEntriesOfKindRow.holds Try.pinned (OpenSpec.ofChange fnExactEntriesOfKindSpec)

/-- ITS FALSE NEIGHBOUR: 'it returns false'. Refute it at one input. -/
def fnExactEntriesOfKindWrong : ChangeSpec := { name := "fnExactEntriesOfKind", fn := fun _ => fun
  | [d1, d2] => { results := [.lit (.bool false)], args := [d1, d2] }
  | _ => none }
def FnExactEntriesOfKindWrongFalsely : Prop := fnExactEntriesOfKindRow.holds Try.pinned (OpenSpec.ofChange fnExactEntriesOfKindWrong)

/-- 'laws.FnExactDropEntry': WHATEVER THE INPUT: true; the input reads as it did. -/
def fnExactDropEntrySpec : ChangeSpec := { name := "fnExactDropEntry", fn := fun _ => fun
  | [d1, d2] => { results := [.lit (.bool true)], args := [d1, d2] }
  | _ => none }
def fnExactDropEntryRow : OpenClaim := { program := "ytheiammmanpddaa", sum := "7edfc98c7d219de79cc9541d43b3182f8a57048cce156989c0afa2fd3e80794d", func := "loop.example/g00896/laws.FnExactDropEntry", spec := "fnExactDropEntry", inPlace := ["internal/bytealg.IndexByteString", "internal/bytealg.IndexString", "internal/bytealg.abigen_runtime_cmpstring"], unfollowed := true, recurses := true, named := ["internal/bytealg.MaxLen"], apart := false }
def FnExactDropEntrySaid : Prop := fnExactDropEntryRow.holds Try.pinned (OpenSpec.ofChange fnExactDropEntrySpec)

/-- ITS FALSE NEIGHBOUR: 'it returns false'. Refute it at one input. -/
def fnExactDropEntryWrong : ChangeSpec := { name := "fnExactDropEntry", fn := fun _ => fun
  | [d1, d2] => { results := [.lit (.bool false)], args := [d1, d2] }
  | _ => none }
def FnExactDropEntryWrongFalsely : Prop := fnExactDropEntryRow.holds Try.pinned (OpenSpec.ofChange fnExactDropEntryWrong)

/-- 'laws.FnExactParseInverse': WHATEVER THE INPUT: true; the input reads as it did. -/
def fnExactParseInverseSpec : ChangeSpec := { name := "fnExactParseInverse", fn := fun _ => fun
  | [d] => { results := [.lit (.bool true)], args := [d] }
  | _ => none }
def fnExactParseInverseRow : OpenClaim := { program := "ytheiammmanpddaa", sum := "7edfc98c7d219de79cc9541d43b3182f8a57048cce156989c0afa2fd3e80794d", func := "loop.example/g00896/laws.FnExactParseInverse", spec := "fnExactParseInverse", inPlace := ["internal/bytealg.IndexByteString", "internal/bytealg.IndexString", "internal/abi.NoEscape", "internal/bytealg.MakeNoZero"], unfollowed := true, recurses := true, named := ["internal/bytealg.MaxLen"], apart := false }
def FnExactParseInverseSaid : Prop := fnExactParseInverseRow.holds Try.pinned (OpenSpec.ofChange fnExactParseInverseSpec)

/-- ITS FALSE NEIGHBOUR: 'it returns false'. Refute it at one input. -/
def fnExactParseInverseWrong : ChangeSpec := { name := "fnExactParseInverse", fn := fun _ => fun
  | [d] => { results := [.lit (.bool false)], args := [d] }
  | _ => none }
def FnExactParseInverseWrongFalsely : Prop := fnExactParseInverseRow.holds Try.pinned (OpenSpec.ofChange fnExactParseInverseWrong)

/-- 'laws.FnExactIsValidTitle': WHATEVER THE INPUT: true; the input reads as it did. -/
def fnExactIsValidTitleSpec : ChangeSpec := { name := "fnExactIsValidTitle", fn := fun _ => fun
  | [d] => { results := [.lit (.bool true)], args := [d] }
  | _ => none }
def fnExactIsValidTitleRow : OpenClaim := { program := "ytheiammmanpddaa", sum := "7edfc98c7d219de79cc9541d43b3182f8a57048cce156989c0afa2fd3e80794d", func := "loop.example/g00896/laws.FnExactIsValidTitle", spec := "fnExactIsValidTitle", inPlace := ["internal/bytealg.IndexByteString", "internal/bytealg.IndexString"], named := ["internal/bytealg.MaxLen"], apart := false }
def FnExactIsValidTitleSaid : Prop := fnExactIsValidTitleRow.holds Try.pinned (OpenSpec.ofChange fnExactIsValidTitleSpec)

/-- ITS FALSE NEIGHBOUR: 'it returns false'. Refute it at one input. -/
def fnExactIsValidTitleWrong : ChangeSpec := { name := "fnExactIsValidTitle", fn := fun _ => fun
  | [d] => { results := [.lit (.bool false)], args := [d] }
  | _ => none }
def FnExactIsValidTitleWrongFalsely : Prop := fnExactIsValidTitleRow.holds Try.pinned (OpenSpec.ofChange fnExactIsValidTitleWrong)

/- THE SECOND FORM. 'bulk': how many values and letters a reading holds, each counted each time it is reached (what is shared counts as often as it is met; a slice's spare places count too). A statement '..UptoSaid' is the law's where the arguments, and the package variables that the reading takes, are together of bulk at most 1048576: NARROWER than '..Said'. Prove '..Said' where nothing that the law and all that it calls make is longer than what came in: it says more and counts as full. Else prove '..UptoSaid'. A law counts once. -/
mutual
def uptoBulk {H : Type} : DataW H → Nat
  | .lit (.string bytes) => bytes.length + 1
  | .lit _ => 1
  | .nil => 1
  | .ptr d => uptoBulk d + 1
  | .slice elems spare => uptoBulkAll elems + uptoBulkAll spare + 1
  | .agg parts => uptoBulkAll parts + 1
  | .iface _ d => uptoBulk d + 1
  | .map entries => uptoBulkEntries entries + 1
  | .held _ => 1
def uptoBulkAll {H : Type} : List (DataW H) → Nat
  | [] => 0
  | d :: r => uptoBulk d + uptoBulkAll r
def uptoBulkEntries {H : Type} : List (Lit × DataW H) → Nat
  | [] => 0
  | x :: r => uptoBulkEntry x + uptoBulkEntries r
def uptoBulkEntry {H : Type} : Lit × DataW H → Nat
  | (.string bytes, d) => bytes.length + uptoBulk d + 1
  | (_, d) => uptoBulk d + 1
 end
def uptoSmall : (H : Type) → List (DataW H) → Bool := fun _ ds => decide (uptoBulkAll ds ≤ 1048576)
def OpenSpec.upto (s : _root_.Go.ChangeSpec) : _root_.Go.OpenSpec := { _root_.Go.OpenSpec.ofChange s with cond := some uptoSmall }

/-- 'laws.FnExactFindEntry', WHERE WHAT IT READS IS OF BULK AT MOST 1048576: true; the input reads as it did. -/
def fnExactFindEntryUptoRow : OpenClaim := { program := "ytheiammmanpddaa", sum := "7edfc98c7d219de79cc9541d43b3182f8a57048cce156989c0afa2fd3e80794d", func := "loop.example/g00896/laws.FnExactFindEntry", spec := "fnExactFindEntry", inPlace := ["internal/bytealg.IndexByteString", "internal/bytealg.IndexString", "internal/bytealg.abigen_runtime_cmpstring"], unfollowed := true, recurses := true, named := ["internal/bytealg.MaxLen"], apart := false, narrowed := true }
def FnExactFindEntryUptoSaid : Prop := fnExactFindEntryUptoRow.holds Try.pinned (OpenSpec.upto fnExactFindEntrySpec)

/-- 'laws.FnExactIsValidLibrary', WHERE WHAT IT READS IS OF BULK AT MOST 1048576: true; the input reads as it did. -/
def fnExactIsValidLibraryUptoRow : OpenClaim := { program := "ytheiammmanpddaa", sum := "7edfc98c7d219de79cc9541d43b3182f8a57048cce156989c0afa2fd3e80794d", func := "loop.example/g00896/laws.FnExactIsValidLibrary", spec := "fnExactIsValidLibrary", inPlace := ["internal/bytealg.IndexByteString", "internal/bytealg.IndexString"], named := ["internal/bytealg.MaxLen"], apart := false, narrowed := true }
def FnExactIsValidLibraryUptoSaid : Prop := fnExactIsValidLibraryUptoRow.holds Try.pinned (OpenSpec.upto fnExactIsValidLibrarySpec)

/-- 'laws.FnExactEntriesOfKind', WHERE WHAT IT READS IS OF BULK AT MOST 1048576: true; the input reads as it did. -/
def fnExactEntriesOfKindUptoRow : OpenClaim := { program := "ytheiammmanpddaa", sum := "7edfc98c7d219de79cc9541d43b3182f8a57048cce156989c0afa2fd3e80794d", func := "loop.example/g00896/laws.FnExactEntriesOfKind", spec := "fnExactEntriesOfKind", inPlace := ["internal/bytealg.IndexByteString", "internal/bytealg.IndexString"], named := ["internal/bytealg.MaxLen"], apart := false, narrowed := true }
def FnExactEntriesOfKindUptoSaid : Prop := fnExactEntriesOfKindUptoRow.holds Try.pinned (OpenSpec.upto fnExactEntriesOfKindSpec)

/-- 'laws.FnExactDropEntry', WHERE WHAT IT READS IS OF BULK AT MOST 1048576: true; the input reads as it did. -/
def fnExactDropEntryUptoRow : OpenClaim := { program := "ytheiammmanpddaa", sum := "7edfc98c7d219de79cc9541d43b3182f8a57048cce156989c0afa2fd3e80794d", func := "loop.example/g00896/laws.FnExactDropEntry", spec := "fnExactDropEntry", inPlace := ["internal/bytealg.IndexByteString", "internal/bytealg.IndexString", "internal/bytealg.abigen_runtime_cmpstring"], unfollowed := true, recurses := true, named := ["internal/bytealg.MaxLen"], apart := false, narrowed := true }
def FnExactDropEntryUptoSaid : Prop := fnExactDropEntryUptoRow.holds Try.pinned (OpenSpec.upto fnExactDropEntrySpec)

/-- 'laws.FnExactParseInverse', WHERE WHAT IT READS IS OF BULK AT MOST 1048576: true; the input reads as it did. -/
def fnExactParseInverseUptoRow : OpenClaim := { program := "ytheiammmanpddaa", sum := "7edfc98c7d219de79cc9541d43b3182f8a57048cce156989c0afa2fd3e80794d", func := "loop.example/g00896/laws.FnExactParseInverse", spec := "fnExactParseInverse", inPlace := ["internal/bytealg.IndexByteString", "internal/bytealg.IndexString", "internal/abi.NoEscape", "internal/bytealg.MakeNoZero"], unfollowed := true, recurses := true, named := ["internal/bytealg.MaxLen"], apart := false, narrowed := true }
def FnExactParseInverseUptoSaid : Prop := fnExactParseInverseUptoRow.holds Try.pinned (OpenSpec.upto fnExactParseInverseSpec)

/-- 'laws.FnExactIsValidTitle', WHERE WHAT IT READS IS OF BULK AT MOST 1048576: true; the input reads as it did. -/
def fnExactIsValidTitleUptoRow : OpenClaim := { program := "ytheiammmanpddaa", sum := "7edfc98c7d219de79cc9541d43b3182f8a57048cce156989c0afa2fd3e80794d", func := "loop.example/g00896/laws.FnExactIsValidTitle", spec := "fnExactIsValidTitle", inPlace := ["internal/bytealg.IndexByteString", "internal/bytealg.IndexString"], named := ["internal/bytealg.MaxLen"], apart := false, narrowed := true }
def FnExactIsValidTitleUptoSaid : Prop := fnExactIsValidTitleUptoRow.holds Try.pinned (OpenSpec.upto fnExactIsValidTitleSpec)

end Rows
end Go.Proofs.Ytheiammmanpddaa
