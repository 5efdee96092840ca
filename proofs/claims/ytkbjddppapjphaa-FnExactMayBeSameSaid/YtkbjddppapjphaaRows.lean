/-
  No cell of these rows narrows 'for every input' (looked for: loops, veiled, ifaces, maps, wideKeys, modest, calm, conditions, laid).
  DERIVED. THE GIVEN ROWS OF THIS SEAT. 5 by the template 'for every input the law returns true; each argument reads behind the call as it read before'; 0 by the template 'total and deterministic' (their statements: YtkbjddppapjphaaTotals.lean).
  GIVEN WITH THE SEED: the statements are not yours to turn. If you find one false, say at which input.
  Laid BY PROGRAM, IN A SANDBOX (cutbox-rows.mjs): the forced cells as the released guide's own fill.sh prints them over the translation 4a8f7aad904a956f… (all of the seat's roots in one cut). By AI agents, Wed Nov 11 2026. No macro, syntax, notation, axiom, sorry.
-/
import Derived.Test.YtkbjddppapjphaaChecked
import GoSem.Claim
import GoSem.ClaimJoined
import GoSem.ClaimMapViews
import Derived.JoinedTies
import Derived.KernelRfl
namespace Go.Proofs.Ytkbjddppapjphaa
/- THE CELL 'sum', in the pinned program and in every row, IS THE sha256 OF THE DUMP (.gsa) THAT YtkbjddppapjphaaProg.lean LOADS. Nothing in Lean hashes anything: it is a label: what it is worth is what the hold of that sum in a sandbox is worth. -/
noncomputable def Try.pinned : Pinned := { name := "ytkbjddppapjphaa", sum := "4a8f7aad904a956fb7f8fb4f0ba0f637cec5fd18b4a19012f0b59a4416c63107", checked := Try.checked }
namespace Rows
def none {H : Type} : Left H := { results := [], args := [] }

/-- 'laws.FnExactIsValidName': WHATEVER THE INPUT: true; the input reads as it did. -/
def fnExactIsValidNameSpec : ChangeSpec := { name := "fnExactIsValidName", fn := fun _ => fun
  | [d] => { results := [.lit (.bool true)], args := [d] }
  | _ => none }
def fnExactIsValidNameRow : OpenClaim := { program := "ytkbjddppapjphaa", sum := "4a8f7aad904a956fb7f8fb4f0ba0f637cec5fd18b4a19012f0b59a4416c63107", func := "loop.example/g00896/laws.FnExactIsValidName", spec := "fnExactIsValidName", inPlace := ["internal/bytealg.IndexByteString", "internal/bytealg.IndexString"], named := ["internal/bytealg.MaxLen"], apart := false }
def FnExactIsValidNameSaid : Prop := fnExactIsValidNameRow.holds Try.pinned (OpenSpec.ofChange fnExactIsValidNameSpec)

/-- ITS FALSE NEIGHBOUR: 'it returns false'. Refute it at one input. -/
def fnExactIsValidNameWrong : ChangeSpec := { name := "fnExactIsValidName", fn := fun _ => fun
  | [d] => { results := [.lit (.bool false)], args := [d] }
  | _ => none }
def FnExactIsValidNameWrongFalsely : Prop := fnExactIsValidNameRow.holds Try.pinned (OpenSpec.ofChange fnExactIsValidNameWrong)

/-- 'laws.FnExactFullForm': WHATEVER THE INPUT: true; the input reads as it did. -/
def fnExactFullFormSpec : ChangeSpec := { name := "fnExactFullForm", fn := fun _ => fun
  | [d] => { results := [.lit (.bool true)], args := [d] }
  | _ => none }
def fnExactFullFormRow : OpenClaim := { program := "ytkbjddppapjphaa", sum := "4a8f7aad904a956fb7f8fb4f0ba0f637cec5fd18b4a19012f0b59a4416c63107", func := "loop.example/g00896/laws.FnExactFullForm", spec := "fnExactFullForm", inPlace := ["internal/bytealg.IndexByteString", "internal/bytealg.IndexString", "internal/abi.NoEscape", "internal/bytealg.MakeNoZero"], named := ["internal/bytealg.MaxLen"], apart := false }
def FnExactFullFormSaid : Prop := fnExactFullFormRow.holds Try.pinned (OpenSpec.ofChange fnExactFullFormSpec)

/-- ITS FALSE NEIGHBOUR: 'it returns false'. Refute it at one input. -/
def fnExactFullFormWrong : ChangeSpec := { name := "fnExactFullForm", fn := fun _ => fun
  | [d] => { results := [.lit (.bool false)], args := [d] }
  | _ => none }
def FnExactFullFormWrongFalsely : Prop := fnExactFullFormRow.holds Try.pinned (OpenSpec.ofChange fnExactFullFormWrong)

/-- 'laws.FnExactInverseForm': WHATEVER THE INPUT: true; the input reads as it did. -/
def fnExactInverseFormSpec : ChangeSpec := { name := "fnExactInverseForm", fn := fun _ => fun
  | [d] => { results := [.lit (.bool true)], args := [d] }
  | _ => none }
def fnExactInverseFormRow : OpenClaim := { program := "ytkbjddppapjphaa", sum := "4a8f7aad904a956fb7f8fb4f0ba0f637cec5fd18b4a19012f0b59a4416c63107", func := "loop.example/g00896/laws.FnExactInverseForm", spec := "fnExactInverseForm", inPlace := ["internal/bytealg.IndexByteString", "internal/bytealg.IndexString", "internal/abi.NoEscape", "internal/bytealg.MakeNoZero"], named := ["internal/bytealg.MaxLen"], apart := false }
def FnExactInverseFormSaid : Prop := fnExactInverseFormRow.holds Try.pinned (OpenSpec.ofChange fnExactInverseFormSpec)

/-- ITS FALSE NEIGHBOUR: 'it returns false'. Refute it at one input. -/
def fnExactInverseFormWrong : ChangeSpec := { name := "fnExactInverseForm", fn := fun _ => fun
  | [d] => { results := [.lit (.bool false)], args := [d] }
  | _ => none }
def FnExactInverseFormWrongFalsely : Prop := fnExactInverseFormRow.holds Try.pinned (OpenSpec.ofChange fnExactInverseFormWrong)

/-- 'laws.FnExactParseInverse': WHATEVER THE INPUT: true; the input reads as it did. -/
def fnExactParseInverseSpec : ChangeSpec := { name := "fnExactParseInverse", fn := fun _ => fun
  | [d] => { results := [.lit (.bool true)], args := [d] }
  | _ => none }
def fnExactParseInverseRow : OpenClaim := { program := "ytkbjddppapjphaa", sum := "4a8f7aad904a956fb7f8fb4f0ba0f637cec5fd18b4a19012f0b59a4416c63107", func := "loop.example/g00896/laws.FnExactParseInverse", spec := "fnExactParseInverse", inPlace := ["internal/bytealg.IndexByteString", "internal/bytealg.IndexString", "internal/abi.NoEscape", "internal/bytealg.MakeNoZero"], unfollowed := true, recurses := true, named := ["internal/bytealg.MaxLen"], apart := false }
def FnExactParseInverseSaid : Prop := fnExactParseInverseRow.holds Try.pinned (OpenSpec.ofChange fnExactParseInverseSpec)

/-- ITS FALSE NEIGHBOUR: 'it returns false'. Refute it at one input. -/
def fnExactParseInverseWrong : ChangeSpec := { name := "fnExactParseInverse", fn := fun _ => fun
  | [d] => { results := [.lit (.bool false)], args := [d] }
  | _ => none }
def FnExactParseInverseWrongFalsely : Prop := fnExactParseInverseRow.holds Try.pinned (OpenSpec.ofChange fnExactParseInverseWrong)

/-- 'laws.FnExactMayBeSame': WHATEVER THE INPUT: true; the input reads as it did. -/
def fnExactMayBeSameSpec : ChangeSpec := { name := "fnExactMayBeSame", fn := fun _ => fun
  | [d1, d2] => { results := [.lit (.bool true)], args := [d1, d2] }
  | _ => none }
def fnExactMayBeSameRow : OpenClaim := { program := "ytkbjddppapjphaa", sum := "4a8f7aad904a956fb7f8fb4f0ba0f637cec5fd18b4a19012f0b59a4416c63107", func := "loop.example/g00896/laws.FnExactMayBeSame", spec := "fnExactMayBeSame", inPlace := ["internal/bytealg.IndexByteString", "internal/bytealg.IndexString"], named := ["internal/bytealg.MaxLen"], apart := false }
def FnExactMayBeSameSaid : Prop := fnExactMayBeSameRow.holds Try.pinned (OpenSpec.ofChange fnExactMayBeSameSpec)

/-- ITS FALSE NEIGHBOUR: 'it returns false'. Refute it at one input. -/
def fnExactMayBeSameWrong : ChangeSpec := { name := "fnExactMayBeSame", fn := fun _ => fun
  | [d1, d2] => { results := [.lit (.bool false)], args := [d1, d2] }
  | _ => none }
def FnExactMayBeSameWrongFalsely : Prop := fnExactMayBeSameRow.holds Try.pinned (OpenSpec.ofChange fnExactMayBeSameWrong)

/- THE SECOND FORM. 'bulk': how many values and letters a reading holds, each counted each time it is reached (what is shared counts as often as it is met; a slice's spare places count too). A statement '..UptoSaid' is the law's where the arguments, and the package variables that the reading takes, are together of bulk at most 1048576: NARROWER than '..Said'. Prove '..Said' where nothing that the law and all that it calls make is longer than what came in: it says more and counts as full. Else prove '..UptoSaid'. A law counts once. -/
mutual
def uptoBulk {H : Type} : DataW H → Nat
  | .lit (.string bytes) => bytes.length + 1
  | .lit _ => 1
  | .nil => 1
  | .ptr d => uptoBulk d + 1
  | .slice elems spare => uptoBulkAll elems + uptoBulkAll spare + 1
  | .agg parts => uptoBulkAll parts + 1
  | .iface _ d => uptoBulk d + 1
  | .map entries => uptoBulkEntries entries + 1
  | .held _ => 1
def uptoBulkAll {H : Type} : List (DataW H) → Nat
  | [] => 0
  | d :: r => uptoBulk d + uptoBulkAll r
def uptoBulkEntries {H : Type} : List (Lit × DataW H) → Nat
  | [] => 0
  | x :: r => uptoBulkEntry x + uptoBulkEntries r
def uptoBulkEntry {H : Type} : Lit × DataW H → Nat
  | (.string bytes, d) => bytes.length + uptoBulk d + 1
  | (_, d) => uptoBulk d + 1
 end
def uptoSmall : (H : Type) → List (DataW H) → Bool := fun _ ds => decide (uptoBulkAll ds ≤ 1048576)
def OpenSpec.upto (s : _root_.Go.ChangeSpec) : _root_.Go.OpenSpec := { _root_.Go.OpenSpec.ofChange s with cond := some uptoSmall }

/-- 'laws.FnExactIsValidName', WHERE WHAT IT READS IS OF BULK AT MOST 1048576: true; the input reads as it did. -/
def fnExactIsValidNameUptoRow : OpenClaim := { program := "ytkbjddppapjphaa", sum := "4a8f7aad904a956fb7f8fb4f0ba0f637cec5fd18b4a19012f0b59a4416c63107", func := "loop.example/g00896/laws.FnExactIsValidName", spec := "fnExactIsValidName", inPlace := ["internal/bytealg.IndexByteString", "internal/bytealg.IndexString"], named := ["internal/bytealg.MaxLen"], apart := false, narrowed := true }
def FnExactIsValidNameUptoSaid : Prop := fnExactIsValidNameUptoRow.holds Try.pinned (OpenSpec.upto fnExactIsValidNameSpec)

/-- 'laws.FnExactFullForm', WHERE WHAT IT READS IS OF BULK AT MOST 1048576: true; the input reads as it did. -/
def fnExactFullFormUptoRow : OpenClaim := { program := "ytkbjddppapjphaa", sum := "4a8f7aad904a956fb7f8fb4f0ba0f637cec5fd18b4a19012f0b59a4416c63107", func := "loop.example/g00896/laws.FnExactFullForm", spec := "fnExactFullForm", inPlace := ["internal/bytealg.IndexByteString", "internal/bytealg.IndexString", "internal/abi.NoEscape", "internal/bytealg.MakeNoZero"], named := ["internal/bytealg.MaxLen"], apart := false, narrowed := true }
def FnExactFullFormUptoSaid : Prop := fnExactFullFormUptoRow.holds Try.pinned (OpenSpec.upto fnExactFullFormSpec)

/-- 'laws.FnExactInverseForm', WHERE WHAT IT READS IS OF BULK AT MOST 1048576: true; the input reads as it did. -/
def fnExactInverseFormUptoRow : OpenClaim := { program := "ytkbjddppapjphaa", sum := "4a8f7aad904a956fb7f8fb4f0ba0f637cec5fd18b4a19012f0b59a4416c63107", func := "loop.example/g00896/laws.FnExactInverseForm", spec := "fnExactInverseForm", inPlace := ["internal/bytealg.IndexByteString", "internal/bytealg.IndexString", "internal/abi.NoEscape", "internal/bytealg.MakeNoZero"], named := ["internal/bytealg.MaxLen"], apart := false, narrowed := true }
def FnExactInverseFormUptoSaid : Prop := fnExactInverseFormUptoRow.holds Try.pinned (OpenSpec.upto fnExactInverseFormSpec)

/-- 'laws.FnExactParseInverse', WHERE WHAT IT READS IS OF BULK AT MOST 1048576: true; the input reads as it did. -/
def fnExactParseInverseUptoRow : OpenClaim := { program := "ytkbjddppapjphaa", sum := "4a8f7aad904a956fb7f8fb4f0ba0f637cec5fd18b4a19012f0b59a4416c63107", func := "loop.example/g00896/laws.FnExactParseInverse", spec := "fnExactParseInverse", inPlace := ["internal/bytealg.IndexByteString", "internal/bytealg.IndexString", "internal/abi.NoEscape", "internal/bytealg.MakeNoZero"], unfollowed := true, recurses := true, named := ["internal/bytealg.MaxLen"], apart := false, narrowed := true }
def FnExactParseInverseUptoSaid : Prop := fnExactParseInverseUptoRow.holds Try.pinned (OpenSpec.upto fnExactParseInverseSpec)

/-- 'laws.FnExactMayBeSame', WHERE WHAT IT READS IS OF BULK AT MOST 1048576: true; the input reads as it did. -/
def fnExactMayBeSameUptoRow : OpenClaim := { program := "ytkbjddppapjphaa", sum := "4a8f7aad904a956fb7f8fb4f0ba0f637cec5fd18b4a19012f0b59a4416c63107", func := "loop.example/g00896/laws.FnExactMayBeSame", spec := "fnExactMayBeSame", inPlace := ["internal/bytealg.IndexByteString", "internal/bytealg.IndexString"], named := ["internal/bytealg.MaxLen"], apart := false, narrowed := true }
def FnExactMayBeSameUptoSaid : Prop := fnExactMayBeSameUptoRow.holds Try.pinned (OpenSpec.upto fnExactMayBeSameSpec)

end Rows
end Go.Proofs.Ytkbjddppapjphaa
