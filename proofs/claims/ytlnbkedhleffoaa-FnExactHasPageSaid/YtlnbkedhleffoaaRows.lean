/-
  No cell of these rows narrows 'for every input' (looked for: loops, veiled, ifaces, maps, wideKeys, modest, calm, conditions, laid).
  DERIVED. THE GIVEN ROWS OF THIS SEAT. 2 by the template 'for every input the law returns true; each argument reads behind the call as it read before'; 0 by the template 'total and deterministic' (their statements: YtlnbkedhleffoaaTotals.lean).
  GIVEN WITH THE SEED: the statements are not yours to turn. If you find one false, say at which input.
  Laid BY PROGRAM, IN A SANDBOX (cutbox-rows.mjs): the forced cells as the released guide's own fill.sh prints them over the translation a7350db38aea0a95… (all of the seat's roots in one cut). By AI agents, Wed Nov 11 2026. No macro, syntax, notation, axiom, sorry.
-/
import Derived.Test.YtlnbkedhleffoaaChecked
import GoSem.Claim
import GoSem.ClaimJoined
import GoSem.ClaimMapViews
import Derived.JoinedTies
import Derived.KernelRfl
namespace Go.Proofs.Ytlnbkedhleffoaa
/- THE CELL 'sum', in the pinned program and in every row, IS THE sha256 OF THE DUMP (.gsa) THAT YtlnbkedhleffoaaProg.lean LOADS. Nothing in Lean hashes anything: it is a label: what it is worth is what the hold of that sum in a sandbox is worth. -/
noncomputable def Try.pinned : Pinned := { name := "ytlnbkedhleffoaa", sum := "a7350db38aea0a9509a0fad5ffdef95b8c6f67b6e67bd0d4ce03d7cf4a395654", checked := Try.checked }
namespace Rows
def none {H : Type} : Left H := { results := [], args := [] }

/-- 'laws.FnExactIsValidPages': WHATEVER THE INPUT: true; the input reads as it did. -/
def fnExactIsValidPagesSpec : ChangeSpec := { name := "fnExactIsValidPages", fn := fun _ => fun
  | [d] => { results := [.lit (.bool true)], args := [d] }
  | _ => none }
def fnExactIsValidPagesRow : OpenClaim := { program := "ytlnbkedhleffoaa", sum := "a7350db38aea0a9509a0fad5ffdef95b8c6f67b6e67bd0d4ce03d7cf4a395654", func := "loop.example/g00896/laws.FnExactIsValidPages", spec := "fnExactIsValidPages", apart := false }
def FnExactIsValidPagesSaid : Prop := fnExactIsValidPagesRow.holds Try.pinned (OpenSpec.ofChange fnExactIsValidPagesSpec)

/-- ITS FALSE NEIGHBOUR: 'it returns false'. Refute it at one input. -/
def fnExactIsValidPagesWrong : ChangeSpec := { name := "fnExactIsValidPages", fn := fun _ => fun
  | [d] => { results := [.lit (.bool false)], args := [d] }
  | _ => none }
def FnExactIsValidPagesWrongFalsely : Prop := fnExactIsValidPagesRow.holds Try.pinned (OpenSpec.ofChange fnExactIsValidPagesWrong)

/-- 'laws.FnExactHasPage': WHATEVER THE INPUT: true; the input reads as it did. -/
def fnExactHasPageSpec : ChangeSpec := { name := "fnExactHasPage", fn := fun _ => fun
  | [d1, d2, d3] => { results := [.lit (.bool true)], args := [d1, d2, d3] }
  | _ => none }
def fnExactHasPageRow : OpenClaim := { program := "ytlnbkedhleffoaa", sum := "a7350db38aea0a9509a0fad5ffdef95b8c6f67b6e67bd0d4ce03d7cf4a395654", func := "loop.example/g00896/laws.FnExactHasPage", spec := "fnExactHasPage", apart := false }
def FnExactHasPageSaid : Prop := fnExactHasPageRow.holds Try.pinned (OpenSpec.ofChange fnExactHasPageSpec)

/-- ITS FALSE NEIGHBOUR: 'it returns false'. Refute it at one input. -/
def fnExactHasPageWrong : ChangeSpec := { name := "fnExactHasPage", fn := fun _ => fun
  | [d1, d2, d3] => { results := [.lit (.bool false)], args := [d1, d2, d3] }
  | _ => none }
def FnExactHasPageWrongFalsely : Prop := fnExactHasPageRow.holds Try.pinned (OpenSpec.ofChange fnExactHasPageWrong)

/- THE SECOND FORM. 'bulk': how many values and letters a reading holds, each counted each time it is reached (what is shared counts as often as it is met; a slice's spare places count too). A statement '..UptoSaid' is the law's where the arguments, and the package variables that the reading takes, are together of bulk at most 1048576: NARROWER than '..Said'. Prove '..Said' where nothing that the law and all that it calls make is longer than what came in: it says more and counts as full. Else prove '..UptoSaid'. A law counts once. -/
mutual
def uptoBulk {H : Type} : DataW H → Nat
  | .lit (.string bytes) => bytes.length + 1
  | .lit _ => 1
  | .nil => 1
  | .ptr d => uptoBulk d + 1
  | .slice elems spare => uptoBulkAll elems + uptoBulkAll spare + 1
  | .agg parts => uptoBulkAll parts + 1
  | .iface _ d => uptoBulk d + 1
  | .map entries => uptoBulkEntries entries + 1
  | .held _ => 1
def uptoBulkAll {H : Type} : List (DataW H) → Nat
  | [] => 0
  | d :: r => uptoBulk d + uptoBulkAll r
def uptoBulkEntries {H : Type} : List (Lit × DataW H) → Nat
  | [] => 0
  | x :: r => uptoBulkEntry x + uptoBulkEntries r
def uptoBulkEntry {H : Type} : Lit × DataW H → Nat
  | (.string bytes, d) => bytes.length + uptoBulk d + 1
  | (_, d) => uptoBulk d + 1
 end
def uptoSmall : (H : Type) → List (DataW H) → Bool := fun _ ds => decide (uptoBulkAll ds ≤ 1048576)
def OpenSpec.upto (s : _root_.Go.ChangeSpec) : _root_.Go.OpenSpec := { _root_.Go.OpenSpec.ofChange s with cond := some uptoSmall }

/-- 'laws.FnExactIsValidPages', WHERE WHAT IT READS IS OF BULK AT MOST 1048576: true; the input reads as it did. -/
def fnExactIsValidPagesUptoRow : OpenClaim := { program := "ytlnbkedhleffoaa", sum := "a7350db38aea0a9509a0fad5ffdef95b8c6f67b6e67bd0d4ce03d7cf4a395654", func := "loop.example/g00896/laws.FnExactIsValidPages", spec := "fnExactIsValidPages", apart := false, narrowed := true }
def FnExactIsValidPagesUptoSaid : Prop := fnExactIsValidPagesUptoRow.holds Try.pinned (OpenSpec.upto fnExactIsValidPagesSpec)

/-- 'laws.FnExactHasPage', WHERE WHAT IT READS IS OF BULK AT MOST 1048576: true; the input reads as it did. -/
def fnExactHasPageUptoRow : OpenClaim := { program := "ytlnbkedhleffoaa", sum := "a7350db38aea0a9509a0fad5ffdef95b8c6f67b6e67bd0d4ce03d7cf4a395654", func := "loop.example/g00896/laws.FnExactHasPage", spec := "fnExactHasPage", apart := false, narrowed := true }
def FnExactHasPageUptoSaid : Prop := fnExactHasPageUptoRow.holds Try.pinned (OpenSpec.upto fnExactHasPageSpec)

end Rows
end Go.Proofs.Ytlnbkedhleffoaa
