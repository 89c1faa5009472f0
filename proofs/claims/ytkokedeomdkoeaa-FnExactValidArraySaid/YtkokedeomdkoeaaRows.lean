/-
  No cell of these rows narrows 'for every input' (looked for: loops, veiled, ifaces, maps, wideKeys, modest, calm, conditions, laid).
  DERIVED. THE GIVEN ROWS OF THIS SEAT. 6 by the template 'for every input the law returns true; each argument reads behind the call as it read before'; 0 by the template 'total and deterministic' (their statements: YtkokedeomdkoeaaTotals.lean).
  GIVEN WITH THE SEED: the statements are not yours to turn. If you find one false, say at which input.
  Laid BY PROGRAM, IN A SANDBOX (cutbox-rows.mjs): the forced cells as the released guide's own fill.sh prints them over the translation 36766139aaa62efd… (all of the seat's roots in one cut). By AI agents, Wed Nov 11 2026. No macro, syntax, notation, axiom, sorry.
-/
import Derived.Test.YtkokedeomdkoeaaChecked
import GoSem.Claim
import GoSem.ClaimJoined
import GoSem.ClaimMapViews
import Derived.JoinedTies
import Derived.KernelRfl
namespace Go.Proofs.Ytkokedeomdkoeaa
/- THE CELL 'sum', in the pinned program and in every row, IS THE sha256 OF THE DUMP (.gsa) THAT YtkokedeomdkoeaaProg.lean LOADS. Nothing in Lean hashes anything: it is a label: what it is worth is what the hold of that sum in a sandbox is worth. -/
noncomputable def Try.pinned : Pinned := { name := "ytkokedeomdkoeaa", sum := "36766139aaa62efd091ac95e5725326ce193ab25499043bb3b3f58cd2e4acfe9", checked := Try.checked }
namespace Rows
def none {H : Type} : Left H := { results := [], args := [] }

/-- 'laws.FnExactScalarOf': WHATEVER THE INPUT: true; the input reads as it did. -/
def fnExactScalarOfSpec : ChangeSpec := { name := "fnExactScalarOf", fn := fun _ => fun
  | [d] => { results := [.lit (.bool true)], args := [d] }
  | _ => none }
def fnExactScalarOfRow : OpenClaim := { program := "ytkokedeomdkoeaa", sum := "36766139aaa62efd091ac95e5725326ce193ab25499043bb3b3f58cd2e4acfe9", func := "loop.example/arraylanguage/laws.FnExactScalarOf", spec := "fnExactScalarOf", apart := false }
def FnExactScalarOfSaid : Prop := fnExactScalarOfRow.holds Try.pinned (OpenSpec.ofChange fnExactScalarOfSpec)

/-- ITS FALSE NEIGHBOUR: 'it returns false'. Refute it at one input. -/
def fnExactScalarOfWrong : ChangeSpec := { name := "fnExactScalarOf", fn := fun _ => fun
  | [d] => { results := [.lit (.bool false)], args := [d] }
  | _ => none }
def FnExactScalarOfWrongFalsely : Prop := fnExactScalarOfRow.holds Try.pinned (OpenSpec.ofChange fnExactScalarOfWrong)

/-- 'laws.FnExactCountTo': WHATEVER THE INPUT: true; the input reads as it did. -/
def fnExactCountToSpec : ChangeSpec := { name := "fnExactCountTo", fn := fun _ => fun
  | [d] => { results := [.lit (.bool true)], args := [d] }
  | _ => none }
def fnExactCountToRow : OpenClaim := { program := "ytkokedeomdkoeaa", sum := "36766139aaa62efd091ac95e5725326ce193ab25499043bb3b3f58cd2e4acfe9", func := "loop.example/arraylanguage/laws.FnExactCountTo", spec := "fnExactCountTo", apart := false }
def FnExactCountToSaid : Prop := fnExactCountToRow.holds Try.pinned (OpenSpec.ofChange fnExactCountToSpec)

/-- ITS FALSE NEIGHBOUR: 'it returns false'. Refute it at one input. -/
def fnExactCountToWrong : ChangeSpec := { name := "fnExactCountTo", fn := fun _ => fun
  | [d] => { results := [.lit (.bool false)], args := [d] }
  | _ => none }
def FnExactCountToWrongFalsely : Prop := fnExactCountToRow.holds Try.pinned (OpenSpec.ofChange fnExactCountToWrong)

/-- 'laws.FnExactVectorOf': WHATEVER THE INPUT: true; the input reads as it did. -/
def fnExactVectorOfSpec : ChangeSpec := { name := "fnExactVectorOf", fn := fun _ => fun
  | [d] => { results := [.lit (.bool true)], args := [d] }
  | _ => none }
def fnExactVectorOfRow : OpenClaim := { program := "ytkokedeomdkoeaa", sum := "36766139aaa62efd091ac95e5725326ce193ab25499043bb3b3f58cd2e4acfe9", func := "loop.example/arraylanguage/laws.FnExactVectorOf", spec := "fnExactVectorOf", apart := false }
def FnExactVectorOfSaid : Prop := fnExactVectorOfRow.holds Try.pinned (OpenSpec.ofChange fnExactVectorOfSpec)

/-- ITS FALSE NEIGHBOUR: 'it returns false'. Refute it at one input. -/
def fnExactVectorOfWrong : ChangeSpec := { name := "fnExactVectorOf", fn := fun _ => fun
  | [d] => { results := [.lit (.bool false)], args := [d] }
  | _ => none }
def FnExactVectorOfWrongFalsely : Prop := fnExactVectorOfRow.holds Try.pinned (OpenSpec.ofChange fnExactVectorOfWrong)

/-- 'laws.FnExactRankOf': WHATEVER THE INPUT: true; the input reads as it did. -/
def fnExactRankOfSpec : ChangeSpec := { name := "fnExactRankOf", fn := fun _ => fun
  | [d] => { results := [.lit (.bool true)], args := [d] }
  | _ => none }
def fnExactRankOfRow : OpenClaim := { program := "ytkokedeomdkoeaa", sum := "36766139aaa62efd091ac95e5725326ce193ab25499043bb3b3f58cd2e4acfe9", func := "loop.example/arraylanguage/laws.FnExactRankOf", spec := "fnExactRankOf", apart := false }
def FnExactRankOfSaid : Prop := fnExactRankOfRow.holds Try.pinned (OpenSpec.ofChange fnExactRankOfSpec)

/-- ITS FALSE NEIGHBOUR: 'it returns false'. Refute it at one input. -/
def fnExactRankOfWrong : ChangeSpec := { name := "fnExactRankOf", fn := fun _ => fun
  | [d] => { results := [.lit (.bool false)], args := [d] }
  | _ => none }
def FnExactRankOfWrongFalsely : Prop := fnExactRankOfRow.holds Try.pinned (OpenSpec.ofChange fnExactRankOfWrong)

/-- 'laws.FnExactSizeOf': WHATEVER THE INPUT: true; the input reads as it did. -/
def fnExactSizeOfSpec : ChangeSpec := { name := "fnExactSizeOf", fn := fun _ => fun
  | [d] => { results := [.lit (.bool true)], args := [d] }
  | _ => none }
def fnExactSizeOfRow : OpenClaim := { program := "ytkokedeomdkoeaa", sum := "36766139aaa62efd091ac95e5725326ce193ab25499043bb3b3f58cd2e4acfe9", func := "loop.example/arraylanguage/laws.FnExactSizeOf", spec := "fnExactSizeOf", apart := false }
def FnExactSizeOfSaid : Prop := fnExactSizeOfRow.holds Try.pinned (OpenSpec.ofChange fnExactSizeOfSpec)

/-- ITS FALSE NEIGHBOUR: 'it returns false'. Refute it at one input. -/
def fnExactSizeOfWrong : ChangeSpec := { name := "fnExactSizeOf", fn := fun _ => fun
  | [d] => { results := [.lit (.bool false)], args := [d] }
  | _ => none }
def FnExactSizeOfWrongFalsely : Prop := fnExactSizeOfRow.holds Try.pinned (OpenSpec.ofChange fnExactSizeOfWrong)

/-- 'laws.FnExactValidArray': WHATEVER THE INPUT: true; the input reads as it did. -/
def fnExactValidArraySpec : ChangeSpec := { name := "fnExactValidArray", fn := fun _ => fun
  | [d] => { results := [.lit (.bool true)], args := [d] }
  | _ => none }
def fnExactValidArrayRow : OpenClaim := { program := "ytkokedeomdkoeaa", sum := "36766139aaa62efd091ac95e5725326ce193ab25499043bb3b3f58cd2e4acfe9", func := "loop.example/arraylanguage/laws.FnExactValidArray", spec := "fnExactValidArray", apart := false }
def FnExactValidArraySaid : Prop := fnExactValidArrayRow.holds Try.pinned (OpenSpec.ofChange fnExactValidArraySpec)

/-- ITS FALSE NEIGHBOUR: 'it returns false'. Refute it at one input. -/
def fnExactValidArrayWrong : ChangeSpec := { name := "fnExactValidArray", fn := fun _ => fun
  | [d] => { results := [.lit (.bool false)], args := [d] }
  | _ => none }
def FnExactValidArrayWrongFalsely : Prop := fnExactValidArrayRow.holds Try.pinned (OpenSpec.ofChange fnExactValidArrayWrong)

/- THE SECOND FORM. 'bulk': how many values and letters a reading holds, each counted each time it is reached (what is shared counts as often as it is met; a slice's spare places count too). A statement '..UptoSaid' is the law's where the arguments, and the package variables that the reading takes, are together of bulk at most 1048576: NARROWER than '..Said'. Prove '..Said' where nothing that the law and all that it calls make is longer than what came in: it says more and counts as full. Else prove '..UptoSaid'. A law counts once. -/
mutual
def uptoBulk {H : Type} : DataW H → Nat
  | .lit (.string bytes) => bytes.length + 1
  | .lit _ => 1
  | .nil => 1
  | .ptr d => uptoBulk d + 1
  | .slice elems spare => uptoBulkAll elems + uptoBulkAll spare + 1
  | .agg parts => uptoBulkAll parts + 1
  | .iface _ d => uptoBulk d + 1
  | .map entries => uptoBulkEntries entries + 1
  | .held _ => 1
def uptoBulkAll {H : Type} : List (DataW H) → Nat
  | [] => 0
  | d :: r => uptoBulk d + uptoBulkAll r
def uptoBulkEntries {H : Type} : List (Lit × DataW H) → Nat
  | [] => 0
  | x :: r => uptoBulkEntry x + uptoBulkEntries r
def uptoBulkEntry {H : Type} : Lit × DataW H → Nat
  | (.string bytes, d) => bytes.length + uptoBulk d + 1
  | (_, d) => uptoBulk d + 1
 end
def uptoSmall : (H : Type) → List (DataW H) → Bool := fun _ ds => decide (uptoBulkAll ds ≤ 1048576)
def OpenSpec.upto (s : _root_.Go.ChangeSpec) : _root_.Go.OpenSpec := { _root_.Go.OpenSpec.ofChange s with cond := some uptoSmall }

/-- 'laws.FnExactScalarOf', WHERE WHAT IT READS IS OF BULK AT MOST 1048576: true; the input reads as it did. -/
def fnExactScalarOfUptoRow : OpenClaim := { program := "ytkokedeomdkoeaa", sum := "36766139aaa62efd091ac95e5725326ce193ab25499043bb3b3f58cd2e4acfe9", func := "loop.example/arraylanguage/laws.FnExactScalarOf", spec := "fnExactScalarOf", apart := false, narrowed := true }
def FnExactScalarOfUptoSaid : Prop := fnExactScalarOfUptoRow.holds Try.pinned (OpenSpec.upto fnExactScalarOfSpec)

/-- 'laws.FnExactCountTo', WHERE WHAT IT READS IS OF BULK AT MOST 1048576: true; the input reads as it did. -/
def fnExactCountToUptoRow : OpenClaim := { program := "ytkokedeomdkoeaa", sum := "36766139aaa62efd091ac95e5725326ce193ab25499043bb3b3f58cd2e4acfe9", func := "loop.example/arraylanguage/laws.FnExactCountTo", spec := "fnExactCountTo", apart := false, narrowed := true }
def FnExactCountToUptoSaid : Prop := fnExactCountToUptoRow.holds Try.pinned (OpenSpec.upto fnExactCountToSpec)

/-- 'laws.FnExactVectorOf', WHERE WHAT IT READS IS OF BULK AT MOST 1048576: true; the input reads as it did. -/
def fnExactVectorOfUptoRow : OpenClaim := { program := "ytkokedeomdkoeaa", sum := "36766139aaa62efd091ac95e5725326ce193ab25499043bb3b3f58cd2e4acfe9", func := "loop.example/arraylanguage/laws.FnExactVectorOf", spec := "fnExactVectorOf", apart := false, narrowed := true }
def FnExactVectorOfUptoSaid : Prop := fnExactVectorOfUptoRow.holds Try.pinned (OpenSpec.upto fnExactVectorOfSpec)

/-- 'laws.FnExactRankOf', WHERE WHAT IT READS IS OF BULK AT MOST 1048576: true; the input reads as it did. -/
def fnExactRankOfUptoRow : OpenClaim := { program := "ytkokedeomdkoeaa", sum := "36766139aaa62efd091ac95e5725326ce193ab25499043bb3b3f58cd2e4acfe9", func := "loop.example/arraylanguage/laws.FnExactRankOf", spec := "fnExactRankOf", apart := false, narrowed := true }
def FnExactRankOfUptoSaid : Prop := fnExactRankOfUptoRow.holds Try.pinned (OpenSpec.upto fnExactRankOfSpec)

/-- 'laws.FnExactSizeOf', WHERE WHAT IT READS IS OF BULK AT MOST 1048576: true; the input reads as it did. -/
def fnExactSizeOfUptoRow : OpenClaim := { program := "ytkokedeomdkoeaa", sum := "36766139aaa62efd091ac95e5725326ce193ab25499043bb3b3f58cd2e4acfe9", func := "loop.example/arraylanguage/laws.FnExactSizeOf", spec := "fnExactSizeOf", apart := false, narrowed := true }
def FnExactSizeOfUptoSaid : Prop := fnExactSizeOfUptoRow.holds Try.pinned (OpenSpec.upto fnExactSizeOfSpec)

/-- 'laws.FnExactValidArray', WHERE WHAT IT READS IS OF BULK AT MOST 1048576: true; the input reads as it did. -/
def fnExactValidArrayUptoRow : OpenClaim := { program := "ytkokedeomdkoeaa", sum := "36766139aaa62efd091ac95e5725326ce193ab25499043bb3b3f58cd2e4acfe9", func := "loop.example/arraylanguage/laws.FnExactValidArray", spec := "fnExactValidArray", apart := false, narrowed := true }
def FnExactValidArrayUptoSaid : Prop := fnExactValidArrayUptoRow.holds Try.pinned (OpenSpec.upto fnExactValidArraySpec)

end Rows
end Go.Proofs.Ytkokedeomdkoeaa
