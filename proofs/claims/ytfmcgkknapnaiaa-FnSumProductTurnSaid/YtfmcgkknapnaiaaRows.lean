/-
  No cell of these rows narrows 'for every input' (looked for: loops, veiled, ifaces, maps, wideKeys, modest, calm, conditions, laid).
  DERIVED. THE GIVEN ROWS OF THIS SEAT. 2 by the template 'for every input the law returns true; each argument reads behind the call as it read before'; 0 by the template 'total and deterministic' (their statements: YtfmcgkknapnaiaaTotals.lean).
  GIVEN WITH THE SEED: the statements are not yours to turn. If you find one false, say at which input.
  Laid BY PROGRAM, IN A SANDBOX (cutbox-rows.mjs): the forced cells as the released guide's own fill.sh prints them over the translation 8896bd3133c0869a… (all of the seat's roots in one cut). By AI agents, Wed Nov 11 2026. No macro, syntax, notation, axiom, sorry.
-/
import Derived.Test.YtfmcgkknapnaiaaChecked
import GoSem.Claim
import GoSem.ClaimJoined
import GoSem.ClaimMapViews
import Derived.JoinedTies
import Derived.KernelRfl
namespace Go.Proofs.Ytfmcgkknapnaiaa
/- THE CELL 'sum', in the pinned program and in every row, IS THE sha256 OF THE DUMP (.gsa) THAT YtfmcgkknapnaiaaProg.lean LOADS. Nothing in Lean hashes anything: it is a label: what it is worth is what the hold of that sum in a sandbox is worth. -/
noncomputable def Try.pinned : Pinned := { name := "ytfmcgkknapnaiaa", sum := "8896bd3133c0869abe03b256090de124d4a48eb44c291248650ad9d87ffb726b", checked := Try.checked }
namespace Rows
def none {H : Type} : Left H := { results := [], args := [] }

/-- 'laws.FnSumProductTurn': WHATEVER THE INPUT: true; the input reads as it did. -/
def fnSumProductTurnSpec : ChangeSpec := { name := "fnSumProductTurn", fn := fun _ => fun
  | [d] => { results := [.lit (.bool true)], args := [d] }
  | _ => none }
def fnSumProductTurnRow : OpenClaim := { program := "ytfmcgkknapnaiaa", sum := "8896bd3133c0869abe03b256090de124d4a48eb44c291248650ad9d87ffb726b", func := "loop.example/arraylanguage/laws.FnSumProductTurn", spec := "fnSumProductTurn", unfollowed := true, recurses := true, apart := false }
def FnSumProductTurnSaid : Prop := fnSumProductTurnRow.holds Try.pinned (OpenSpec.ofChange fnSumProductTurnSpec)

/-- ITS FALSE NEIGHBOUR: 'it returns false'. Refute it at one input. -/
def fnSumProductTurnWrong : ChangeSpec := { name := "fnSumProductTurn", fn := fun _ => fun
  | [d] => { results := [.lit (.bool false)], args := [d] }
  | _ => none }
def FnSumProductTurnWrongFalsely : Prop := fnSumProductTurnRow.holds Try.pinned (OpenSpec.ofChange fnSumProductTurnWrong)

/-- 'laws.FnSumProductZero': WHATEVER THE INPUT: true; the input reads as it did. -/
def fnSumProductZeroSpec : ChangeSpec := { name := "fnSumProductZero", fn := fun _ => fun
  | [d] => { results := [.lit (.bool true)], args := [d] }
  | _ => none }
def fnSumProductZeroRow : OpenClaim := { program := "ytfmcgkknapnaiaa", sum := "8896bd3133c0869abe03b256090de124d4a48eb44c291248650ad9d87ffb726b", func := "loop.example/arraylanguage/laws.FnSumProductZero", spec := "fnSumProductZero", unfollowed := true, recurses := true, apart := false }
def FnSumProductZeroSaid : Prop := fnSumProductZeroRow.holds Try.pinned (OpenSpec.ofChange fnSumProductZeroSpec)

/-- ITS FALSE NEIGHBOUR: 'it returns false'. Refute it at one input. -/
def fnSumProductZeroWrong : ChangeSpec := { name := "fnSumProductZero", fn := fun _ => fun
  | [d] => { results := [.lit (.bool false)], args := [d] }
  | _ => none }
def FnSumProductZeroWrongFalsely : Prop := fnSumProductZeroRow.holds Try.pinned (OpenSpec.ofChange fnSumProductZeroWrong)

/- THE SECOND FORM. 'bulk': how many values and letters a reading holds, each counted each time it is reached (what is shared counts as often as it is met; a slice's spare places count too). A statement '..UptoSaid' is the law's where the arguments, and the package variables that the reading takes, are together of bulk at most 1048576: NARROWER than '..Said'. Prove '..Said' where nothing that the law and all that it calls make is longer than what came in: it says more and counts as full. Else prove '..UptoSaid'. A law counts once. -/
mutual
def uptoBulk {H : Type} : DataW H → Nat
  | .lit (.string bytes) => bytes.length + 1
  | .lit _ => 1
  | .nil => 1
  | .ptr d => uptoBulk d + 1
  | .slice elems spare => uptoBulkAll elems + uptoBulkAll spare + 1
  | .agg parts => uptoBulkAll parts + 1
  | .iface _ d => uptoBulk d + 1
  | .map entries => uptoBulkEntries entries + 1
  | .held _ => 1
def uptoBulkAll {H : Type} : List (DataW H) → Nat
  | [] => 0
  | d :: r => uptoBulk d + uptoBulkAll r
def uptoBulkEntries {H : Type} : List (Lit × DataW H) → Nat
  | [] => 0
  | x :: r => uptoBulkEntry x + uptoBulkEntries r
def uptoBulkEntry {H : Type} : Lit × DataW H → Nat
  | (.string bytes, d) => bytes.length + uptoBulk d + 1
  | (_, d) => uptoBulk d + 1
 end
def uptoSmall : (H : Type) → List (DataW H) → Bool := fun _ ds => decide (uptoBulkAll ds ≤ 1048576)
def OpenSpec.upto (s : _root_.Go.ChangeSpec) : _root_.Go.OpenSpec := { _root_.Go.OpenSpec.ofChange s with cond := some uptoSmall }

/-- 'laws.FnSumProductTurn', WHERE WHAT IT READS IS OF BULK AT MOST 1048576: true; the input reads as it did. -/
def fnSumProductTurnUptoRow : OpenClaim := { program := "ytfmcgkknapnaiaa", sum := "8896bd3133c0869abe03b256090de124d4a48eb44c291248650ad9d87ffb726b", func := "loop.example/arraylanguage/laws.FnSumProductTurn", spec := "fnSumProductTurn", unfollowed := true, recurses := true, apart := false, narrowed := true }
def FnSumProductTurnUptoSaid : Prop := fnSumProductTurnUptoRow.holds Try.pinned (OpenSpec.upto fnSumProductTurnSpec)

/-- 'laws.FnSumProductZero', WHERE WHAT IT READS IS OF BULK AT MOST 1048576: true; the input reads as it did. -/
def fnSumProductZeroUptoRow : OpenClaim := { program := "ytfmcgkknapnaiaa", sum := "8896bd3133c0869abe03b256090de124d4a48eb44c291248650ad9d87ffb726b", func := "loop.example/arraylanguage/laws.FnSumProductZero", spec := "fnSumProductZero", unfollowed := true, recurses := true, apart := false, narrowed := true }
def FnSumProductZeroUptoSaid : Prop := fnSumProductZeroUptoRow.holds Try.pinned (OpenSpec.upto fnSumProductZeroSpec)

end Rows
end Go.Proofs.Ytfmcgkknapnaiaa
