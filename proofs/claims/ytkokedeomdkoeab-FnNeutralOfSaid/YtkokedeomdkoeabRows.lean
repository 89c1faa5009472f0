/-
  No cell of these rows narrows 'for every input' (looked for: loops, veiled, ifaces, maps, wideKeys, modest, calm, conditions, laid).
  DERIVED. THE GIVEN ROWS OF THIS SEAT. 6 by the template 'for every input the law returns true; each argument reads behind the call as it read before'; 0 by the template 'total and deterministic' (their statements: YtkokedeomdkoeabTotals.lean).
  GIVEN WITH THE SEED: the statements are not yours to turn. If you find one false, say at which input.
  Laid BY PROGRAM, IN A SANDBOX (cutbox-rows.mjs): the forced cells as the released guide's own fill.sh prints them over the translation aeaf4431c8783da4… (all of the seat's roots in one cut). By AI agents, Wed Nov 11 2026. No macro, syntax, notation, axiom, sorry.
-/
import Derived.Test.YtkokedeomdkoeabChecked
import GoSem.Claim
import GoSem.ClaimJoined
import GoSem.ClaimMapViews
import Derived.JoinedTies
import Derived.KernelRfl
namespace Go.Proofs.Ytkokedeomdkoeab
/- THE CELL 'sum', in the pinned program and in every row, IS THE sha256 OF THE DUMP (.gsa) THAT YtkokedeomdkoeabProg.lean LOADS. Nothing in Lean hashes anything: it is a label: what it is worth is what the hold of that sum in a sandbox is worth. -/
noncomputable def Try.pinned : Pinned := { name := "ytkokedeomdkoeab", sum := "aeaf4431c8783da46504e3893843c84b4660a1eebdf85621daeeeb8ab0182557", checked := Try.checked }
namespace Rows
def none {H : Type} : Left H := { results := [], args := [] }

/-- 'laws.FnExactOperate': WHATEVER THE INPUT: true; the input reads as it did. -/
def fnExactOperateSpec : ChangeSpec := { name := "fnExactOperate", fn := fun _ => fun
  | [d1, d2, d3] => { results := [.lit (.bool true)], args := [d1, d2, d3] }
  | _ => none }
def fnExactOperateRow : OpenClaim := { program := "ytkokedeomdkoeab", sum := "aeaf4431c8783da46504e3893843c84b4660a1eebdf85621daeeeb8ab0182557", func := "loop.example/arraylanguage/laws.FnExactOperate", spec := "fnExactOperate", unfollowed := true, recurses := true, apart := false }
def FnExactOperateSaid : Prop := fnExactOperateRow.holds Try.pinned (OpenSpec.ofChange fnExactOperateSpec)

/-- ITS FALSE NEIGHBOUR: 'it returns false'. Refute it at one input. -/
def fnExactOperateWrong : ChangeSpec := { name := "fnExactOperate", fn := fun _ => fun
  | [d1, d2, d3] => { results := [.lit (.bool false)], args := [d1, d2, d3] }
  | _ => none }
def FnExactOperateWrongFalsely : Prop := fnExactOperateRow.holds Try.pinned (OpenSpec.ofChange fnExactOperateWrong)

/-- 'laws.FnExactNeutralOf': WHATEVER THE INPUT: true; the input reads as it did. -/
def fnExactNeutralOfSpec : ChangeSpec := { name := "fnExactNeutralOf", fn := fun _ => fun
  | [d] => { results := [.lit (.bool true)], args := [d] }
  | _ => none }
def fnExactNeutralOfRow : OpenClaim := { program := "ytkokedeomdkoeab", sum := "aeaf4431c8783da46504e3893843c84b4660a1eebdf85621daeeeb8ab0182557", func := "loop.example/arraylanguage/laws.FnExactNeutralOf", spec := "fnExactNeutralOf", apart := false }
def FnExactNeutralOfSaid : Prop := fnExactNeutralOfRow.holds Try.pinned (OpenSpec.ofChange fnExactNeutralOfSpec)

/-- ITS FALSE NEIGHBOUR: 'it returns false'. Refute it at one input. -/
def fnExactNeutralOfWrong : ChangeSpec := { name := "fnExactNeutralOf", fn := fun _ => fun
  | [d] => { results := [.lit (.bool false)], args := [d] }
  | _ => none }
def FnExactNeutralOfWrongFalsely : Prop := fnExactNeutralOfRow.holds Try.pinned (OpenSpec.ofChange fnExactNeutralOfWrong)

/-- 'laws.FnOperate': WHATEVER THE INPUT: true; the input reads as it did. -/
def fnOperateSpec : ChangeSpec := { name := "fnOperate", fn := fun _ => fun
  | [d] => { results := [.lit (.bool true)], args := [d] }
  | _ => none }
def fnOperateRow : OpenClaim := { program := "ytkokedeomdkoeab", sum := "aeaf4431c8783da46504e3893843c84b4660a1eebdf85621daeeeb8ab0182557", func := "loop.example/arraylanguage/laws.FnOperate", spec := "fnOperate", unfollowed := true, recurses := true, apart := false }
def FnOperateSaid : Prop := fnOperateRow.holds Try.pinned (OpenSpec.ofChange fnOperateSpec)

/-- ITS FALSE NEIGHBOUR: 'it returns false'. Refute it at one input. -/
def fnOperateWrong : ChangeSpec := { name := "fnOperate", fn := fun _ => fun
  | [d] => { results := [.lit (.bool false)], args := [d] }
  | _ => none }
def FnOperateWrongFalsely : Prop := fnOperateRow.holds Try.pinned (OpenSpec.ofChange fnOperateWrong)

/-- 'laws.FnOperateRest': WHATEVER THE INPUT: true; the input reads as it did. -/
def fnOperateRestSpec : ChangeSpec := { name := "fnOperateRest", fn := fun _ => fun
  | [d] => { results := [.lit (.bool true)], args := [d] }
  | _ => none }
def fnOperateRestRow : OpenClaim := { program := "ytkokedeomdkoeab", sum := "aeaf4431c8783da46504e3893843c84b4660a1eebdf85621daeeeb8ab0182557", func := "loop.example/arraylanguage/laws.FnOperateRest", spec := "fnOperateRest", unfollowed := true, recurses := true, apart := false }
def FnOperateRestSaid : Prop := fnOperateRestRow.holds Try.pinned (OpenSpec.ofChange fnOperateRestSpec)

/-- ITS FALSE NEIGHBOUR: 'it returns false'. Refute it at one input. -/
def fnOperateRestWrong : ChangeSpec := { name := "fnOperateRest", fn := fun _ => fun
  | [d] => { results := [.lit (.bool false)], args := [d] }
  | _ => none }
def FnOperateRestWrongFalsely : Prop := fnOperateRestRow.holds Try.pinned (OpenSpec.ofChange fnOperateRestWrong)

/-- 'laws.FnOperateDifference': WHATEVER THE INPUT: true; the input reads as it did. -/
def fnOperateDifferenceSpec : ChangeSpec := { name := "fnOperateDifference", fn := fun _ => fun
  | [d] => { results := [.lit (.bool true)], args := [d] }
  | _ => none }
def fnOperateDifferenceRow : OpenClaim := { program := "ytkokedeomdkoeab", sum := "aeaf4431c8783da46504e3893843c84b4660a1eebdf85621daeeeb8ab0182557", func := "loop.example/arraylanguage/laws.FnOperateDifference", spec := "fnOperateDifference", unfollowed := true, recurses := true, apart := false }
def FnOperateDifferenceSaid : Prop := fnOperateDifferenceRow.holds Try.pinned (OpenSpec.ofChange fnOperateDifferenceSpec)

/-- ITS FALSE NEIGHBOUR: 'it returns false'. Refute it at one input. -/
def fnOperateDifferenceWrong : ChangeSpec := { name := "fnOperateDifference", fn := fun _ => fun
  | [d] => { results := [.lit (.bool false)], args := [d] }
  | _ => none }
def FnOperateDifferenceWrongFalsely : Prop := fnOperateDifferenceRow.holds Try.pinned (OpenSpec.ofChange fnOperateDifferenceWrong)

/-- 'laws.FnNeutralOf': WHATEVER THE INPUT: true; the input reads as it did. -/
def fnNeutralOfSpec : ChangeSpec := { name := "fnNeutralOf", fn := fun _ => fun
  | [d] => { results := [.lit (.bool true)], args := [d] }
  | _ => none }
def fnNeutralOfRow : OpenClaim := { program := "ytkokedeomdkoeab", sum := "aeaf4431c8783da46504e3893843c84b4660a1eebdf85621daeeeb8ab0182557", func := "loop.example/arraylanguage/laws.FnNeutralOf", spec := "fnNeutralOf", unfollowed := true, recurses := true, apart := false }
def FnNeutralOfSaid : Prop := fnNeutralOfRow.holds Try.pinned (OpenSpec.ofChange fnNeutralOfSpec)

/-- ITS FALSE NEIGHBOUR: 'it returns false'. Refute it at one input. -/
def fnNeutralOfWrong : ChangeSpec := { name := "fnNeutralOf", fn := fun _ => fun
  | [d] => { results := [.lit (.bool false)], args := [d] }
  | _ => none }
def FnNeutralOfWrongFalsely : Prop := fnNeutralOfRow.holds Try.pinned (OpenSpec.ofChange fnNeutralOfWrong)

/- THE SECOND FORM. 'bulk': how many values and letters a reading holds, each counted each time it is reached (what is shared counts as often as it is met; a slice's spare places count too). A statement '..UptoSaid' is the law's where the arguments, and the package variables that the reading takes, are together of bulk at most 1048576: NARROWER than '..Said'. Prove '..Said' where nothing that the law and all that it calls make is longer than what came in: it says more and counts as full. Else prove '..UptoSaid'. A law counts once. -/
mutual
def uptoBulk {H : Type} : DataW H → Nat
  | .lit (.string bytes) => bytes.length + 1
  | .lit _ => 1
  | .nil => 1
  | .ptr d => uptoBulk d + 1
  | .slice elems spare => uptoBulkAll elems + uptoBulkAll spare + 1
  | .agg parts => uptoBulkAll parts + 1
  | .iface _ d => uptoBulk d + 1
  | .map entries => uptoBulkEntries entries + 1
  | .held _ => 1
def uptoBulkAll {H : Type} : List (DataW H) → Nat
  | [] => 0
  | d :: r => uptoBulk d + uptoBulkAll r
def uptoBulkEntries {H : Type} : List (Lit × DataW H) → Nat
  | [] => 0
  | x :: r => uptoBulkEntry x + uptoBulkEntries r
def uptoBulkEntry {H : Type} : Lit × DataW H → Nat
  | (.string bytes, d) => bytes.length + uptoBulk d + 1
  | (_, d) => uptoBulk d + 1
 end
def uptoSmall : (H : Type) → List (DataW H) → Bool := fun _ ds => decide (uptoBulkAll ds ≤ 1048576)
def OpenSpec.upto (s : _root_.Go.ChangeSpec) : _root_.Go.OpenSpec := { _root_.Go.OpenSpec.ofChange s with cond := some uptoSmall }

/-- 'laws.FnExactOperate', WHERE WHAT IT READS IS OF BULK AT MOST 1048576: true; the input reads as it did. -/
def fnExactOperateUptoRow : OpenClaim := { program := "ytkokedeomdkoeab", sum := "aeaf4431c8783da46504e3893843c84b4660a1eebdf85621daeeeb8ab0182557", func := "loop.example/arraylanguage/laws.FnExactOperate", spec := "fnExactOperate", unfollowed := true, recurses := true, apart := false, narrowed := true }
def FnExactOperateUptoSaid : Prop := fnExactOperateUptoRow.holds Try.pinned (OpenSpec.upto fnExactOperateSpec)

/-- 'laws.FnExactNeutralOf', WHERE WHAT IT READS IS OF BULK AT MOST 1048576: true; the input reads as it did. -/
def fnExactNeutralOfUptoRow : OpenClaim := { program := "ytkokedeomdkoeab", sum := "aeaf4431c8783da46504e3893843c84b4660a1eebdf85621daeeeb8ab0182557", func := "loop.example/arraylanguage/laws.FnExactNeutralOf", spec := "fnExactNeutralOf", apart := false, narrowed := true }
def FnExactNeutralOfUptoSaid : Prop := fnExactNeutralOfUptoRow.holds Try.pinned (OpenSpec.upto fnExactNeutralOfSpec)

/-- 'laws.FnOperate', WHERE WHAT IT READS IS OF BULK AT MOST 1048576: true; the input reads as it did. -/
def fnOperateUptoRow : OpenClaim := { program := "ytkokedeomdkoeab", sum := "aeaf4431c8783da46504e3893843c84b4660a1eebdf85621daeeeb8ab0182557", func := "loop.example/arraylanguage/laws.FnOperate", spec := "fnOperate", unfollowed := true, recurses := true, apart := false, narrowed := true }
def FnOperateUptoSaid : Prop := fnOperateUptoRow.holds Try.pinned (OpenSpec.upto fnOperateSpec)

/-- 'laws.FnOperateRest', WHERE WHAT IT READS IS OF BULK AT MOST 1048576: true; the input reads as it did. -/
def fnOperateRestUptoRow : OpenClaim := { program := "ytkokedeomdkoeab", sum := "aeaf4431c8783da46504e3893843c84b4660a1eebdf85621daeeeb8ab0182557", func := "loop.example/arraylanguage/laws.FnOperateRest", spec := "fnOperateRest", unfollowed := true, recurses := true, apart := false, narrowed := true }
def FnOperateRestUptoSaid : Prop := fnOperateRestUptoRow.holds Try.pinned (OpenSpec.upto fnOperateRestSpec)

/-- 'laws.FnOperateDifference', WHERE WHAT IT READS IS OF BULK AT MOST 1048576: true; the input reads as it did. -/
def fnOperateDifferenceUptoRow : OpenClaim := { program := "ytkokedeomdkoeab", sum := "aeaf4431c8783da46504e3893843c84b4660a1eebdf85621daeeeb8ab0182557", func := "loop.example/arraylanguage/laws.FnOperateDifference", spec := "fnOperateDifference", unfollowed := true, recurses := true, apart := false, narrowed := true }
def FnOperateDifferenceUptoSaid : Prop := fnOperateDifferenceUptoRow.holds Try.pinned (OpenSpec.upto fnOperateDifferenceSpec)

/-- 'laws.FnNeutralOf', WHERE WHAT IT READS IS OF BULK AT MOST 1048576: true; the input reads as it did. -/
def fnNeutralOfUptoRow : OpenClaim := { program := "ytkokedeomdkoeab", sum := "aeaf4431c8783da46504e3893843c84b4660a1eebdf85621daeeeb8ab0182557", func := "loop.example/arraylanguage/laws.FnNeutralOf", spec := "fnNeutralOf", unfollowed := true, recurses := true, apart := false, narrowed := true }
def FnNeutralOfUptoSaid : Prop := fnNeutralOfUptoRow.holds Try.pinned (OpenSpec.upto fnNeutralOfSpec)

end Rows
end Go.Proofs.Ytkokedeomdkoeab
