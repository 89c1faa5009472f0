/-
  No cell of these rows narrows 'for every input' (looked for: loops, veiled, ifaces, maps, wideKeys, modest, calm, conditions, laid).
  DERIVED. THE GIVEN ROWS OF THIS SEAT. 6 by the template 'for every input the law returns true; each argument reads behind the call as it read before'; 0 by the template 'total and deterministic' (their statements: YtokdoghgibahkacTotals.lean).
  GIVEN WITH THE SEED: the statements are not yours to turn. If you find one false, say at which input.
  Laid BY PROGRAM, IN A SANDBOX (cutbox-rows.mjs): the forced cells as the released guide's own fill.sh prints them over the translation 2564a4dafec3336b… (all of the seat's roots in one cut). By AI agents, Wed Nov 11 2026. No macro, syntax, notation, axiom, sorry.
-/
import Derived.Test.YtokdoghgibahkacChecked
import GoSem.Claim
import GoSem.ClaimJoined
import GoSem.ClaimMapViews
import Derived.JoinedTies
import Derived.KernelRfl
namespace Go.Proofs.Ytokdoghgibahkac
/- THE CELL 'sum', in the pinned program and in every row, IS THE sha256 OF THE DUMP (.gsa) THAT YtokdoghgibahkacProg.lean LOADS. Nothing in Lean hashes anything: it is a label: what it is worth is what the hold of that sum in a sandbox is worth. -/
noncomputable def Try.pinned : Pinned := { name := "ytokdoghgibahkac", sum := "2564a4dafec3336befc75c3d8f1b5493252461ce973051a93a92f1bb602765ed", checked := Try.checked }
namespace Rows
def none {H : Type} : Left H := { results := [], args := [] }

/-- 'laws.FnReverseAxis': WHATEVER THE INPUT: true; the input reads as it did. -/
def fnReverseAxisSpec : ChangeSpec := { name := "fnReverseAxis", fn := fun _ => fun
  | [d] => { results := [.lit (.bool true)], args := [d] }
  | _ => none }
def fnReverseAxisRow : OpenClaim := { program := "ytokdoghgibahkac", sum := "2564a4dafec3336befc75c3d8f1b5493252461ce973051a93a92f1bb602765ed", func := "loop.example/arraylanguage/laws.FnReverseAxis", spec := "fnReverseAxis", unfollowed := true, recurses := true, apart := false }
def FnReverseAxisSaid : Prop := fnReverseAxisRow.holds Try.pinned (OpenSpec.ofChange fnReverseAxisSpec)

/-- ITS FALSE NEIGHBOUR: 'it returns false'. Refute it at one input. -/
def fnReverseAxisWrong : ChangeSpec := { name := "fnReverseAxis", fn := fun _ => fun
  | [d] => { results := [.lit (.bool false)], args := [d] }
  | _ => none }
def FnReverseAxisWrongFalsely : Prop := fnReverseAxisRow.holds Try.pinned (OpenSpec.ofChange fnReverseAxisWrong)

/-- 'laws.FnReverseAxisTwo': WHATEVER THE INPUT: true; the input reads as it did. -/
def fnReverseAxisTwoSpec : ChangeSpec := { name := "fnReverseAxisTwo", fn := fun _ => fun
  | [d] => { results := [.lit (.bool true)], args := [d] }
  | _ => none }
def fnReverseAxisTwoRow : OpenClaim := { program := "ytokdoghgibahkac", sum := "2564a4dafec3336befc75c3d8f1b5493252461ce973051a93a92f1bb602765ed", func := "loop.example/arraylanguage/laws.FnReverseAxisTwo", spec := "fnReverseAxisTwo", unfollowed := true, recurses := true, apart := false }
def FnReverseAxisTwoSaid : Prop := fnReverseAxisTwoRow.holds Try.pinned (OpenSpec.ofChange fnReverseAxisTwoSpec)

/-- ITS FALSE NEIGHBOUR: 'it returns false'. Refute it at one input. -/
def fnReverseAxisTwoWrong : ChangeSpec := { name := "fnReverseAxisTwo", fn := fun _ => fun
  | [d] => { results := [.lit (.bool false)], args := [d] }
  | _ => none }
def FnReverseAxisTwoWrongFalsely : Prop := fnReverseAxisTwoRow.holds Try.pinned (OpenSpec.ofChange fnReverseAxisTwoWrong)

/-- 'laws.FnRotateAxis': WHATEVER THE INPUT: true; the input reads as it did. -/
def fnRotateAxisSpec : ChangeSpec := { name := "fnRotateAxis", fn := fun _ => fun
  | [d] => { results := [.lit (.bool true)], args := [d] }
  | _ => none }
def fnRotateAxisRow : OpenClaim := { program := "ytokdoghgibahkac", sum := "2564a4dafec3336befc75c3d8f1b5493252461ce973051a93a92f1bb602765ed", func := "loop.example/arraylanguage/laws.FnRotateAxis", spec := "fnRotateAxis", unfollowed := true, recurses := true, apart := false }
def FnRotateAxisSaid : Prop := fnRotateAxisRow.holds Try.pinned (OpenSpec.ofChange fnRotateAxisSpec)

/-- ITS FALSE NEIGHBOUR: 'it returns false'. Refute it at one input. -/
def fnRotateAxisWrong : ChangeSpec := { name := "fnRotateAxis", fn := fun _ => fun
  | [d] => { results := [.lit (.bool false)], args := [d] }
  | _ => none }
def FnRotateAxisWrongFalsely : Prop := fnRotateAxisRow.holds Try.pinned (OpenSpec.ofChange fnRotateAxisWrong)

/-- 'laws.FnRotateAxisSum': WHATEVER THE INPUT: true; the input reads as it did. -/
def fnRotateAxisSumSpec : ChangeSpec := { name := "fnRotateAxisSum", fn := fun _ => fun
  | [d] => { results := [.lit (.bool true)], args := [d] }
  | _ => none }
def fnRotateAxisSumRow : OpenClaim := { program := "ytokdoghgibahkac", sum := "2564a4dafec3336befc75c3d8f1b5493252461ce973051a93a92f1bb602765ed", func := "loop.example/arraylanguage/laws.FnRotateAxisSum", spec := "fnRotateAxisSum", unfollowed := true, recurses := true, apart := false }
def FnRotateAxisSumSaid : Prop := fnRotateAxisSumRow.holds Try.pinned (OpenSpec.ofChange fnRotateAxisSumSpec)

/-- ITS FALSE NEIGHBOUR: 'it returns false'. Refute it at one input. -/
def fnRotateAxisSumWrong : ChangeSpec := { name := "fnRotateAxisSum", fn := fun _ => fun
  | [d] => { results := [.lit (.bool false)], args := [d] }
  | _ => none }
def FnRotateAxisSumWrongFalsely : Prop := fnRotateAxisSumRow.holds Try.pinned (OpenSpec.ofChange fnRotateAxisSumWrong)

/-- 'laws.FnRotateAxisReverse': WHATEVER THE INPUT: true; the input reads as it did. -/
def fnRotateAxisReverseSpec : ChangeSpec := { name := "fnRotateAxisReverse", fn := fun _ => fun
  | [d] => { results := [.lit (.bool true)], args := [d] }
  | _ => none }
def fnRotateAxisReverseRow : OpenClaim := { program := "ytokdoghgibahkac", sum := "2564a4dafec3336befc75c3d8f1b5493252461ce973051a93a92f1bb602765ed", func := "loop.example/arraylanguage/laws.FnRotateAxisReverse", spec := "fnRotateAxisReverse", unfollowed := true, recurses := true, apart := false }
def FnRotateAxisReverseSaid : Prop := fnRotateAxisReverseRow.holds Try.pinned (OpenSpec.ofChange fnRotateAxisReverseSpec)

/-- ITS FALSE NEIGHBOUR: 'it returns false'. Refute it at one input. -/
def fnRotateAxisReverseWrong : ChangeSpec := { name := "fnRotateAxisReverse", fn := fun _ => fun
  | [d] => { results := [.lit (.bool false)], args := [d] }
  | _ => none }
def FnRotateAxisReverseWrongFalsely : Prop := fnRotateAxisReverseRow.holds Try.pinned (OpenSpec.ofChange fnRotateAxisReverseWrong)

/-- 'laws.FnTakeAxisTwice': WHATEVER THE INPUT: true; the input reads as it did. -/
def fnTakeAxisTwiceSpec : ChangeSpec := { name := "fnTakeAxisTwice", fn := fun _ => fun
  | [d] => { results := [.lit (.bool true)], args := [d] }
  | _ => none }
def fnTakeAxisTwiceRow : OpenClaim := { program := "ytokdoghgibahkac", sum := "2564a4dafec3336befc75c3d8f1b5493252461ce973051a93a92f1bb602765ed", func := "loop.example/arraylanguage/laws.FnTakeAxisTwice", spec := "fnTakeAxisTwice", unfollowed := true, recurses := true, apart := false }
def FnTakeAxisTwiceSaid : Prop := fnTakeAxisTwiceRow.holds Try.pinned (OpenSpec.ofChange fnTakeAxisTwiceSpec)

/-- ITS FALSE NEIGHBOUR: 'it returns false'. Refute it at one input. -/
def fnTakeAxisTwiceWrong : ChangeSpec := { name := "fnTakeAxisTwice", fn := fun _ => fun
  | [d] => { results := [.lit (.bool false)], args := [d] }
  | _ => none }
def FnTakeAxisTwiceWrongFalsely : Prop := fnTakeAxisTwiceRow.holds Try.pinned (OpenSpec.ofChange fnTakeAxisTwiceWrong)

/- THE SECOND FORM. 'bulk': how many values and letters a reading holds, each counted each time it is reached (what is shared counts as often as it is met; a slice's spare places count too). A statement '..UptoSaid' is the law's where the arguments, and the package variables that the reading takes, are together of bulk at most 1048576: NARROWER than '..Said'. Prove '..Said' where nothing that the law and all that it calls make is longer than what came in: it says more and counts as full. Else prove '..UptoSaid'. A law counts once. -/
mutual
def uptoBulk {H : Type} : DataW H → Nat
  | .lit (.string bytes) => bytes.length + 1
  | .lit _ => 1
  | .nil => 1
  | .ptr d => uptoBulk d + 1
  | .slice elems spare => uptoBulkAll elems + uptoBulkAll spare + 1
  | .agg parts => uptoBulkAll parts + 1
  | .iface _ d => uptoBulk d + 1
  | .map entries => uptoBulkEntries entries + 1
  | .held _ => 1
def uptoBulkAll {H : Type} : List (DataW H) → Nat
  | [] => 0
  | d :: r => uptoBulk d + uptoBulkAll r
def uptoBulkEntries {H : Type} : List (Lit × DataW H) → Nat
  | [] => 0
  | x :: r => uptoBulkEntry x + uptoBulkEntries r
def uptoBulkEntry {H : Type} : Lit × DataW H → Nat
  | (.string bytes, d) => bytes.length + uptoBulk d + 1
  | (_, d) => uptoBulk d + 1
 end
def uptoSmall : (H : Type) → List (DataW H) → Bool := fun _ ds => decide (uptoBulkAll ds ≤ 1048576)
def OpenSpec.upto (s : _root_.Go.ChangeSpec) : _root_.Go.OpenSpec := { _root_.Go.OpenSpec.ofChange s with cond := some uptoSmall }

/-- 'laws.FnReverseAxis', WHERE WHAT IT READS IS OF BULK AT MOST 1048576: true; the input reads as it did. -/
def fnReverseAxisUptoRow : OpenClaim := { program := "ytokdoghgibahkac", sum := "2564a4dafec3336befc75c3d8f1b5493252461ce973051a93a92f1bb602765ed", func := "loop.example/arraylanguage/laws.FnReverseAxis", spec := "fnReverseAxis", unfollowed := true, recurses := true, apart := false, narrowed := true }
def FnReverseAxisUptoSaid : Prop := fnReverseAxisUptoRow.holds Try.pinned (OpenSpec.upto fnReverseAxisSpec)

/-- 'laws.FnReverseAxisTwo', WHERE WHAT IT READS IS OF BULK AT MOST 1048576: true; the input reads as it did. -/
def fnReverseAxisTwoUptoRow : OpenClaim := { program := "ytokdoghgibahkac", sum := "2564a4dafec3336befc75c3d8f1b5493252461ce973051a93a92f1bb602765ed", func := "loop.example/arraylanguage/laws.FnReverseAxisTwo", spec := "fnReverseAxisTwo", unfollowed := true, recurses := true, apart := false, narrowed := true }
def FnReverseAxisTwoUptoSaid : Prop := fnReverseAxisTwoUptoRow.holds Try.pinned (OpenSpec.upto fnReverseAxisTwoSpec)

/-- 'laws.FnRotateAxis', WHERE WHAT IT READS IS OF BULK AT MOST 1048576: true; the input reads as it did. -/
def fnRotateAxisUptoRow : OpenClaim := { program := "ytokdoghgibahkac", sum := "2564a4dafec3336befc75c3d8f1b5493252461ce973051a93a92f1bb602765ed", func := "loop.example/arraylanguage/laws.FnRotateAxis", spec := "fnRotateAxis", unfollowed := true, recurses := true, apart := false, narrowed := true }
def FnRotateAxisUptoSaid : Prop := fnRotateAxisUptoRow.holds Try.pinned (OpenSpec.upto fnRotateAxisSpec)

/-- 'laws.FnRotateAxisSum', WHERE WHAT IT READS IS OF BULK AT MOST 1048576: true; the input reads as it did. -/
def fnRotateAxisSumUptoRow : OpenClaim := { program := "ytokdoghgibahkac", sum := "2564a4dafec3336befc75c3d8f1b5493252461ce973051a93a92f1bb602765ed", func := "loop.example/arraylanguage/laws.FnRotateAxisSum", spec := "fnRotateAxisSum", unfollowed := true, recurses := true, apart := false, narrowed := true }
def FnRotateAxisSumUptoSaid : Prop := fnRotateAxisSumUptoRow.holds Try.pinned (OpenSpec.upto fnRotateAxisSumSpec)

/-- 'laws.FnRotateAxisReverse', WHERE WHAT IT READS IS OF BULK AT MOST 1048576: true; the input reads as it did. -/
def fnRotateAxisReverseUptoRow : OpenClaim := { program := "ytokdoghgibahkac", sum := "2564a4dafec3336befc75c3d8f1b5493252461ce973051a93a92f1bb602765ed", func := "loop.example/arraylanguage/laws.FnRotateAxisReverse", spec := "fnRotateAxisReverse", unfollowed := true, recurses := true, apart := false, narrowed := true }
def FnRotateAxisReverseUptoSaid : Prop := fnRotateAxisReverseUptoRow.holds Try.pinned (OpenSpec.upto fnRotateAxisReverseSpec)

/-- 'laws.FnTakeAxisTwice', WHERE WHAT IT READS IS OF BULK AT MOST 1048576: true; the input reads as it did. -/
def fnTakeAxisTwiceUptoRow : OpenClaim := { program := "ytokdoghgibahkac", sum := "2564a4dafec3336befc75c3d8f1b5493252461ce973051a93a92f1bb602765ed", func := "loop.example/arraylanguage/laws.FnTakeAxisTwice", spec := "fnTakeAxisTwice", unfollowed := true, recurses := true, apart := false, narrowed := true }
def FnTakeAxisTwiceUptoSaid : Prop := fnTakeAxisTwiceUptoRow.holds Try.pinned (OpenSpec.upto fnTakeAxisTwiceSpec)

end Rows
end Go.Proofs.Ytokdoghgibahkac
