/-
  No cell of these rows narrows 'for every input' (looked for: loops, veiled, ifaces, maps, wideKeys, modest, calm, conditions, laid).
  DERIVED. THE GIVEN ROWS OF THIS SEAT. 6 by the template 'for every input the law returns true; each argument reads behind the call as it read before'; 0 by the template 'total and deterministic' (their statements: YthhapcmppafpiaaTotals.lean).
  GIVEN WITH THE SEED: the statements are not yours to turn. If you find one false, say at which input.
  Laid BY PROGRAM, IN A SANDBOX (cutbox-rows.mjs): the forced cells as the released guide's own fill.sh prints them over the translation 2ed710899381d3ed… (all of the seat's roots in one cut). By AI agents, Wed Nov 11 2026. No macro, syntax, notation, axiom, sorry.
-/
import Derived.Test.YthhapcmppafpiaaChecked
import GoSem.Claim
import GoSem.ClaimJoined
import GoSem.ClaimMapViews
import Derived.JoinedTies
import Derived.KernelRfl
namespace Go.Proofs.Ythhapcmppafpiaa
/- THE CELL 'sum', in the pinned program and in every row, IS THE sha256 OF THE DUMP (.gsa) THAT YthhapcmppafpiaaProg.lean LOADS. Nothing in Lean hashes anything: it is a label: what it is worth is what the hold of that sum in a sandbox is worth. -/
noncomputable def Try.pinned : Pinned := { name := "ythhapcmppafpiaa", sum := "2ed710899381d3edbb1b0cd7bd3cb31b2aebe409bcabae317c9d22927ef3ecce", checked := Try.checked }
namespace Rows
def none {H : Type} : Left H := { results := [], args := [] }

/-- 'laws.FnCellOf': WHATEVER THE INPUT: true; the input reads as it did. -/
def fnCellOfSpec : ChangeSpec := { name := "fnCellOf", fn := fun _ => fun
  | [d] => { results := [.lit (.bool true)], args := [d] }
  | _ => none }
def fnCellOfRow : OpenClaim := { program := "ythhapcmppafpiaa", sum := "2ed710899381d3edbb1b0cd7bd3cb31b2aebe409bcabae317c9d22927ef3ecce", func := "loop.example/arraylanguage/laws.FnCellOf", spec := "fnCellOf", apart := false }
def FnCellOfSaid : Prop := fnCellOfRow.holds Try.pinned (OpenSpec.ofChange fnCellOfSpec)

/-- ITS FALSE NEIGHBOUR: 'it returns false'. Refute it at one input. -/
def fnCellOfWrong : ChangeSpec := { name := "fnCellOf", fn := fun _ => fun
  | [d] => { results := [.lit (.bool false)], args := [d] }
  | _ => none }
def FnCellOfWrongFalsely : Prop := fnCellOfRow.holds Try.pinned (OpenSpec.ofChange fnCellOfWrong)

/-- 'laws.FnCellOfTake': WHATEVER THE INPUT: true; the input reads as it did. -/
def fnCellOfTakeSpec : ChangeSpec := { name := "fnCellOfTake", fn := fun _ => fun
  | [d] => { results := [.lit (.bool true)], args := [d] }
  | _ => none }
def fnCellOfTakeRow : OpenClaim := { program := "ythhapcmppafpiaa", sum := "2ed710899381d3edbb1b0cd7bd3cb31b2aebe409bcabae317c9d22927ef3ecce", func := "loop.example/arraylanguage/laws.FnCellOfTake", spec := "fnCellOfTake", unfollowed := true, recurses := true, apart := false }
def FnCellOfTakeSaid : Prop := fnCellOfTakeRow.holds Try.pinned (OpenSpec.ofChange fnCellOfTakeSpec)

/-- ITS FALSE NEIGHBOUR: 'it returns false'. Refute it at one input. -/
def fnCellOfTakeWrong : ChangeSpec := { name := "fnCellOfTake", fn := fun _ => fun
  | [d] => { results := [.lit (.bool false)], args := [d] }
  | _ => none }
def FnCellOfTakeWrongFalsely : Prop := fnCellOfTakeRow.holds Try.pinned (OpenSpec.ofChange fnCellOfTakeWrong)

/-- 'laws.FnReduceAxisCells': WHATEVER THE INPUT: true; the input reads as it did. -/
def fnReduceAxisCellsSpec : ChangeSpec := { name := "fnReduceAxisCells", fn := fun _ => fun
  | [d] => { results := [.lit (.bool true)], args := [d] }
  | _ => none }
def fnReduceAxisCellsRow : OpenClaim := { program := "ythhapcmppafpiaa", sum := "2ed710899381d3edbb1b0cd7bd3cb31b2aebe409bcabae317c9d22927ef3ecce", func := "loop.example/arraylanguage/laws.FnReduceAxisCells", spec := "fnReduceAxisCells", unfollowed := true, recurses := true, apart := false }
def FnReduceAxisCellsSaid : Prop := fnReduceAxisCellsRow.holds Try.pinned (OpenSpec.ofChange fnReduceAxisCellsSpec)

/-- ITS FALSE NEIGHBOUR: 'it returns false'. Refute it at one input. -/
def fnReduceAxisCellsWrong : ChangeSpec := { name := "fnReduceAxisCells", fn := fun _ => fun
  | [d] => { results := [.lit (.bool false)], args := [d] }
  | _ => none }
def FnReduceAxisCellsWrongFalsely : Prop := fnReduceAxisCellsRow.holds Try.pinned (OpenSpec.ofChange fnReduceAxisCellsWrong)

/-- 'laws.FnReduceAxisJoin': WHATEVER THE INPUT: true; the input reads as it did. -/
def fnReduceAxisJoinSpec : ChangeSpec := { name := "fnReduceAxisJoin", fn := fun _ => fun
  | [d] => { results := [.lit (.bool true)], args := [d] }
  | _ => none }
def fnReduceAxisJoinRow : OpenClaim := { program := "ythhapcmppafpiaa", sum := "2ed710899381d3edbb1b0cd7bd3cb31b2aebe409bcabae317c9d22927ef3ecce", func := "loop.example/arraylanguage/laws.FnReduceAxisJoin", spec := "fnReduceAxisJoin", unfollowed := true, recurses := true, apart := false }
def FnReduceAxisJoinSaid : Prop := fnReduceAxisJoinRow.holds Try.pinned (OpenSpec.ofChange fnReduceAxisJoinSpec)

/-- ITS FALSE NEIGHBOUR: 'it returns false'. Refute it at one input. -/
def fnReduceAxisJoinWrong : ChangeSpec := { name := "fnReduceAxisJoin", fn := fun _ => fun
  | [d] => { results := [.lit (.bool false)], args := [d] }
  | _ => none }
def FnReduceAxisJoinWrongFalsely : Prop := fnReduceAxisJoinRow.holds Try.pinned (OpenSpec.ofChange fnReduceAxisJoinWrong)

/-- 'laws.FnInnerProductRows': WHATEVER THE INPUT: true; the input reads as it did. -/
def fnInnerProductRowsSpec : ChangeSpec := { name := "fnInnerProductRows", fn := fun _ => fun
  | [d] => { results := [.lit (.bool true)], args := [d] }
  | _ => none }
def fnInnerProductRowsRow : OpenClaim := { program := "ythhapcmppafpiaa", sum := "2ed710899381d3edbb1b0cd7bd3cb31b2aebe409bcabae317c9d22927ef3ecce", func := "loop.example/arraylanguage/laws.FnInnerProductRows", spec := "fnInnerProductRows", unfollowed := true, recurses := true, apart := false }
def FnInnerProductRowsSaid : Prop := fnInnerProductRowsRow.holds Try.pinned (OpenSpec.ofChange fnInnerProductRowsSpec)

/-- ITS FALSE NEIGHBOUR: 'it returns false'. Refute it at one input. -/
def fnInnerProductRowsWrong : ChangeSpec := { name := "fnInnerProductRows", fn := fun _ => fun
  | [d] => { results := [.lit (.bool false)], args := [d] }
  | _ => none }
def FnInnerProductRowsWrongFalsely : Prop := fnInnerProductRowsRow.holds Try.pinned (OpenSpec.ofChange fnInnerProductRowsWrong)

/-- 'laws.FnRepeatAxis': WHATEVER THE INPUT: true; the input reads as it did. -/
def fnRepeatAxisSpec : ChangeSpec := { name := "fnRepeatAxis", fn := fun _ => fun
  | [d] => { results := [.lit (.bool true)], args := [d] }
  | _ => none }
def fnRepeatAxisRow : OpenClaim := { program := "ythhapcmppafpiaa", sum := "2ed710899381d3edbb1b0cd7bd3cb31b2aebe409bcabae317c9d22927ef3ecce", func := "loop.example/arraylanguage/laws.FnRepeatAxis", spec := "fnRepeatAxis", unfollowed := true, recurses := true, apart := false }
def FnRepeatAxisSaid : Prop := fnRepeatAxisRow.holds Try.pinned (OpenSpec.ofChange fnRepeatAxisSpec)

/-- ITS FALSE NEIGHBOUR: 'it returns false'. Refute it at one input. -/
def fnRepeatAxisWrong : ChangeSpec := { name := "fnRepeatAxis", fn := fun _ => fun
  | [d] => { results := [.lit (.bool false)], args := [d] }
  | _ => none }
def FnRepeatAxisWrongFalsely : Prop := fnRepeatAxisRow.holds Try.pinned (OpenSpec.ofChange fnRepeatAxisWrong)

/- THE SECOND FORM. 'bulk': how many values and letters a reading holds, each counted each time it is reached (what is shared counts as often as it is met; a slice's spare places count too). A statement '..UptoSaid' is the law's where the arguments, and the package variables that the reading takes, are together of bulk at most 1048576: NARROWER than '..Said'. Prove '..Said' where nothing that the law and all that it calls make is longer than what came in: it says more and counts as full. Else prove '..UptoSaid'. A law counts once. -/
mutual
def uptoBulk {H : Type} : DataW H → Nat
  | .lit (.string bytes) => bytes.length + 1
  | .lit _ => 1
  | .nil => 1
  | .ptr d => uptoBulk d + 1
  | .slice elems spare => uptoBulkAll elems + uptoBulkAll spare + 1
  | .agg parts => uptoBulkAll parts + 1
  | .iface _ d => uptoBulk d + 1
  | .map entries => uptoBulkEntries entries + 1
  | .held _ => 1
def uptoBulkAll {H : Type} : List (DataW H) → Nat
  | [] => 0
  | d :: r => uptoBulk d + uptoBulkAll r
def uptoBulkEntries {H : Type} : List (Lit × DataW H) → Nat
  | [] => 0
  | x :: r => uptoBulkEntry x + uptoBulkEntries r
def uptoBulkEntry {H : Type} : Lit × DataW H → Nat
  | (.string bytes, d) => bytes.length + uptoBulk d + 1
  | (_, d) => uptoBulk d + 1
 end
def uptoSmall : (H : Type) → List (DataW H) → Bool := fun _ ds => decide (uptoBulkAll ds ≤ 1048576)
def OpenSpec.upto (s : _root_.Go.ChangeSpec) : _root_.Go.OpenSpec := { _root_.Go.OpenSpec.ofChange s with cond := some uptoSmall }

/-- 'laws.FnCellOf', WHERE WHAT IT READS IS OF BULK AT MOST 1048576: true; the input reads as it did. -/
def fnCellOfUptoRow : OpenClaim := { program := "ythhapcmppafpiaa", sum := "2ed710899381d3edbb1b0cd7bd3cb31b2aebe409bcabae317c9d22927ef3ecce", func := "loop.example/arraylanguage/laws.FnCellOf", spec := "fnCellOf", apart := false, narrowed := true }
def FnCellOfUptoSaid : Prop := fnCellOfUptoRow.holds Try.pinned (OpenSpec.upto fnCellOfSpec)

/-- 'laws.FnCellOfTake', WHERE WHAT IT READS IS OF BULK AT MOST 1048576: true; the input reads as it did. -/
def fnCellOfTakeUptoRow : OpenClaim := { program := "ythhapcmppafpiaa", sum := "2ed710899381d3edbb1b0cd7bd3cb31b2aebe409bcabae317c9d22927ef3ecce", func := "loop.example/arraylanguage/laws.FnCellOfTake", spec := "fnCellOfTake", unfollowed := true, recurses := true, apart := false, narrowed := true }
def FnCellOfTakeUptoSaid : Prop := fnCellOfTakeUptoRow.holds Try.pinned (OpenSpec.upto fnCellOfTakeSpec)

/-- 'laws.FnReduceAxisCells', WHERE WHAT IT READS IS OF BULK AT MOST 1048576: true; the input reads as it did. -/
def fnReduceAxisCellsUptoRow : OpenClaim := { program := "ythhapcmppafpiaa", sum := "2ed710899381d3edbb1b0cd7bd3cb31b2aebe409bcabae317c9d22927ef3ecce", func := "loop.example/arraylanguage/laws.FnReduceAxisCells", spec := "fnReduceAxisCells", unfollowed := true, recurses := true, apart := false, narrowed := true }
def FnReduceAxisCellsUptoSaid : Prop := fnReduceAxisCellsUptoRow.holds Try.pinned (OpenSpec.upto fnReduceAxisCellsSpec)

/-- 'laws.FnReduceAxisJoin', WHERE WHAT IT READS IS OF BULK AT MOST 1048576: true; the input reads as it did. -/
def fnReduceAxisJoinUptoRow : OpenClaim := { program := "ythhapcmppafpiaa", sum := "2ed710899381d3edbb1b0cd7bd3cb31b2aebe409bcabae317c9d22927ef3ecce", func := "loop.example/arraylanguage/laws.FnReduceAxisJoin", spec := "fnReduceAxisJoin", unfollowed := true, recurses := true, apart := false, narrowed := true }
def FnReduceAxisJoinUptoSaid : Prop := fnReduceAxisJoinUptoRow.holds Try.pinned (OpenSpec.upto fnReduceAxisJoinSpec)

/-- 'laws.FnInnerProductRows', WHERE WHAT IT READS IS OF BULK AT MOST 1048576: true; the input reads as it did. -/
def fnInnerProductRowsUptoRow : OpenClaim := { program := "ythhapcmppafpiaa", sum := "2ed710899381d3edbb1b0cd7bd3cb31b2aebe409bcabae317c9d22927ef3ecce", func := "loop.example/arraylanguage/laws.FnInnerProductRows", spec := "fnInnerProductRows", unfollowed := true, recurses := true, apart := false, narrowed := true }
def FnInnerProductRowsUptoSaid : Prop := fnInnerProductRowsUptoRow.holds Try.pinned (OpenSpec.upto fnInnerProductRowsSpec)

/-- 'laws.FnRepeatAxis', WHERE WHAT IT READS IS OF BULK AT MOST 1048576: true; the input reads as it did. -/
def fnRepeatAxisUptoRow : OpenClaim := { program := "ythhapcmppafpiaa", sum := "2ed710899381d3edbb1b0cd7bd3cb31b2aebe409bcabae317c9d22927ef3ecce", func := "loop.example/arraylanguage/laws.FnRepeatAxis", spec := "fnRepeatAxis", unfollowed := true, recurses := true, apart := false, narrowed := true }
def FnRepeatAxisUptoSaid : Prop := fnRepeatAxisUptoRow.holds Try.pinned (OpenSpec.upto fnRepeatAxisSpec)

end Rows
end Go.Proofs.Ythhapcmppafpiaa
