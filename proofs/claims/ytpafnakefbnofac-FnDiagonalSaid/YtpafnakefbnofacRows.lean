/-
  No cell of these rows narrows 'for every input' (looked for: loops, veiled, ifaces, maps, wideKeys, modest, calm, conditions, laid).
  DERIVED. THE GIVEN ROWS OF THIS SEAT. 6 by the template 'for every input the law returns true; each argument reads behind the call as it read before'; 0 by the template 'total and deterministic' (their statements: YtpafnakefbnofacTotals.lean).
  GIVEN WITH THE SEED: the statements are not yours to turn. If you find one false, say at which input.
  Laid BY PROGRAM, IN A SANDBOX (cutbox-rows.mjs): the forced cells as the released guide's own fill.sh prints them over the translation 3fa5964d3995dcc7… (all of the seat's roots in one cut). By AI agents, Wed Nov 11 2026. No macro, syntax, notation, axiom, sorry.
-/
import Derived.Test.YtpafnakefbnofacChecked
import GoSem.Claim
import GoSem.ClaimJoined
import GoSem.ClaimMapViews
import Derived.JoinedTies
import Derived.KernelRfl
namespace Go.Proofs.Ytpafnakefbnofac
/- THE CELL 'sum', in the pinned program and in every row, IS THE sha256 OF THE DUMP (.gsa) THAT YtpafnakefbnofacProg.lean LOADS. Nothing in Lean hashes anything: it is a label: what it is worth is what the hold of that sum in a sandbox is worth. -/
noncomputable def Try.pinned : Pinned := { name := "ytpafnakefbnofac", sum := "3fa5964d3995dcc787d16d813fb6d9e3978c3759852d92eeecb29a2c9f19d36c", checked := Try.checked }
namespace Rows
def none {H : Type} : Left H := { results := [], args := [] }

/-- 'laws.FnTakeAxisEnd': WHATEVER THE INPUT: true; the input reads as it did. -/
def fnTakeAxisEndSpec : ChangeSpec := { name := "fnTakeAxisEnd", fn := fun _ => fun
  | [d] => { results := [.lit (.bool true)], args := [d] }
  | _ => none }
def fnTakeAxisEndRow : OpenClaim := { program := "ytpafnakefbnofac", sum := "3fa5964d3995dcc787d16d813fb6d9e3978c3759852d92eeecb29a2c9f19d36c", func := "loop.example/arraylanguage/laws.FnTakeAxisEnd", spec := "fnTakeAxisEnd", unfollowed := true, recurses := true, apart := false }
def FnTakeAxisEndSaid : Prop := fnTakeAxisEndRow.holds Try.pinned (OpenSpec.ofChange fnTakeAxisEndSpec)

/-- ITS FALSE NEIGHBOUR: 'it returns false'. Refute it at one input. -/
def fnTakeAxisEndWrong : ChangeSpec := { name := "fnTakeAxisEnd", fn := fun _ => fun
  | [d] => { results := [.lit (.bool false)], args := [d] }
  | _ => none }
def FnTakeAxisEndWrongFalsely : Prop := fnTakeAxisEndRow.holds Try.pinned (OpenSpec.ofChange fnTakeAxisEndWrong)

/-- 'laws.FnTakeAxisLong': WHATEVER THE INPUT: true; the input reads as it did. -/
def fnTakeAxisLongSpec : ChangeSpec := { name := "fnTakeAxisLong", fn := fun _ => fun
  | [d] => { results := [.lit (.bool true)], args := [d] }
  | _ => none }
def fnTakeAxisLongRow : OpenClaim := { program := "ytpafnakefbnofac", sum := "3fa5964d3995dcc787d16d813fb6d9e3978c3759852d92eeecb29a2c9f19d36c", func := "loop.example/arraylanguage/laws.FnTakeAxisLong", spec := "fnTakeAxisLong", unfollowed := true, recurses := true, apart := false }
def FnTakeAxisLongSaid : Prop := fnTakeAxisLongRow.holds Try.pinned (OpenSpec.ofChange fnTakeAxisLongSpec)

/-- ITS FALSE NEIGHBOUR: 'it returns false'. Refute it at one input. -/
def fnTakeAxisLongWrong : ChangeSpec := { name := "fnTakeAxisLong", fn := fun _ => fun
  | [d] => { results := [.lit (.bool false)], args := [d] }
  | _ => none }
def FnTakeAxisLongWrongFalsely : Prop := fnTakeAxisLongRow.holds Try.pinned (OpenSpec.ofChange fnTakeAxisLongWrong)

/-- 'laws.FnDropAxis': WHATEVER THE INPUT: true; the input reads as it did. -/
def fnDropAxisSpec : ChangeSpec := { name := "fnDropAxis", fn := fun _ => fun
  | [d] => { results := [.lit (.bool true)], args := [d] }
  | _ => none }
def fnDropAxisRow : OpenClaim := { program := "ytpafnakefbnofac", sum := "3fa5964d3995dcc787d16d813fb6d9e3978c3759852d92eeecb29a2c9f19d36c", func := "loop.example/arraylanguage/laws.FnDropAxis", spec := "fnDropAxis", unfollowed := true, recurses := true, apart := false }
def FnDropAxisSaid : Prop := fnDropAxisRow.holds Try.pinned (OpenSpec.ofChange fnDropAxisSpec)

/-- ITS FALSE NEIGHBOUR: 'it returns false'. Refute it at one input. -/
def fnDropAxisWrong : ChangeSpec := { name := "fnDropAxis", fn := fun _ => fun
  | [d] => { results := [.lit (.bool false)], args := [d] }
  | _ => none }
def FnDropAxisWrongFalsely : Prop := fnDropAxisRow.holds Try.pinned (OpenSpec.ofChange fnDropAxisWrong)

/-- 'laws.FnDropAxisAll': WHATEVER THE INPUT: true; the input reads as it did. -/
def fnDropAxisAllSpec : ChangeSpec := { name := "fnDropAxisAll", fn := fun _ => fun
  | [d] => { results := [.lit (.bool true)], args := [d] }
  | _ => none }
def fnDropAxisAllRow : OpenClaim := { program := "ytpafnakefbnofac", sum := "3fa5964d3995dcc787d16d813fb6d9e3978c3759852d92eeecb29a2c9f19d36c", func := "loop.example/arraylanguage/laws.FnDropAxisAll", spec := "fnDropAxisAll", unfollowed := true, recurses := true, apart := false }
def FnDropAxisAllSaid : Prop := fnDropAxisAllRow.holds Try.pinned (OpenSpec.ofChange fnDropAxisAllSpec)

/-- ITS FALSE NEIGHBOUR: 'it returns false'. Refute it at one input. -/
def fnDropAxisAllWrong : ChangeSpec := { name := "fnDropAxisAll", fn := fun _ => fun
  | [d] => { results := [.lit (.bool false)], args := [d] }
  | _ => none }
def FnDropAxisAllWrongFalsely : Prop := fnDropAxisAllRow.holds Try.pinned (OpenSpec.ofChange fnDropAxisAllWrong)

/-- 'laws.FnDiagonal': WHATEVER THE INPUT: true; the input reads as it did. -/
def fnDiagonalSpec : ChangeSpec := { name := "fnDiagonal", fn := fun _ => fun
  | [d] => { results := [.lit (.bool true)], args := [d] }
  | _ => none }
def fnDiagonalRow : OpenClaim := { program := "ytpafnakefbnofac", sum := "3fa5964d3995dcc787d16d813fb6d9e3978c3759852d92eeecb29a2c9f19d36c", func := "loop.example/arraylanguage/laws.FnDiagonal", spec := "fnDiagonal", unfollowed := true, recurses := true, apart := false }
def FnDiagonalSaid : Prop := fnDiagonalRow.holds Try.pinned (OpenSpec.ofChange fnDiagonalSpec)

/-- ITS FALSE NEIGHBOUR: 'it returns false'. Refute it at one input. -/
def fnDiagonalWrong : ChangeSpec := { name := "fnDiagonal", fn := fun _ => fun
  | [d] => { results := [.lit (.bool false)], args := [d] }
  | _ => none }
def FnDiagonalWrongFalsely : Prop := fnDiagonalRow.holds Try.pinned (OpenSpec.ofChange fnDiagonalWrong)

/-- 'laws.FnExactItemAt': WHATEVER THE INPUT: true; the input reads as it did. -/
def fnExactItemAtSpec : ChangeSpec := { name := "fnExactItemAt", fn := fun _ => fun
  | [d1, d2] => { results := [.lit (.bool true)], args := [d1, d2] }
  | _ => none }
def fnExactItemAtRow : OpenClaim := { program := "ytpafnakefbnofac", sum := "3fa5964d3995dcc787d16d813fb6d9e3978c3759852d92eeecb29a2c9f19d36c", func := "loop.example/arraylanguage/laws.FnExactItemAt", spec := "fnExactItemAt", apart := false }
def FnExactItemAtSaid : Prop := fnExactItemAtRow.holds Try.pinned (OpenSpec.ofChange fnExactItemAtSpec)

/-- ITS FALSE NEIGHBOUR: 'it returns false'. Refute it at one input. -/
def fnExactItemAtWrong : ChangeSpec := { name := "fnExactItemAt", fn := fun _ => fun
  | [d1, d2] => { results := [.lit (.bool false)], args := [d1, d2] }
  | _ => none }
def FnExactItemAtWrongFalsely : Prop := fnExactItemAtRow.holds Try.pinned (OpenSpec.ofChange fnExactItemAtWrong)

/- THE SECOND FORM. 'bulk': how many values and letters a reading holds, each counted each time it is reached (what is shared counts as often as it is met; a slice's spare places count too). A statement '..UptoSaid' is the law's where the arguments, and the package variables that the reading takes, are together of bulk at most 1048576: NARROWER than '..Said'. Prove '..Said' where nothing that the law and all that it calls make is longer than what came in: it says more and counts as full. Else prove '..UptoSaid'. A law counts once. -/
mutual
def uptoBulk {H : Type} : DataW H → Nat
  | .lit (.string bytes) => bytes.length + 1
  | .lit _ => 1
  | .nil => 1
  | .ptr d => uptoBulk d + 1
  | .slice elems spare => uptoBulkAll elems + uptoBulkAll spare + 1
  | .agg parts => uptoBulkAll parts + 1
  | .iface _ d => uptoBulk d + 1
  | .map entries => uptoBulkEntries entries + 1
  | .held _ => 1
def uptoBulkAll {H : Type} : List (DataW H) → Nat
  | [] => 0
  | d :: r => uptoBulk d + uptoBulkAll r
def uptoBulkEntries {H : Type} : List (Lit × DataW H) → Nat
  | [] => 0
  | x :: r => uptoBulkEntry x + uptoBulkEntries r
def uptoBulkEntry {H : Type} : Lit × DataW H → Nat
  | (.string bytes, d) => bytes.length + uptoBulk d + 1
  | (_, d) => uptoBulk d + 1
 end
def uptoSmall : (H : Type) → List (DataW H) → Bool := fun _ ds => decide (uptoBulkAll ds ≤ 1048576)
def OpenSpec.upto (s : _root_.Go.ChangeSpec) : _root_.Go.OpenSpec := { _root_.Go.OpenSpec.ofChange s with cond := some uptoSmall }

/-- 'laws.FnTakeAxisEnd', WHERE WHAT IT READS IS OF BULK AT MOST 1048576: true; the input reads as it did. -/
def fnTakeAxisEndUptoRow : OpenClaim := { program := "ytpafnakefbnofac", sum := "3fa5964d3995dcc787d16d813fb6d9e3978c3759852d92eeecb29a2c9f19d36c", func := "loop.example/arraylanguage/laws.FnTakeAxisEnd", spec := "fnTakeAxisEnd", unfollowed := true, recurses := true, apart := false, narrowed := true }
def FnTakeAxisEndUptoSaid : Prop := fnTakeAxisEndUptoRow.holds Try.pinned (OpenSpec.upto fnTakeAxisEndSpec)

/-- 'laws.FnTakeAxisLong', WHERE WHAT IT READS IS OF BULK AT MOST 1048576: true; the input reads as it did. -/
def fnTakeAxisLongUptoRow : OpenClaim := { program := "ytpafnakefbnofac", sum := "3fa5964d3995dcc787d16d813fb6d9e3978c3759852d92eeecb29a2c9f19d36c", func := "loop.example/arraylanguage/laws.FnTakeAxisLong", spec := "fnTakeAxisLong", unfollowed := true, recurses := true, apart := false, narrowed := true }
def FnTakeAxisLongUptoSaid : Prop := fnTakeAxisLongUptoRow.holds Try.pinned (OpenSpec.upto fnTakeAxisLongSpec)

/-- 'laws.FnDropAxis', WHERE WHAT IT READS IS OF BULK AT MOST 1048576: true; the input reads as it did. -/
def fnDropAxisUptoRow : OpenClaim := { program := "ytpafnakefbnofac", sum := "3fa5964d3995dcc787d16d813fb6d9e3978c3759852d92eeecb29a2c9f19d36c", func := "loop.example/arraylanguage/laws.FnDropAxis", spec := "fnDropAxis", unfollowed := true, recurses := true, apart := false, narrowed := true }
def FnDropAxisUptoSaid : Prop := fnDropAxisUptoRow.holds Try.pinned (OpenSpec.upto fnDropAxisSpec)

/-- 'laws.FnDropAxisAll', WHERE WHAT IT READS IS OF BULK AT MOST 1048576: true; the input reads as it did. -/
def fnDropAxisAllUptoRow : OpenClaim := { program := "ytpafnakefbnofac", sum := "3fa5964d3995dcc787d16d813fb6d9e3978c3759852d92eeecb29a2c9f19d36c", func := "loop.example/arraylanguage/laws.FnDropAxisAll", spec := "fnDropAxisAll", unfollowed := true, recurses := true, apart := false, narrowed := true }
def FnDropAxisAllUptoSaid : Prop := fnDropAxisAllUptoRow.holds Try.pinned (OpenSpec.upto fnDropAxisAllSpec)

/-- 'laws.FnDiagonal', WHERE WHAT IT READS IS OF BULK AT MOST 1048576: true; the input reads as it did. -/
def fnDiagonalUptoRow : OpenClaim := { program := "ytpafnakefbnofac", sum := "3fa5964d3995dcc787d16d813fb6d9e3978c3759852d92eeecb29a2c9f19d36c", func := "loop.example/arraylanguage/laws.FnDiagonal", spec := "fnDiagonal", unfollowed := true, recurses := true, apart := false, narrowed := true }
def FnDiagonalUptoSaid : Prop := fnDiagonalUptoRow.holds Try.pinned (OpenSpec.upto fnDiagonalSpec)

/-- 'laws.FnExactItemAt', WHERE WHAT IT READS IS OF BULK AT MOST 1048576: true; the input reads as it did. -/
def fnExactItemAtUptoRow : OpenClaim := { program := "ytpafnakefbnofac", sum := "3fa5964d3995dcc787d16d813fb6d9e3978c3759852d92eeecb29a2c9f19d36c", func := "loop.example/arraylanguage/laws.FnExactItemAt", spec := "fnExactItemAt", apart := false, narrowed := true }
def FnExactItemAtUptoSaid : Prop := fnExactItemAtUptoRow.holds Try.pinned (OpenSpec.upto fnExactItemAtSpec)

end Rows
end Go.Proofs.Ytpafnakefbnofac
