/-
  No cell of these rows narrows 'for every input' (looked for: loops, veiled, ifaces, maps, wideKeys, modest, calm, conditions, laid).
  DERIVED. THE GIVEN ROWS OF THIS SEAT. 6 by the template 'for every input the law returns true; each argument reads behind the call as it read before'; 0 by the template 'total and deterministic' (their statements: YtpafnakefbnofafTotals.lean).
  GIVEN WITH THE SEED: the statements are not yours to turn. If you find one false, say at which input.
  Laid BY PROGRAM, IN A SANDBOX (cutbox-rows.mjs): the forced cells as the released guide's own fill.sh prints them over the translation 0d8ebd9d30ad6f57… (all of the seat's roots in one cut). By AI agents, Wed Nov 11 2026. No macro, syntax, notation, axiom, sorry.
-/
import Derived.Test.YtpafnakefbnofafChecked
import GoSem.Claim
import GoSem.ClaimJoined
import GoSem.ClaimMapViews
import Derived.JoinedTies
import Derived.KernelRfl
namespace Go.Proofs.Ytpafnakefbnofaf
/- THE CELL 'sum', in the pinned program and in every row, IS THE sha256 OF THE DUMP (.gsa) THAT YtpafnakefbnofafProg.lean LOADS. Nothing in Lean hashes anything: it is a label: what it is worth is what the hold of that sum in a sandbox is worth. -/
noncomputable def Try.pinned : Pinned := { name := "ytpafnakefbnofaf", sum := "0d8ebd9d30ad6f577e787d92a0310094e1d033dcfa621e4535756a4e54a3d64f", checked := Try.checked }
namespace Rows
def none {H : Type} : Left H := { results := [], args := [] }

/-- 'laws.FnExactMoveAxes': WHATEVER THE INPUT: true; the input reads as it did. -/
def fnExactMoveAxesSpec : ChangeSpec := { name := "fnExactMoveAxes", fn := fun _ => fun
  | [d1, d2] => { results := [.lit (.bool true)], args := [d1, d2] }
  | _ => none }
def fnExactMoveAxesRow : OpenClaim := { program := "ytpafnakefbnofaf", sum := "0d8ebd9d30ad6f577e787d92a0310094e1d033dcfa621e4535756a4e54a3d64f", func := "loop.example/arraylanguage/laws.FnExactMoveAxes", spec := "fnExactMoveAxes", unfollowed := true, recurses := true, apart := false }
def FnExactMoveAxesSaid : Prop := fnExactMoveAxesRow.holds Try.pinned (OpenSpec.ofChange fnExactMoveAxesSpec)

/-- ITS FALSE NEIGHBOUR: 'it returns false'. Refute it at one input. -/
def fnExactMoveAxesWrong : ChangeSpec := { name := "fnExactMoveAxes", fn := fun _ => fun
  | [d1, d2] => { results := [.lit (.bool false)], args := [d1, d2] }
  | _ => none }
def FnExactMoveAxesWrongFalsely : Prop := fnExactMoveAxesRow.holds Try.pinned (OpenSpec.ofChange fnExactMoveAxesWrong)

/-- 'laws.FnExactTranspose': WHATEVER THE INPUT: true; the input reads as it did. -/
def fnExactTransposeSpec : ChangeSpec := { name := "fnExactTranspose", fn := fun _ => fun
  | [d] => { results := [.lit (.bool true)], args := [d] }
  | _ => none }
def fnExactTransposeRow : OpenClaim := { program := "ytpafnakefbnofaf", sum := "0d8ebd9d30ad6f577e787d92a0310094e1d033dcfa621e4535756a4e54a3d64f", func := "loop.example/arraylanguage/laws.FnExactTranspose", spec := "fnExactTranspose", unfollowed := true, recurses := true, apart := false }
def FnExactTransposeSaid : Prop := fnExactTransposeRow.holds Try.pinned (OpenSpec.ofChange fnExactTransposeSpec)

/-- ITS FALSE NEIGHBOUR: 'it returns false'. Refute it at one input. -/
def fnExactTransposeWrong : ChangeSpec := { name := "fnExactTranspose", fn := fun _ => fun
  | [d] => { results := [.lit (.bool false)], args := [d] }
  | _ => none }
def FnExactTransposeWrongFalsely : Prop := fnExactTransposeRow.holds Try.pinned (OpenSpec.ofChange fnExactTransposeWrong)

/-- 'laws.FnMoveAxes': WHATEVER THE INPUT: true; the input reads as it did. -/
def fnMoveAxesSpec : ChangeSpec := { name := "fnMoveAxes", fn := fun _ => fun
  | [d] => { results := [.lit (.bool true)], args := [d] }
  | _ => none }
def fnMoveAxesRow : OpenClaim := { program := "ytpafnakefbnofaf", sum := "0d8ebd9d30ad6f577e787d92a0310094e1d033dcfa621e4535756a4e54a3d64f", func := "loop.example/arraylanguage/laws.FnMoveAxes", spec := "fnMoveAxes", unfollowed := true, recurses := true, apart := false }
def FnMoveAxesSaid : Prop := fnMoveAxesRow.holds Try.pinned (OpenSpec.ofChange fnMoveAxesSpec)

/-- ITS FALSE NEIGHBOUR: 'it returns false'. Refute it at one input. -/
def fnMoveAxesWrong : ChangeSpec := { name := "fnMoveAxes", fn := fun _ => fun
  | [d] => { results := [.lit (.bool false)], args := [d] }
  | _ => none }
def FnMoveAxesWrongFalsely : Prop := fnMoveAxesRow.holds Try.pinned (OpenSpec.ofChange fnMoveAxesWrong)

/-- 'laws.FnMoveAxesItem': WHATEVER THE INPUT: true; the input reads as it did. -/
def fnMoveAxesItemSpec : ChangeSpec := { name := "fnMoveAxesItem", fn := fun _ => fun
  | [d] => { results := [.lit (.bool true)], args := [d] }
  | _ => none }
def fnMoveAxesItemRow : OpenClaim := { program := "ytpafnakefbnofaf", sum := "0d8ebd9d30ad6f577e787d92a0310094e1d033dcfa621e4535756a4e54a3d64f", func := "loop.example/arraylanguage/laws.FnMoveAxesItem", spec := "fnMoveAxesItem", unfollowed := true, recurses := true, apart := false }
def FnMoveAxesItemSaid : Prop := fnMoveAxesItemRow.holds Try.pinned (OpenSpec.ofChange fnMoveAxesItemSpec)

/-- ITS FALSE NEIGHBOUR: 'it returns false'. Refute it at one input. -/
def fnMoveAxesItemWrong : ChangeSpec := { name := "fnMoveAxesItem", fn := fun _ => fun
  | [d] => { results := [.lit (.bool false)], args := [d] }
  | _ => none }
def FnMoveAxesItemWrongFalsely : Prop := fnMoveAxesItemRow.holds Try.pinned (OpenSpec.ofChange fnMoveAxesItemWrong)

/-- 'laws.FnTranspose': WHATEVER THE INPUT: true; the input reads as it did. -/
def fnTransposeSpec : ChangeSpec := { name := "fnTranspose", fn := fun _ => fun
  | [d] => { results := [.lit (.bool true)], args := [d] }
  | _ => none }
def fnTransposeRow : OpenClaim := { program := "ytpafnakefbnofaf", sum := "0d8ebd9d30ad6f577e787d92a0310094e1d033dcfa621e4535756a4e54a3d64f", func := "loop.example/arraylanguage/laws.FnTranspose", spec := "fnTranspose", unfollowed := true, recurses := true, apart := false }
def FnTransposeSaid : Prop := fnTransposeRow.holds Try.pinned (OpenSpec.ofChange fnTransposeSpec)

/-- ITS FALSE NEIGHBOUR: 'it returns false'. Refute it at one input. -/
def fnTransposeWrong : ChangeSpec := { name := "fnTranspose", fn := fun _ => fun
  | [d] => { results := [.lit (.bool false)], args := [d] }
  | _ => none }
def FnTransposeWrongFalsely : Prop := fnTransposeRow.holds Try.pinned (OpenSpec.ofChange fnTransposeWrong)

/-- 'laws.FnTransposeMap': WHATEVER THE INPUT: true; the input reads as it did. -/
def fnTransposeMapSpec : ChangeSpec := { name := "fnTransposeMap", fn := fun _ => fun
  | [d] => { results := [.lit (.bool true)], args := [d] }
  | _ => none }
def fnTransposeMapRow : OpenClaim := { program := "ytpafnakefbnofaf", sum := "0d8ebd9d30ad6f577e787d92a0310094e1d033dcfa621e4535756a4e54a3d64f", func := "loop.example/arraylanguage/laws.FnTransposeMap", spec := "fnTransposeMap", unfollowed := true, recurses := true, apart := false }
def FnTransposeMapSaid : Prop := fnTransposeMapRow.holds Try.pinned (OpenSpec.ofChange fnTransposeMapSpec)

/-- ITS FALSE NEIGHBOUR: 'it returns false'. Refute it at one input. -/
def fnTransposeMapWrong : ChangeSpec := { name := "fnTransposeMap", fn := fun _ => fun
  | [d] => { results := [.lit (.bool false)], args := [d] }
  | _ => none }
def FnTransposeMapWrongFalsely : Prop := fnTransposeMapRow.holds Try.pinned (OpenSpec.ofChange fnTransposeMapWrong)

/- THE SECOND FORM. 'bulk': how many values and letters a reading holds, each counted each time it is reached (what is shared counts as often as it is met; a slice's spare places count too). A statement '..UptoSaid' is the law's where the arguments, and the package variables that the reading takes, are together of bulk at most 1048576: NARROWER than '..Said'. Prove '..Said' where nothing that the law and all that it calls make is longer than what came in: it says more and counts as full. Else prove '..UptoSaid'. A law counts once. -/
mutual
def uptoBulk {H : Type} : DataW H → Nat
  | .lit (.string bytes) => bytes.length + 1
  | .lit _ => 1
  | .nil => 1
  | .ptr d => uptoBulk d + 1
  | .slice elems spare => uptoBulkAll elems + uptoBulkAll spare + 1
  | .agg parts => uptoBulkAll parts + 1
  | .iface _ d => uptoBulk d + 1
  | .map entries => uptoBulkEntries entries + 1
  | .held _ => 1
def uptoBulkAll {H : Type} : List (DataW H) → Nat
  | [] => 0
  | d :: r => uptoBulk d + uptoBulkAll r
def uptoBulkEntries {H : Type} : List (Lit × DataW H) → Nat
  | [] => 0
  | x :: r => uptoBulkEntry x + uptoBulkEntries r
def uptoBulkEntry {H : Type} : Lit × DataW H → Nat
  | (.string bytes, d) => bytes.length + uptoBulk d + 1
  | (_, d) => uptoBulk d + 1
 end
def uptoSmall : (H : Type) → List (DataW H) → Bool := fun _ ds => decide (uptoBulkAll ds ≤ 1048576)
def OpenSpec.upto (s : _root_.Go.ChangeSpec) : _root_.Go.OpenSpec := { _root_.Go.OpenSpec.ofChange s with cond := some uptoSmall }

/-- 'laws.FnExactMoveAxes', WHERE WHAT IT READS IS OF BULK AT MOST 1048576: true; the input reads as it did. -/
def fnExactMoveAxesUptoRow : OpenClaim := { program := "ytpafnakefbnofaf", sum := "0d8ebd9d30ad6f577e787d92a0310094e1d033dcfa621e4535756a4e54a3d64f", func := "loop.example/arraylanguage/laws.FnExactMoveAxes", spec := "fnExactMoveAxes", unfollowed := true, recurses := true, apart := false, narrowed := true }
def FnExactMoveAxesUptoSaid : Prop := fnExactMoveAxesUptoRow.holds Try.pinned (OpenSpec.upto fnExactMoveAxesSpec)

/-- 'laws.FnExactTranspose', WHERE WHAT IT READS IS OF BULK AT MOST 1048576: true; the input reads as it did. -/
def fnExactTransposeUptoRow : OpenClaim := { program := "ytpafnakefbnofaf", sum := "0d8ebd9d30ad6f577e787d92a0310094e1d033dcfa621e4535756a4e54a3d64f", func := "loop.example/arraylanguage/laws.FnExactTranspose", spec := "fnExactTranspose", unfollowed := true, recurses := true, apart := false, narrowed := true }
def FnExactTransposeUptoSaid : Prop := fnExactTransposeUptoRow.holds Try.pinned (OpenSpec.upto fnExactTransposeSpec)

/-- 'laws.FnMoveAxes', WHERE WHAT IT READS IS OF BULK AT MOST 1048576: true; the input reads as it did. -/
def fnMoveAxesUptoRow : OpenClaim := { program := "ytpafnakefbnofaf", sum := "0d8ebd9d30ad6f577e787d92a0310094e1d033dcfa621e4535756a4e54a3d64f", func := "loop.example/arraylanguage/laws.FnMoveAxes", spec := "fnMoveAxes", unfollowed := true, recurses := true, apart := false, narrowed := true }
def FnMoveAxesUptoSaid : Prop := fnMoveAxesUptoRow.holds Try.pinned (OpenSpec.upto fnMoveAxesSpec)

/-- 'laws.FnMoveAxesItem', WHERE WHAT IT READS IS OF BULK AT MOST 1048576: true; the input reads as it did. -/
def fnMoveAxesItemUptoRow : OpenClaim := { program := "ytpafnakefbnofaf", sum := "0d8ebd9d30ad6f577e787d92a0310094e1d033dcfa621e4535756a4e54a3d64f", func := "loop.example/arraylanguage/laws.FnMoveAxesItem", spec := "fnMoveAxesItem", unfollowed := true, recurses := true, apart := false, narrowed := true }
def FnMoveAxesItemUptoSaid : Prop := fnMoveAxesItemUptoRow.holds Try.pinned (OpenSpec.upto fnMoveAxesItemSpec)

/-- 'laws.FnTranspose', WHERE WHAT IT READS IS OF BULK AT MOST 1048576: true; the input reads as it did. -/
def fnTransposeUptoRow : OpenClaim := { program := "ytpafnakefbnofaf", sum := "0d8ebd9d30ad6f577e787d92a0310094e1d033dcfa621e4535756a4e54a3d64f", func := "loop.example/arraylanguage/laws.FnTranspose", spec := "fnTranspose", unfollowed := true, recurses := true, apart := false, narrowed := true }
def FnTransposeUptoSaid : Prop := fnTransposeUptoRow.holds Try.pinned (OpenSpec.upto fnTransposeSpec)

/-- 'laws.FnTransposeMap', WHERE WHAT IT READS IS OF BULK AT MOST 1048576: true; the input reads as it did. -/
def fnTransposeMapUptoRow : OpenClaim := { program := "ytpafnakefbnofaf", sum := "0d8ebd9d30ad6f577e787d92a0310094e1d033dcfa621e4535756a4e54a3d64f", func := "loop.example/arraylanguage/laws.FnTransposeMap", spec := "fnTransposeMap", unfollowed := true, recurses := true, apart := false, narrowed := true }
def FnTransposeMapUptoSaid : Prop := fnTransposeMapUptoRow.holds Try.pinned (OpenSpec.upto fnTransposeMapSpec)

end Rows
end Go.Proofs.Ytpafnakefbnofaf
