/-
  No cell of these rows narrows 'for every input' (looked for: loops, veiled, ifaces, maps, wideKeys, modest, calm, conditions, laid).
  DERIVED. THE GIVEN ROWS OF THIS SEAT. 6 by the template 'for every input the law returns true; each argument reads behind the call as it read before'; 0 by the template 'total and deterministic' (their statements: YtpafnakefbnofabTotals.lean).
  GIVEN WITH THE SEED: the statements are not yours to turn. If you find one false, say at which input.
  Laid BY PROGRAM, IN A SANDBOX (cutbox-rows.mjs): the forced cells as the released guide's own fill.sh prints them over the translation 2d5df74bf4370332… (all of the seat's roots in one cut). By AI agents, Wed Nov 11 2026. No macro, syntax, notation, axiom, sorry.
-/
import Derived.Test.YtpafnakefbnofabChecked
import GoSem.Claim
import GoSem.ClaimJoined
import GoSem.ClaimMapViews
import Derived.JoinedTies
import Derived.KernelRfl
namespace Go.Proofs.Ytpafnakefbnofab
/- THE CELL 'sum', in the pinned program and in every row, IS THE sha256 OF THE DUMP (.gsa) THAT YtpafnakefbnofabProg.lean LOADS. Nothing in Lean hashes anything: it is a label: what it is worth is what the hold of that sum in a sandbox is worth. -/
noncomputable def Try.pinned : Pinned := { name := "ytpafnakefbnofab", sum := "2d5df74bf437033266b795f03977f378c5274c1e9c15d4c51267cf520089a8fa", checked := Try.checked }
namespace Rows
def none {H : Type} : Left H := { results := [], args := [] }

/-- 'laws.FnMapArraySize': WHATEVER THE INPUT: true; the input reads as it did. -/
def fnMapArraySizeSpec : ChangeSpec := { name := "fnMapArraySize", fn := fun _ => fun
  | [d] => { results := [.lit (.bool true)], args := [d] }
  | _ => none }
def fnMapArraySizeRow : OpenClaim := { program := "ytpafnakefbnofab", sum := "2d5df74bf437033266b795f03977f378c5274c1e9c15d4c51267cf520089a8fa", func := "loop.example/arraylanguage/laws.FnMapArraySize", spec := "fnMapArraySize", unfollowed := true, recurses := true, apart := false }
def FnMapArraySizeSaid : Prop := fnMapArraySizeRow.holds Try.pinned (OpenSpec.ofChange fnMapArraySizeSpec)

/-- ITS FALSE NEIGHBOUR: 'it returns false'. Refute it at one input. -/
def fnMapArraySizeWrong : ChangeSpec := { name := "fnMapArraySize", fn := fun _ => fun
  | [d] => { results := [.lit (.bool false)], args := [d] }
  | _ => none }
def FnMapArraySizeWrongFalsely : Prop := fnMapArraySizeRow.holds Try.pinned (OpenSpec.ofChange fnMapArraySizeWrong)

/-- 'laws.FnCombine': WHATEVER THE INPUT: true; the input reads as it did. -/
def fnCombineSpec : ChangeSpec := { name := "fnCombine", fn := fun _ => fun
  | [d] => { results := [.lit (.bool true)], args := [d] }
  | _ => none }
def fnCombineRow : OpenClaim := { program := "ytpafnakefbnofab", sum := "2d5df74bf437033266b795f03977f378c5274c1e9c15d4c51267cf520089a8fa", func := "loop.example/arraylanguage/laws.FnCombine", spec := "fnCombine", unfollowed := true, recurses := true, apart := false }
def FnCombineSaid : Prop := fnCombineRow.holds Try.pinned (OpenSpec.ofChange fnCombineSpec)

/-- ITS FALSE NEIGHBOUR: 'it returns false'. Refute it at one input. -/
def fnCombineWrong : ChangeSpec := { name := "fnCombine", fn := fun _ => fun
  | [d] => { results := [.lit (.bool false)], args := [d] }
  | _ => none }
def FnCombineWrongFalsely : Prop := fnCombineRow.holds Try.pinned (OpenSpec.ofChange fnCombineWrong)

/-- 'laws.FnCombineReshape': WHATEVER THE INPUT: true; the input reads as it did. -/
def fnCombineReshapeSpec : ChangeSpec := { name := "fnCombineReshape", fn := fun _ => fun
  | [d] => { results := [.lit (.bool true)], args := [d] }
  | _ => none }
def fnCombineReshapeRow : OpenClaim := { program := "ytpafnakefbnofab", sum := "2d5df74bf437033266b795f03977f378c5274c1e9c15d4c51267cf520089a8fa", func := "loop.example/arraylanguage/laws.FnCombineReshape", spec := "fnCombineReshape", unfollowed := true, recurses := true, apart := false }
def FnCombineReshapeSaid : Prop := fnCombineReshapeRow.holds Try.pinned (OpenSpec.ofChange fnCombineReshapeSpec)

/-- ITS FALSE NEIGHBOUR: 'it returns false'. Refute it at one input. -/
def fnCombineReshapeWrong : ChangeSpec := { name := "fnCombineReshape", fn := fun _ => fun
  | [d] => { results := [.lit (.bool false)], args := [d] }
  | _ => none }
def FnCombineReshapeWrongFalsely : Prop := fnCombineReshapeRow.holds Try.pinned (OpenSpec.ofChange fnCombineReshapeWrong)

/-- 'laws.FnCombineRavel': WHATEVER THE INPUT: true; the input reads as it did. -/
def fnCombineRavelSpec : ChangeSpec := { name := "fnCombineRavel", fn := fun _ => fun
  | [d] => { results := [.lit (.bool true)], args := [d] }
  | _ => none }
def fnCombineRavelRow : OpenClaim := { program := "ytpafnakefbnofab", sum := "2d5df74bf437033266b795f03977f378c5274c1e9c15d4c51267cf520089a8fa", func := "loop.example/arraylanguage/laws.FnCombineRavel", spec := "fnCombineRavel", unfollowed := true, recurses := true, apart := false }
def FnCombineRavelSaid : Prop := fnCombineRavelRow.holds Try.pinned (OpenSpec.ofChange fnCombineRavelSpec)

/-- ITS FALSE NEIGHBOUR: 'it returns false'. Refute it at one input. -/
def fnCombineRavelWrong : ChangeSpec := { name := "fnCombineRavel", fn := fun _ => fun
  | [d] => { results := [.lit (.bool false)], args := [d] }
  | _ => none }
def FnCombineRavelWrongFalsely : Prop := fnCombineRavelRow.holds Try.pinned (OpenSpec.ofChange fnCombineRavelWrong)

/-- 'laws.FnCombineBoth': WHATEVER THE INPUT: true; the input reads as it did. -/
def fnCombineBothSpec : ChangeSpec := { name := "fnCombineBoth", fn := fun _ => fun
  | [d] => { results := [.lit (.bool true)], args := [d] }
  | _ => none }
def fnCombineBothRow : OpenClaim := { program := "ytpafnakefbnofab", sum := "2d5df74bf437033266b795f03977f378c5274c1e9c15d4c51267cf520089a8fa", func := "loop.example/arraylanguage/laws.FnCombineBoth", spec := "fnCombineBoth", unfollowed := true, recurses := true, apart := false }
def FnCombineBothSaid : Prop := fnCombineBothRow.holds Try.pinned (OpenSpec.ofChange fnCombineBothSpec)

/-- ITS FALSE NEIGHBOUR: 'it returns false'. Refute it at one input. -/
def fnCombineBothWrong : ChangeSpec := { name := "fnCombineBoth", fn := fun _ => fun
  | [d] => { results := [.lit (.bool false)], args := [d] }
  | _ => none }
def FnCombineBothWrongFalsely : Prop := fnCombineBothRow.holds Try.pinned (OpenSpec.ofChange fnCombineBothWrong)

/-- 'laws.FnCombineSelf': WHATEVER THE INPUT: true; the input reads as it did. -/
def fnCombineSelfSpec : ChangeSpec := { name := "fnCombineSelf", fn := fun _ => fun
  | [d] => { results := [.lit (.bool true)], args := [d] }
  | _ => none }
def fnCombineSelfRow : OpenClaim := { program := "ytpafnakefbnofab", sum := "2d5df74bf437033266b795f03977f378c5274c1e9c15d4c51267cf520089a8fa", func := "loop.example/arraylanguage/laws.FnCombineSelf", spec := "fnCombineSelf", unfollowed := true, recurses := true, apart := false }
def FnCombineSelfSaid : Prop := fnCombineSelfRow.holds Try.pinned (OpenSpec.ofChange fnCombineSelfSpec)

/-- ITS FALSE NEIGHBOUR: 'it returns false'. Refute it at one input. -/
def fnCombineSelfWrong : ChangeSpec := { name := "fnCombineSelf", fn := fun _ => fun
  | [d] => { results := [.lit (.bool false)], args := [d] }
  | _ => none }
def FnCombineSelfWrongFalsely : Prop := fnCombineSelfRow.holds Try.pinned (OpenSpec.ofChange fnCombineSelfWrong)

/- THE SECOND FORM. 'bulk': how many values and letters a reading holds, each counted each time it is reached (what is shared counts as often as it is met; a slice's spare places count too). A statement '..UptoSaid' is the law's where the arguments, and the package variables that the reading takes, are together of bulk at most 1048576: NARROWER than '..Said'. Prove '..Said' where nothing that the law and all that it calls make is longer than what came in: it says more and counts as full. Else prove '..UptoSaid'. A law counts once. -/
mutual
def uptoBulk {H : Type} : DataW H → Nat
  | .lit (.string bytes) => bytes.length + 1
  | .lit _ => 1
  | .nil => 1
  | .ptr d => uptoBulk d + 1
  | .slice elems spare => uptoBulkAll elems + uptoBulkAll spare + 1
  | .agg parts => uptoBulkAll parts + 1
  | .iface _ d => uptoBulk d + 1
  | .map entries => uptoBulkEntries entries + 1
  | .held _ => 1
def uptoBulkAll {H : Type} : List (DataW H) → Nat
  | [] => 0
  | d :: r => uptoBulk d + uptoBulkAll r
def uptoBulkEntries {H : Type} : List (Lit × DataW H) → Nat
  | [] => 0
  | x :: r => uptoBulkEntry x + uptoBulkEntries r
def uptoBulkEntry {H : Type} : Lit × DataW H → Nat
  | (.string bytes, d) => bytes.length + uptoBulk d + 1
  | (_, d) => uptoBulk d + 1
 end
def uptoSmall : (H : Type) → List (DataW H) → Bool := fun _ ds => decide (uptoBulkAll ds ≤ 1048576)
def OpenSpec.upto (s : _root_.Go.ChangeSpec) : _root_.Go.OpenSpec := { _root_.Go.OpenSpec.ofChange s with cond := some uptoSmall }

/-- 'laws.FnMapArraySize', WHERE WHAT IT READS IS OF BULK AT MOST 1048576: true; the input reads as it did. -/
def fnMapArraySizeUptoRow : OpenClaim := { program := "ytpafnakefbnofab", sum := "2d5df74bf437033266b795f03977f378c5274c1e9c15d4c51267cf520089a8fa", func := "loop.example/arraylanguage/laws.FnMapArraySize", spec := "fnMapArraySize", unfollowed := true, recurses := true, apart := false, narrowed := true }
def FnMapArraySizeUptoSaid : Prop := fnMapArraySizeUptoRow.holds Try.pinned (OpenSpec.upto fnMapArraySizeSpec)

/-- 'laws.FnCombine', WHERE WHAT IT READS IS OF BULK AT MOST 1048576: true; the input reads as it did. -/
def fnCombineUptoRow : OpenClaim := { program := "ytpafnakefbnofab", sum := "2d5df74bf437033266b795f03977f378c5274c1e9c15d4c51267cf520089a8fa", func := "loop.example/arraylanguage/laws.FnCombine", spec := "fnCombine", unfollowed := true, recurses := true, apart := false, narrowed := true }
def FnCombineUptoSaid : Prop := fnCombineUptoRow.holds Try.pinned (OpenSpec.upto fnCombineSpec)

/-- 'laws.FnCombineReshape', WHERE WHAT IT READS IS OF BULK AT MOST 1048576: true; the input reads as it did. -/
def fnCombineReshapeUptoRow : OpenClaim := { program := "ytpafnakefbnofab", sum := "2d5df74bf437033266b795f03977f378c5274c1e9c15d4c51267cf520089a8fa", func := "loop.example/arraylanguage/laws.FnCombineReshape", spec := "fnCombineReshape", unfollowed := true, recurses := true, apart := false, narrowed := true }
def FnCombineReshapeUptoSaid : Prop := fnCombineReshapeUptoRow.holds Try.pinned (OpenSpec.upto fnCombineReshapeSpec)

/-- 'laws.FnCombineRavel', WHERE WHAT IT READS IS OF BULK AT MOST 1048576: true; the input reads as it did. -/
def fnCombineRavelUptoRow : OpenClaim := { program := "ytpafnakefbnofab", sum := "2d5df74bf437033266b795f03977f378c5274c1e9c15d4c51267cf520089a8fa", func := "loop.example/arraylanguage/laws.FnCombineRavel", spec := "fnCombineRavel", unfollowed := true, recurses := true, apart := false, narrowed := true }
def FnCombineRavelUptoSaid : Prop := fnCombineRavelUptoRow.holds Try.pinned (OpenSpec.upto fnCombineRavelSpec)

/-- 'laws.FnCombineBoth', WHERE WHAT IT READS IS OF BULK AT MOST 1048576: true; the input reads as it did. -/
def fnCombineBothUptoRow : OpenClaim := { program := "ytpafnakefbnofab", sum := "2d5df74bf437033266b795f03977f378c5274c1e9c15d4c51267cf520089a8fa", func := "loop.example/arraylanguage/laws.FnCombineBoth", spec := "fnCombineBoth", unfollowed := true, recurses := true, apart := false, narrowed := true }
def FnCombineBothUptoSaid : Prop := fnCombineBothUptoRow.holds Try.pinned (OpenSpec.upto fnCombineBothSpec)

/-- 'laws.FnCombineSelf', WHERE WHAT IT READS IS OF BULK AT MOST 1048576: true; the input reads as it did. -/
def fnCombineSelfUptoRow : OpenClaim := { program := "ytpafnakefbnofab", sum := "2d5df74bf437033266b795f03977f378c5274c1e9c15d4c51267cf520089a8fa", func := "loop.example/arraylanguage/laws.FnCombineSelf", spec := "fnCombineSelf", unfollowed := true, recurses := true, apart := false, narrowed := true }
def FnCombineSelfUptoSaid : Prop := fnCombineSelfUptoRow.holds Try.pinned (OpenSpec.upto fnCombineSelfSpec)

end Rows
end Go.Proofs.Ytpafnakefbnofab
