/-
  No cell of these rows narrows 'for every input' (looked for: loops, veiled, ifaces, maps, wideKeys, modest, calm, conditions, laid).
  DERIVED. THE GIVEN ROWS OF THIS SEAT. 6 by the template 'for every input the law returns true; each argument reads behind the call as it read before'; 0 by the template 'total and deterministic' (their statements: YtpafnakefbnofaaTotals.lean).
  GIVEN WITH THE SEED: the statements are not yours to turn. If you find one false, say at which input.
  Laid BY PROGRAM, IN A SANDBOX (cutbox-rows.mjs): the forced cells as the released guide's own fill.sh prints them over the translation 26b167e889853306… (all of the seat's roots in one cut). By AI agents, Wed Nov 11 2026. No macro, syntax, notation, axiom, sorry.
-/
import Derived.Test.YtpafnakefbnofaaChecked
import GoSem.Claim
import GoSem.ClaimJoined
import GoSem.ClaimMapViews
import Derived.JoinedTies
import Derived.KernelRfl
namespace Go.Proofs.Ytpafnakefbnofaa
/- THE CELL 'sum', in the pinned program and in every row, IS THE sha256 OF THE DUMP (.gsa) THAT YtpafnakefbnofaaProg.lean LOADS. Nothing in Lean hashes anything: it is a label: what it is worth is what the hold of that sum in a sandbox is worth. -/
noncomputable def Try.pinned : Pinned := { name := "ytpafnakefbnofaa", sum := "26b167e889853306b830c6fa20ab1ab6ccd92205396ee2e10fc8434844959a9d", checked := Try.checked }
namespace Rows
def none {H : Type} : Left H := { results := [], args := [] }

/-- 'laws.FnReshape': WHATEVER THE INPUT: true; the input reads as it did. -/
def fnReshapeSpec : ChangeSpec := { name := "fnReshape", fn := fun _ => fun
  | [d] => { results := [.lit (.bool true)], args := [d] }
  | _ => none }
def fnReshapeRow : OpenClaim := { program := "ytpafnakefbnofaa", sum := "26b167e889853306b830c6fa20ab1ab6ccd92205396ee2e10fc8434844959a9d", func := "loop.example/arraylanguage/laws.FnReshape", spec := "fnReshape", apart := false }
def FnReshapeSaid : Prop := fnReshapeRow.holds Try.pinned (OpenSpec.ofChange fnReshapeSpec)

/-- ITS FALSE NEIGHBOUR: 'it returns false'. Refute it at one input. -/
def fnReshapeWrong : ChangeSpec := { name := "fnReshape", fn := fun _ => fun
  | [d] => { results := [.lit (.bool false)], args := [d] }
  | _ => none }
def FnReshapeWrongFalsely : Prop := fnReshapeRow.holds Try.pinned (OpenSpec.ofChange fnReshapeWrong)

/-- 'laws.FnReshapeSame': WHATEVER THE INPUT: true; the input reads as it did. -/
def fnReshapeSameSpec : ChangeSpec := { name := "fnReshapeSame", fn := fun _ => fun
  | [d] => { results := [.lit (.bool true)], args := [d] }
  | _ => none }
def fnReshapeSameRow : OpenClaim := { program := "ytpafnakefbnofaa", sum := "26b167e889853306b830c6fa20ab1ab6ccd92205396ee2e10fc8434844959a9d", func := "loop.example/arraylanguage/laws.FnReshapeSame", spec := "fnReshapeSame", apart := false }
def FnReshapeSameSaid : Prop := fnReshapeSameRow.holds Try.pinned (OpenSpec.ofChange fnReshapeSameSpec)

/-- ITS FALSE NEIGHBOUR: 'it returns false'. Refute it at one input. -/
def fnReshapeSameWrong : ChangeSpec := { name := "fnReshapeSame", fn := fun _ => fun
  | [d] => { results := [.lit (.bool false)], args := [d] }
  | _ => none }
def FnReshapeSameWrongFalsely : Prop := fnReshapeSameRow.holds Try.pinned (OpenSpec.ofChange fnReshapeSameWrong)

/-- 'laws.FnRavel': WHATEVER THE INPUT: true; the input reads as it did. -/
def fnRavelSpec : ChangeSpec := { name := "fnRavel", fn := fun _ => fun
  | [d] => { results := [.lit (.bool true)], args := [d] }
  | _ => none }
def fnRavelRow : OpenClaim := { program := "ytpafnakefbnofaa", sum := "26b167e889853306b830c6fa20ab1ab6ccd92205396ee2e10fc8434844959a9d", func := "loop.example/arraylanguage/laws.FnRavel", spec := "fnRavel", apart := false }
def FnRavelSaid : Prop := fnRavelRow.holds Try.pinned (OpenSpec.ofChange fnRavelSpec)

/-- ITS FALSE NEIGHBOUR: 'it returns false'. Refute it at one input. -/
def fnRavelWrong : ChangeSpec := { name := "fnRavel", fn := fun _ => fun
  | [d] => { results := [.lit (.bool false)], args := [d] }
  | _ => none }
def FnRavelWrongFalsely : Prop := fnRavelRow.holds Try.pinned (OpenSpec.ofChange fnRavelWrong)

/-- 'laws.FnReshapeTwice': WHATEVER THE INPUT: true; the input reads as it did. -/
def fnReshapeTwiceSpec : ChangeSpec := { name := "fnReshapeTwice", fn := fun _ => fun
  | [d] => { results := [.lit (.bool true)], args := [d] }
  | _ => none }
def fnReshapeTwiceRow : OpenClaim := { program := "ytpafnakefbnofaa", sum := "26b167e889853306b830c6fa20ab1ab6ccd92205396ee2e10fc8434844959a9d", func := "loop.example/arraylanguage/laws.FnReshapeTwice", spec := "fnReshapeTwice", apart := false }
def FnReshapeTwiceSaid : Prop := fnReshapeTwiceRow.holds Try.pinned (OpenSpec.ofChange fnReshapeTwiceSpec)

/-- ITS FALSE NEIGHBOUR: 'it returns false'. Refute it at one input. -/
def fnReshapeTwiceWrong : ChangeSpec := { name := "fnReshapeTwice", fn := fun _ => fun
  | [d] => { results := [.lit (.bool false)], args := [d] }
  | _ => none }
def FnReshapeTwiceWrongFalsely : Prop := fnReshapeTwiceRow.holds Try.pinned (OpenSpec.ofChange fnReshapeTwiceWrong)

/-- 'laws.FnMapArray': WHATEVER THE INPUT: true; the input reads as it did. -/
def fnMapArraySpec : ChangeSpec := { name := "fnMapArray", fn := fun _ => fun
  | [d] => { results := [.lit (.bool true)], args := [d] }
  | _ => none }
def fnMapArrayRow : OpenClaim := { program := "ytpafnakefbnofaa", sum := "26b167e889853306b830c6fa20ab1ab6ccd92205396ee2e10fc8434844959a9d", func := "loop.example/arraylanguage/laws.FnMapArray", spec := "fnMapArray", unfollowed := true, recurses := true, apart := false }
def FnMapArraySaid : Prop := fnMapArrayRow.holds Try.pinned (OpenSpec.ofChange fnMapArraySpec)

/-- ITS FALSE NEIGHBOUR: 'it returns false'. Refute it at one input. -/
def fnMapArrayWrong : ChangeSpec := { name := "fnMapArray", fn := fun _ => fun
  | [d] => { results := [.lit (.bool false)], args := [d] }
  | _ => none }
def FnMapArrayWrongFalsely : Prop := fnMapArrayRow.holds Try.pinned (OpenSpec.ofChange fnMapArrayWrong)

/-- 'laws.FnMapArrayNot': WHATEVER THE INPUT: true; the input reads as it did. -/
def fnMapArrayNotSpec : ChangeSpec := { name := "fnMapArrayNot", fn := fun _ => fun
  | [d] => { results := [.lit (.bool true)], args := [d] }
  | _ => none }
def fnMapArrayNotRow : OpenClaim := { program := "ytpafnakefbnofaa", sum := "26b167e889853306b830c6fa20ab1ab6ccd92205396ee2e10fc8434844959a9d", func := "loop.example/arraylanguage/laws.FnMapArrayNot", spec := "fnMapArrayNot", unfollowed := true, recurses := true, apart := false }
def FnMapArrayNotSaid : Prop := fnMapArrayNotRow.holds Try.pinned (OpenSpec.ofChange fnMapArrayNotSpec)

/-- ITS FALSE NEIGHBOUR: 'it returns false'. Refute it at one input. -/
def fnMapArrayNotWrong : ChangeSpec := { name := "fnMapArrayNot", fn := fun _ => fun
  | [d] => { results := [.lit (.bool false)], args := [d] }
  | _ => none }
def FnMapArrayNotWrongFalsely : Prop := fnMapArrayNotRow.holds Try.pinned (OpenSpec.ofChange fnMapArrayNotWrong)

/- THE SECOND FORM. 'bulk': how many values and letters a reading holds, each counted each time it is reached (what is shared counts as often as it is met; a slice's spare places count too). A statement '..UptoSaid' is the law's where the arguments, and the package variables that the reading takes, are together of bulk at most 1048576: NARROWER than '..Said'. Prove '..Said' where nothing that the law and all that it calls make is longer than what came in: it says more and counts as full. Else prove '..UptoSaid'. A law counts once. -/
mutual
def uptoBulk {H : Type} : DataW H → Nat
  | .lit (.string bytes) => bytes.length + 1
  | .lit _ => 1
  | .nil => 1
  | .ptr d => uptoBulk d + 1
  | .slice elems spare => uptoBulkAll elems + uptoBulkAll spare + 1
  | .agg parts => uptoBulkAll parts + 1
  | .iface _ d => uptoBulk d + 1
  | .map entries => uptoBulkEntries entries + 1
  | .held _ => 1
def uptoBulkAll {H : Type} : List (DataW H) → Nat
  | [] => 0
  | d :: r => uptoBulk d + uptoBulkAll r
def uptoBulkEntries {H : Type} : List (Lit × DataW H) → Nat
  | [] => 0
  | x :: r => uptoBulkEntry x + uptoBulkEntries r
def uptoBulkEntry {H : Type} : Lit × DataW H → Nat
  | (.string bytes, d) => bytes.length + uptoBulk d + 1
  | (_, d) => uptoBulk d + 1
 end
def uptoSmall : (H : Type) → List (DataW H) → Bool := fun _ ds => decide (uptoBulkAll ds ≤ 1048576)
def OpenSpec.upto (s : _root_.Go.ChangeSpec) : _root_.Go.OpenSpec := { _root_.Go.OpenSpec.ofChange s with cond := some uptoSmall }

/-- 'laws.FnReshape', WHERE WHAT IT READS IS OF BULK AT MOST 1048576: true; the input reads as it did. -/
def fnReshapeUptoRow : OpenClaim := { program := "ytpafnakefbnofaa", sum := "26b167e889853306b830c6fa20ab1ab6ccd92205396ee2e10fc8434844959a9d", func := "loop.example/arraylanguage/laws.FnReshape", spec := "fnReshape", apart := false, narrowed := true }
def FnReshapeUptoSaid : Prop := fnReshapeUptoRow.holds Try.pinned (OpenSpec.upto fnReshapeSpec)

/-- 'laws.FnReshapeSame', WHERE WHAT IT READS IS OF BULK AT MOST 1048576: true; the input reads as it did. -/
def fnReshapeSameUptoRow : OpenClaim := { program := "ytpafnakefbnofaa", sum := "26b167e889853306b830c6fa20ab1ab6ccd92205396ee2e10fc8434844959a9d", func := "loop.example/arraylanguage/laws.FnReshapeSame", spec := "fnReshapeSame", apart := false, narrowed := true }
def FnReshapeSameUptoSaid : Prop := fnReshapeSameUptoRow.holds Try.pinned (OpenSpec.upto fnReshapeSameSpec)

/-- 'laws.FnRavel', WHERE WHAT IT READS IS OF BULK AT MOST 1048576: true; the input reads as it did. -/
def fnRavelUptoRow : OpenClaim := { program := "ytpafnakefbnofaa", sum := "26b167e889853306b830c6fa20ab1ab6ccd92205396ee2e10fc8434844959a9d", func := "loop.example/arraylanguage/laws.FnRavel", spec := "fnRavel", apart := false, narrowed := true }
def FnRavelUptoSaid : Prop := fnRavelUptoRow.holds Try.pinned (OpenSpec.upto fnRavelSpec)

/-- 'laws.FnReshapeTwice', WHERE WHAT IT READS IS OF BULK AT MOST 1048576: true; the input reads as it did. -/
def fnReshapeTwiceUptoRow : OpenClaim := { program := "ytpafnakefbnofaa", sum := "26b167e889853306b830c6fa20ab1ab6ccd92205396ee2e10fc8434844959a9d", func := "loop.example/arraylanguage/laws.FnReshapeTwice", spec := "fnReshapeTwice", apart := false, narrowed := true }
def FnReshapeTwiceUptoSaid : Prop := fnReshapeTwiceUptoRow.holds Try.pinned (OpenSpec.upto fnReshapeTwiceSpec)

/-- 'laws.FnMapArray', WHERE WHAT IT READS IS OF BULK AT MOST 1048576: true; the input reads as it did. -/
def fnMapArrayUptoRow : OpenClaim := { program := "ytpafnakefbnofaa", sum := "26b167e889853306b830c6fa20ab1ab6ccd92205396ee2e10fc8434844959a9d", func := "loop.example/arraylanguage/laws.FnMapArray", spec := "fnMapArray", unfollowed := true, recurses := true, apart := false, narrowed := true }
def FnMapArrayUptoSaid : Prop := fnMapArrayUptoRow.holds Try.pinned (OpenSpec.upto fnMapArraySpec)

/-- 'laws.FnMapArrayNot', WHERE WHAT IT READS IS OF BULK AT MOST 1048576: true; the input reads as it did. -/
def fnMapArrayNotUptoRow : OpenClaim := { program := "ytpafnakefbnofaa", sum := "26b167e889853306b830c6fa20ab1ab6ccd92205396ee2e10fc8434844959a9d", func := "loop.example/arraylanguage/laws.FnMapArrayNot", spec := "fnMapArrayNot", unfollowed := true, recurses := true, apart := false, narrowed := true }
def FnMapArrayNotUptoSaid : Prop := fnMapArrayNotUptoRow.holds Try.pinned (OpenSpec.upto fnMapArrayNotSpec)

end Rows
end Go.Proofs.Ytpafnakefbnofaa
