/-
  No cell of these rows narrows 'for every input' (looked for: loops, veiled, ifaces, maps, wideKeys, modest, calm, conditions, laid).
  DERIVED. THE GIVEN ROWS OF THIS SEAT. 6 by the template 'for every input the law returns true; each argument reads behind the call as it read before'; 0 by the template 'total and deterministic' (their statements: YtokdoghgibahkaaTotals.lean).
  GIVEN WITH THE SEED: the statements are not yours to turn. If you find one false, say at which input.
  Laid BY PROGRAM, IN A SANDBOX (cutbox-rows.mjs): the forced cells as the released guide's own fill.sh prints them over the translation 2f010f803cb12094… (all of the seat's roots in one cut). By AI agents, Wed Nov 11 2026. No macro, syntax, notation, axiom, sorry.
-/
import Derived.Test.YtokdoghgibahkaaChecked
import GoSem.Claim
import GoSem.ClaimJoined
import GoSem.ClaimMapViews
import Derived.JoinedTies
import Derived.KernelRfl
namespace Go.Proofs.Ytokdoghgibahkaa
/- THE CELL 'sum', in the pinned program and in every row, IS THE sha256 OF THE DUMP (.gsa) THAT YtokdoghgibahkaaProg.lean LOADS. Nothing in Lean hashes anything: it is a label: what it is worth is what the hold of that sum in a sandbox is worth. -/
noncomputable def Try.pinned : Pinned := { name := "ytokdoghgibahkaa", sum := "2f010f803cb12094afb4635f984ef7c22878a30598513dc1c1dbb2f8ea6ca25b", checked := Try.checked }
namespace Rows
def none {H : Type} : Left H := { results := [], args := [] }

/-- 'laws.FnValidArray': WHATEVER THE INPUT: true; the input reads as it did. -/
def fnValidArraySpec : ChangeSpec := { name := "fnValidArray", fn := fun _ => fun
  | [d] => { results := [.lit (.bool true)], args := [d] }
  | _ => none }
def fnValidArrayRow : OpenClaim := { program := "ytokdoghgibahkaa", sum := "2f010f803cb12094afb4635f984ef7c22878a30598513dc1c1dbb2f8ea6ca25b", func := "loop.example/arraylanguage/laws.FnValidArray", spec := "fnValidArray", apart := false }
def FnValidArraySaid : Prop := fnValidArrayRow.holds Try.pinned (OpenSpec.ofChange fnValidArraySpec)

/-- ITS FALSE NEIGHBOUR: 'it returns false'. Refute it at one input. -/
def fnValidArrayWrong : ChangeSpec := { name := "fnValidArray", fn := fun _ => fun
  | [d] => { results := [.lit (.bool false)], args := [d] }
  | _ => none }
def FnValidArrayWrongFalsely : Prop := fnValidArrayRow.holds Try.pinned (OpenSpec.ofChange fnValidArrayWrong)

/-- 'laws.FnRankOf': WHATEVER THE INPUT: true; the input reads as it did. -/
def fnRankOfSpec : ChangeSpec := { name := "fnRankOf", fn := fun _ => fun
  | [d] => { results := [.lit (.bool true)], args := [d] }
  | _ => none }
def fnRankOfRow : OpenClaim := { program := "ytokdoghgibahkaa", sum := "2f010f803cb12094afb4635f984ef7c22878a30598513dc1c1dbb2f8ea6ca25b", func := "loop.example/arraylanguage/laws.FnRankOf", spec := "fnRankOf", apart := false }
def FnRankOfSaid : Prop := fnRankOfRow.holds Try.pinned (OpenSpec.ofChange fnRankOfSpec)

/-- ITS FALSE NEIGHBOUR: 'it returns false'. Refute it at one input. -/
def fnRankOfWrong : ChangeSpec := { name := "fnRankOf", fn := fun _ => fun
  | [d] => { results := [.lit (.bool false)], args := [d] }
  | _ => none }
def FnRankOfWrongFalsely : Prop := fnRankOfRow.holds Try.pinned (OpenSpec.ofChange fnRankOfWrong)

/-- 'laws.FnVectorOf': WHATEVER THE INPUT: true; the input reads as it did. -/
def fnVectorOfSpec : ChangeSpec := { name := "fnVectorOf", fn := fun _ => fun
  | [d] => { results := [.lit (.bool true)], args := [d] }
  | _ => none }
def fnVectorOfRow : OpenClaim := { program := "ytokdoghgibahkaa", sum := "2f010f803cb12094afb4635f984ef7c22878a30598513dc1c1dbb2f8ea6ca25b", func := "loop.example/arraylanguage/laws.FnVectorOf", spec := "fnVectorOf", apart := false }
def FnVectorOfSaid : Prop := fnVectorOfRow.holds Try.pinned (OpenSpec.ofChange fnVectorOfSpec)

/-- ITS FALSE NEIGHBOUR: 'it returns false'. Refute it at one input. -/
def fnVectorOfWrong : ChangeSpec := { name := "fnVectorOf", fn := fun _ => fun
  | [d] => { results := [.lit (.bool false)], args := [d] }
  | _ => none }
def FnVectorOfWrongFalsely : Prop := fnVectorOfRow.holds Try.pinned (OpenSpec.ofChange fnVectorOfWrong)

/-- 'laws.FnScalarOf': WHATEVER THE INPUT: true; the input reads as it did. -/
def fnScalarOfSpec : ChangeSpec := { name := "fnScalarOf", fn := fun _ => fun
  | [d] => { results := [.lit (.bool true)], args := [d] }
  | _ => none }
def fnScalarOfRow : OpenClaim := { program := "ytokdoghgibahkaa", sum := "2f010f803cb12094afb4635f984ef7c22878a30598513dc1c1dbb2f8ea6ca25b", func := "loop.example/arraylanguage/laws.FnScalarOf", spec := "fnScalarOf", apart := false }
def FnScalarOfSaid : Prop := fnScalarOfRow.holds Try.pinned (OpenSpec.ofChange fnScalarOfSpec)

/-- ITS FALSE NEIGHBOUR: 'it returns false'. Refute it at one input. -/
def fnScalarOfWrong : ChangeSpec := { name := "fnScalarOf", fn := fun _ => fun
  | [d] => { results := [.lit (.bool false)], args := [d] }
  | _ => none }
def FnScalarOfWrongFalsely : Prop := fnScalarOfRow.holds Try.pinned (OpenSpec.ofChange fnScalarOfWrong)

/-- 'laws.FnOffsetOf': WHATEVER THE INPUT: true; the input reads as it did. -/
def fnOffsetOfSpec : ChangeSpec := { name := "fnOffsetOf", fn := fun _ => fun
  | [d] => { results := [.lit (.bool true)], args := [d] }
  | _ => none }
def fnOffsetOfRow : OpenClaim := { program := "ytokdoghgibahkaa", sum := "2f010f803cb12094afb4635f984ef7c22878a30598513dc1c1dbb2f8ea6ca25b", func := "loop.example/arraylanguage/laws.FnOffsetOf", spec := "fnOffsetOf", unfollowed := true, recurses := true, apart := false }
def FnOffsetOfSaid : Prop := fnOffsetOfRow.holds Try.pinned (OpenSpec.ofChange fnOffsetOfSpec)

/-- ITS FALSE NEIGHBOUR: 'it returns false'. Refute it at one input. -/
def fnOffsetOfWrong : ChangeSpec := { name := "fnOffsetOf", fn := fun _ => fun
  | [d] => { results := [.lit (.bool false)], args := [d] }
  | _ => none }
def FnOffsetOfWrongFalsely : Prop := fnOffsetOfRow.holds Try.pinned (OpenSpec.ofChange fnOffsetOfWrong)

/-- 'laws.FnSizeOf': WHATEVER THE INPUT: true; the input reads as it did. -/
def fnSizeOfSpec : ChangeSpec := { name := "fnSizeOf", fn := fun _ => fun
  | [d] => { results := [.lit (.bool true)], args := [d] }
  | _ => none }
def fnSizeOfRow : OpenClaim := { program := "ytokdoghgibahkaa", sum := "2f010f803cb12094afb4635f984ef7c22878a30598513dc1c1dbb2f8ea6ca25b", func := "loop.example/arraylanguage/laws.FnSizeOf", spec := "fnSizeOf", unfollowed := true, recurses := true, apart := false }
def FnSizeOfSaid : Prop := fnSizeOfRow.holds Try.pinned (OpenSpec.ofChange fnSizeOfSpec)

/-- ITS FALSE NEIGHBOUR: 'it returns false'. Refute it at one input. -/
def fnSizeOfWrong : ChangeSpec := { name := "fnSizeOf", fn := fun _ => fun
  | [d] => { results := [.lit (.bool false)], args := [d] }
  | _ => none }
def FnSizeOfWrongFalsely : Prop := fnSizeOfRow.holds Try.pinned (OpenSpec.ofChange fnSizeOfWrong)

/- THE SECOND FORM. 'bulk': how many values and letters a reading holds, each counted each time it is reached (what is shared counts as often as it is met; a slice's spare places count too). A statement '..UptoSaid' is the law's where the arguments, and the package variables that the reading takes, are together of bulk at most 1048576: NARROWER than '..Said'. Prove '..Said' where nothing that the law and all that it calls make is longer than what came in: it says more and counts as full. Else prove '..UptoSaid'. A law counts once. -/
mutual
def uptoBulk {H : Type} : DataW H → Nat
  | .lit (.string bytes) => bytes.length + 1
  | .lit _ => 1
  | .nil => 1
  | .ptr d => uptoBulk d + 1
  | .slice elems spare => uptoBulkAll elems + uptoBulkAll spare + 1
  | .agg parts => uptoBulkAll parts + 1
  | .iface _ d => uptoBulk d + 1
  | .map entries => uptoBulkEntries entries + 1
  | .held _ => 1
def uptoBulkAll {H : Type} : List (DataW H) → Nat
  | [] => 0
  | d :: r => uptoBulk d + uptoBulkAll r
def uptoBulkEntries {H : Type} : List (Lit × DataW H) → Nat
  | [] => 0
  | x :: r => uptoBulkEntry x + uptoBulkEntries r
def uptoBulkEntry {H : Type} : Lit × DataW H → Nat
  | (.string bytes, d) => bytes.length + uptoBulk d + 1
  | (_, d) => uptoBulk d + 1
 end
def uptoSmall : (H : Type) → List (DataW H) → Bool := fun _ ds => decide (uptoBulkAll ds ≤ 1048576)
def OpenSpec.upto (s : _root_.Go.ChangeSpec) : _root_.Go.OpenSpec := { _root_.Go.OpenSpec.ofChange s with cond := some uptoSmall }

/-- 'laws.FnValidArray', WHERE WHAT IT READS IS OF BULK AT MOST 1048576: true; the input reads as it did. -/
def fnValidArrayUptoRow : OpenClaim := { program := "ytokdoghgibahkaa", sum := "2f010f803cb12094afb4635f984ef7c22878a30598513dc1c1dbb2f8ea6ca25b", func := "loop.example/arraylanguage/laws.FnValidArray", spec := "fnValidArray", apart := false, narrowed := true }
def FnValidArrayUptoSaid : Prop := fnValidArrayUptoRow.holds Try.pinned (OpenSpec.upto fnValidArraySpec)

/-- 'laws.FnRankOf', WHERE WHAT IT READS IS OF BULK AT MOST 1048576: true; the input reads as it did. -/
def fnRankOfUptoRow : OpenClaim := { program := "ytokdoghgibahkaa", sum := "2f010f803cb12094afb4635f984ef7c22878a30598513dc1c1dbb2f8ea6ca25b", func := "loop.example/arraylanguage/laws.FnRankOf", spec := "fnRankOf", apart := false, narrowed := true }
def FnRankOfUptoSaid : Prop := fnRankOfUptoRow.holds Try.pinned (OpenSpec.upto fnRankOfSpec)

/-- 'laws.FnVectorOf', WHERE WHAT IT READS IS OF BULK AT MOST 1048576: true; the input reads as it did. -/
def fnVectorOfUptoRow : OpenClaim := { program := "ytokdoghgibahkaa", sum := "2f010f803cb12094afb4635f984ef7c22878a30598513dc1c1dbb2f8ea6ca25b", func := "loop.example/arraylanguage/laws.FnVectorOf", spec := "fnVectorOf", apart := false, narrowed := true }
def FnVectorOfUptoSaid : Prop := fnVectorOfUptoRow.holds Try.pinned (OpenSpec.upto fnVectorOfSpec)

/-- 'laws.FnScalarOf', WHERE WHAT IT READS IS OF BULK AT MOST 1048576: true; the input reads as it did. -/
def fnScalarOfUptoRow : OpenClaim := { program := "ytokdoghgibahkaa", sum := "2f010f803cb12094afb4635f984ef7c22878a30598513dc1c1dbb2f8ea6ca25b", func := "loop.example/arraylanguage/laws.FnScalarOf", spec := "fnScalarOf", apart := false, narrowed := true }
def FnScalarOfUptoSaid : Prop := fnScalarOfUptoRow.holds Try.pinned (OpenSpec.upto fnScalarOfSpec)

/-- 'laws.FnOffsetOf', WHERE WHAT IT READS IS OF BULK AT MOST 1048576: true; the input reads as it did. -/
def fnOffsetOfUptoRow : OpenClaim := { program := "ytokdoghgibahkaa", sum := "2f010f803cb12094afb4635f984ef7c22878a30598513dc1c1dbb2f8ea6ca25b", func := "loop.example/arraylanguage/laws.FnOffsetOf", spec := "fnOffsetOf", unfollowed := true, recurses := true, apart := false, narrowed := true }
def FnOffsetOfUptoSaid : Prop := fnOffsetOfUptoRow.holds Try.pinned (OpenSpec.upto fnOffsetOfSpec)

/-- 'laws.FnSizeOf', WHERE WHAT IT READS IS OF BULK AT MOST 1048576: true; the input reads as it did. -/
def fnSizeOfUptoRow : OpenClaim := { program := "ytokdoghgibahkaa", sum := "2f010f803cb12094afb4635f984ef7c22878a30598513dc1c1dbb2f8ea6ca25b", func := "loop.example/arraylanguage/laws.FnSizeOf", spec := "fnSizeOf", unfollowed := true, recurses := true, apart := false, narrowed := true }
def FnSizeOfUptoSaid : Prop := fnSizeOfUptoRow.holds Try.pinned (OpenSpec.upto fnSizeOfSpec)

end Rows
end Go.Proofs.Ytokdoghgibahkaa
