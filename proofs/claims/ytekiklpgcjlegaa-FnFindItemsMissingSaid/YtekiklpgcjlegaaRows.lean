/-
  No cell of these rows narrows 'for every input' (looked for: loops, veiled, ifaces, maps, wideKeys, modest, calm, conditions, laid).
  DERIVED. THE GIVEN ROWS OF THIS SEAT. 6 by the template 'for every input the law returns true; each argument reads behind the call as it read before'; 0 by the template 'total and deterministic' (their statements: YtekiklpgcjlegaaTotals.lean).
  GIVEN WITH THE SEED: the statements are not yours to turn. If you find one false, say at which input.
  Laid BY PROGRAM, IN A SANDBOX (cutbox-rows.mjs): the forced cells as the released guide's own fill.sh prints them over the translation 2228a959c3092941… (all of the seat's roots in one cut). By AI agents, Wed Nov 11 2026. No macro, syntax, notation, axiom, sorry.
-/
import Derived.Test.YtekiklpgcjlegaaChecked
import GoSem.Claim
import GoSem.ClaimJoined
import GoSem.ClaimMapViews
import Derived.JoinedTies
import Derived.KernelRfl
namespace Go.Proofs.Ytekiklpgcjlegaa
/- THE CELL 'sum', in the pinned program and in every row, IS THE sha256 OF THE DUMP (.gsa) THAT YtekiklpgcjlegaaProg.lean LOADS. Nothing in Lean hashes anything: it is a label: what it is worth is what the hold of that sum in a sandbox is worth. -/
noncomputable def Try.pinned : Pinned := { name := "ytekiklpgcjlegaa", sum := "2228a959c3092941935bebec4f4cece1438b4feb85f37f0f9495439365a68eb1", checked := Try.checked }
namespace Rows
def none {H : Type} : Left H := { results := [], args := [] }

/-- 'laws.FnPolyAt': WHATEVER THE INPUT: true; the input reads as it did. -/
def fnPolyAtSpec : ChangeSpec := { name := "fnPolyAt", fn := fun _ => fun
  | [d] => { results := [.lit (.bool true)], args := [d] }
  | _ => none }
def fnPolyAtRow : OpenClaim := { program := "ytekiklpgcjlegaa", sum := "2228a959c3092941935bebec4f4cece1438b4feb85f37f0f9495439365a68eb1", func := "loop.example/arraylanguage/laws.FnPolyAt", spec := "fnPolyAt", apart := false }
def FnPolyAtSaid : Prop := fnPolyAtRow.holds Try.pinned (OpenSpec.ofChange fnPolyAtSpec)

/-- ITS FALSE NEIGHBOUR: 'it returns false'. Refute it at one input. -/
def fnPolyAtWrong : ChangeSpec := { name := "fnPolyAt", fn := fun _ => fun
  | [d] => { results := [.lit (.bool false)], args := [d] }
  | _ => none }
def FnPolyAtWrongFalsely : Prop := fnPolyAtRow.holds Try.pinned (OpenSpec.ofChange fnPolyAtWrong)

/-- 'laws.FnPolyAtStep': WHATEVER THE INPUT: true; the input reads as it did. -/
def fnPolyAtStepSpec : ChangeSpec := { name := "fnPolyAtStep", fn := fun _ => fun
  | [d] => { results := [.lit (.bool true)], args := [d] }
  | _ => none }
def fnPolyAtStepRow : OpenClaim := { program := "ytekiklpgcjlegaa", sum := "2228a959c3092941935bebec4f4cece1438b4feb85f37f0f9495439365a68eb1", func := "loop.example/arraylanguage/laws.FnPolyAtStep", spec := "fnPolyAtStep", unfollowed := true, recurses := true, apart := false }
def FnPolyAtStepSaid : Prop := fnPolyAtStepRow.holds Try.pinned (OpenSpec.ofChange fnPolyAtStepSpec)

/-- ITS FALSE NEIGHBOUR: 'it returns false'. Refute it at one input. -/
def fnPolyAtStepWrong : ChangeSpec := { name := "fnPolyAtStep", fn := fun _ => fun
  | [d] => { results := [.lit (.bool false)], args := [d] }
  | _ => none }
def FnPolyAtStepWrongFalsely : Prop := fnPolyAtStepRow.holds Try.pinned (OpenSpec.ofChange fnPolyAtStepWrong)

/-- 'laws.FnPickItems': WHATEVER THE INPUT: true; the input reads as it did. -/
def fnPickItemsSpec : ChangeSpec := { name := "fnPickItems", fn := fun _ => fun
  | [d] => { results := [.lit (.bool true)], args := [d] }
  | _ => none }
def fnPickItemsRow : OpenClaim := { program := "ytekiklpgcjlegaa", sum := "2228a959c3092941935bebec4f4cece1438b4feb85f37f0f9495439365a68eb1", func := "loop.example/arraylanguage/laws.FnPickItems", spec := "fnPickItems", apart := false }
def FnPickItemsSaid : Prop := fnPickItemsRow.holds Try.pinned (OpenSpec.ofChange fnPickItemsSpec)

/-- ITS FALSE NEIGHBOUR: 'it returns false'. Refute it at one input. -/
def fnPickItemsWrong : ChangeSpec := { name := "fnPickItems", fn := fun _ => fun
  | [d] => { results := [.lit (.bool false)], args := [d] }
  | _ => none }
def FnPickItemsWrongFalsely : Prop := fnPickItemsRow.holds Try.pinned (OpenSpec.ofChange fnPickItemsWrong)

/-- 'laws.FnFindItems': WHATEVER THE INPUT: true; the input reads as it did. -/
def fnFindItemsSpec : ChangeSpec := { name := "fnFindItems", fn := fun _ => fun
  | [d] => { results := [.lit (.bool true)], args := [d] }
  | _ => none }
def fnFindItemsRow : OpenClaim := { program := "ytekiklpgcjlegaa", sum := "2228a959c3092941935bebec4f4cece1438b4feb85f37f0f9495439365a68eb1", func := "loop.example/arraylanguage/laws.FnFindItems", spec := "fnFindItems", apart := false }
def FnFindItemsSaid : Prop := fnFindItemsRow.holds Try.pinned (OpenSpec.ofChange fnFindItemsSpec)

/-- ITS FALSE NEIGHBOUR: 'it returns false'. Refute it at one input. -/
def fnFindItemsWrong : ChangeSpec := { name := "fnFindItems", fn := fun _ => fun
  | [d] => { results := [.lit (.bool false)], args := [d] }
  | _ => none }
def FnFindItemsWrongFalsely : Prop := fnFindItemsRow.holds Try.pinned (OpenSpec.ofChange fnFindItemsWrong)

/-- 'laws.FnFindItemsOwn': WHATEVER THE INPUT: true; the input reads as it did. -/
def fnFindItemsOwnSpec : ChangeSpec := { name := "fnFindItemsOwn", fn := fun _ => fun
  | [d] => { results := [.lit (.bool true)], args := [d] }
  | _ => none }
def fnFindItemsOwnRow : OpenClaim := { program := "ytekiklpgcjlegaa", sum := "2228a959c3092941935bebec4f4cece1438b4feb85f37f0f9495439365a68eb1", func := "loop.example/arraylanguage/laws.FnFindItemsOwn", spec := "fnFindItemsOwn", apart := false }
def FnFindItemsOwnSaid : Prop := fnFindItemsOwnRow.holds Try.pinned (OpenSpec.ofChange fnFindItemsOwnSpec)

/-- ITS FALSE NEIGHBOUR: 'it returns false'. Refute it at one input. -/
def fnFindItemsOwnWrong : ChangeSpec := { name := "fnFindItemsOwn", fn := fun _ => fun
  | [d] => { results := [.lit (.bool false)], args := [d] }
  | _ => none }
def FnFindItemsOwnWrongFalsely : Prop := fnFindItemsOwnRow.holds Try.pinned (OpenSpec.ofChange fnFindItemsOwnWrong)

/-- 'laws.FnFindItemsMissing': WHATEVER THE INPUT: true; the input reads as it did. -/
def fnFindItemsMissingSpec : ChangeSpec := { name := "fnFindItemsMissing", fn := fun _ => fun
  | [d] => { results := [.lit (.bool true)], args := [d] }
  | _ => none }
def fnFindItemsMissingRow : OpenClaim := { program := "ytekiklpgcjlegaa", sum := "2228a959c3092941935bebec4f4cece1438b4feb85f37f0f9495439365a68eb1", func := "loop.example/arraylanguage/laws.FnFindItemsMissing", spec := "fnFindItemsMissing", apart := false }
def FnFindItemsMissingSaid : Prop := fnFindItemsMissingRow.holds Try.pinned (OpenSpec.ofChange fnFindItemsMissingSpec)

/-- ITS FALSE NEIGHBOUR: 'it returns false'. Refute it at one input. -/
def fnFindItemsMissingWrong : ChangeSpec := { name := "fnFindItemsMissing", fn := fun _ => fun
  | [d] => { results := [.lit (.bool false)], args := [d] }
  | _ => none }
def FnFindItemsMissingWrongFalsely : Prop := fnFindItemsMissingRow.holds Try.pinned (OpenSpec.ofChange fnFindItemsMissingWrong)

/- THE SECOND FORM. 'bulk': how many values and letters a reading holds, each counted each time it is reached (what is shared counts as often as it is met; a slice's spare places count too). A statement '..UptoSaid' is the law's where the arguments, and the package variables that the reading takes, are together of bulk at most 1048576: NARROWER than '..Said'. Prove '..Said' where nothing that the law and all that it calls make is longer than what came in: it says more and counts as full. Else prove '..UptoSaid'. A law counts once. -/
mutual
def uptoBulk {H : Type} : DataW H → Nat
  | .lit (.string bytes) => bytes.length + 1
  | .lit _ => 1
  | .nil => 1
  | .ptr d => uptoBulk d + 1
  | .slice elems spare => uptoBulkAll elems + uptoBulkAll spare + 1
  | .agg parts => uptoBulkAll parts + 1
  | .iface _ d => uptoBulk d + 1
  | .map entries => uptoBulkEntries entries + 1
  | .held _ => 1
def uptoBulkAll {H : Type} : List (DataW H) → Nat
  | [] => 0
  | d :: r => uptoBulk d + uptoBulkAll r
def uptoBulkEntries {H : Type} : List (Lit × DataW H) → Nat
  | [] => 0
  | x :: r => uptoBulkEntry x + uptoBulkEntries r
def uptoBulkEntry {H : Type} : Lit × DataW H → Nat
  | (.string bytes, d) => bytes.length + uptoBulk d + 1
  | (_, d) => uptoBulk d + 1
 end
def uptoSmall : (H : Type) → List (DataW H) → Bool := fun _ ds => decide (uptoBulkAll ds ≤ 1048576)
def OpenSpec.upto (s : _root_.Go.ChangeSpec) : _root_.Go.OpenSpec := { _root_.Go.OpenSpec.ofChange s with cond := some uptoSmall }

/-- 'laws.FnPolyAt', WHERE WHAT IT READS IS OF BULK AT MOST 1048576: true; the input reads as it did. -/
def fnPolyAtUptoRow : OpenClaim := { program := "ytekiklpgcjlegaa", sum := "2228a959c3092941935bebec4f4cece1438b4feb85f37f0f9495439365a68eb1", func := "loop.example/arraylanguage/laws.FnPolyAt", spec := "fnPolyAt", apart := false, narrowed := true }
def FnPolyAtUptoSaid : Prop := fnPolyAtUptoRow.holds Try.pinned (OpenSpec.upto fnPolyAtSpec)

/-- 'laws.FnPolyAtStep', WHERE WHAT IT READS IS OF BULK AT MOST 1048576: true; the input reads as it did. -/
def fnPolyAtStepUptoRow : OpenClaim := { program := "ytekiklpgcjlegaa", sum := "2228a959c3092941935bebec4f4cece1438b4feb85f37f0f9495439365a68eb1", func := "loop.example/arraylanguage/laws.FnPolyAtStep", spec := "fnPolyAtStep", unfollowed := true, recurses := true, apart := false, narrowed := true }
def FnPolyAtStepUptoSaid : Prop := fnPolyAtStepUptoRow.holds Try.pinned (OpenSpec.upto fnPolyAtStepSpec)

/-- 'laws.FnPickItems', WHERE WHAT IT READS IS OF BULK AT MOST 1048576: true; the input reads as it did. -/
def fnPickItemsUptoRow : OpenClaim := { program := "ytekiklpgcjlegaa", sum := "2228a959c3092941935bebec4f4cece1438b4feb85f37f0f9495439365a68eb1", func := "loop.example/arraylanguage/laws.FnPickItems", spec := "fnPickItems", apart := false, narrowed := true }
def FnPickItemsUptoSaid : Prop := fnPickItemsUptoRow.holds Try.pinned (OpenSpec.upto fnPickItemsSpec)

/-- 'laws.FnFindItems', WHERE WHAT IT READS IS OF BULK AT MOST 1048576: true; the input reads as it did. -/
def fnFindItemsUptoRow : OpenClaim := { program := "ytekiklpgcjlegaa", sum := "2228a959c3092941935bebec4f4cece1438b4feb85f37f0f9495439365a68eb1", func := "loop.example/arraylanguage/laws.FnFindItems", spec := "fnFindItems", apart := false, narrowed := true }
def FnFindItemsUptoSaid : Prop := fnFindItemsUptoRow.holds Try.pinned (OpenSpec.upto fnFindItemsSpec)

/-- 'laws.FnFindItemsOwn', WHERE WHAT IT READS IS OF BULK AT MOST 1048576: true; the input reads as it did. -/
def fnFindItemsOwnUptoRow : OpenClaim := { program := "ytekiklpgcjlegaa", sum := "2228a959c3092941935bebec4f4cece1438b4feb85f37f0f9495439365a68eb1", func := "loop.example/arraylanguage/laws.FnFindItemsOwn", spec := "fnFindItemsOwn", apart := false, narrowed := true }
def FnFindItemsOwnUptoSaid : Prop := fnFindItemsOwnUptoRow.holds Try.pinned (OpenSpec.upto fnFindItemsOwnSpec)

/-- 'laws.FnFindItemsMissing', WHERE WHAT IT READS IS OF BULK AT MOST 1048576: true; the input reads as it did. -/
def fnFindItemsMissingUptoRow : OpenClaim := { program := "ytekiklpgcjlegaa", sum := "2228a959c3092941935bebec4f4cece1438b4feb85f37f0f9495439365a68eb1", func := "loop.example/arraylanguage/laws.FnFindItemsMissing", spec := "fnFindItemsMissing", apart := false, narrowed := true }
def FnFindItemsMissingUptoSaid : Prop := fnFindItemsMissingUptoRow.holds Try.pinned (OpenSpec.upto fnFindItemsMissingSpec)

end Rows
end Go.Proofs.Ytekiklpgcjlegaa
