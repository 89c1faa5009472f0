/-
  No cell of these rows narrows 'for every input' (looked for: loops, veiled, ifaces, maps, wideKeys, modest, calm, conditions, laid).
  DERIVED. THE GIVEN ROWS OF THIS SEAT. 6 by the template 'for every input the law returns true; each argument reads behind the call as it read before'; 0 by the template 'total and deterministic' (their statements: YtijjoekejjnodaaTotals.lean).
  GIVEN WITH THE SEED: the statements are not yours to turn. If you find one false, say at which input.
  Laid BY PROGRAM, IN A SANDBOX (cutbox-rows.mjs): the forced cells as the released guide's own fill.sh prints them over the translation fd3fea96b5c6fb73… (all of the seat's roots in one cut). By AI agents, Wed Nov 11 2026. No macro, syntax, notation, axiom, sorry.
-/
import Derived.Test.YtijjoekejjnodaaChecked
import GoSem.Claim
import GoSem.ClaimJoined
import GoSem.ClaimMapViews
import Derived.JoinedTies
import Derived.KernelRfl
namespace Go.Proofs.Ytijjoekejjnodaa
/- THE CELL 'sum', in the pinned program and in every row, IS THE sha256 OF THE DUMP (.gsa) THAT YtijjoekejjnodaaProg.lean LOADS. Nothing in Lean hashes anything: it is a label: what it is worth is what the hold of that sum in a sandbox is worth. -/
noncomputable def Try.pinned : Pinned := { name := "ytijjoekejjnodaa", sum := "fd3fea96b5c6fb73de73e2fc2653ccf541ee7d5f426794154b3e5bc9ee080395", checked := Try.checked }
namespace Rows
def none {H : Type} : Left H := { results := [], args := [] }

/-- 'laws.FnExactOffsetOf': WHATEVER THE INPUT: true; the input reads as it did. -/
def fnExactOffsetOfSpec : ChangeSpec := { name := "fnExactOffsetOf", fn := fun _ => fun
  | [d1, d2] => { results := [.lit (.bool true)], args := [d1, d2] }
  | _ => none }
def fnExactOffsetOfRow : OpenClaim := { program := "ytijjoekejjnodaa", sum := "fd3fea96b5c6fb73de73e2fc2653ccf541ee7d5f426794154b3e5bc9ee080395", func := "loop.example/arraylanguage/laws.FnExactOffsetOf", spec := "fnExactOffsetOf", apart := false }
def FnExactOffsetOfSaid : Prop := fnExactOffsetOfRow.holds Try.pinned (OpenSpec.ofChange fnExactOffsetOfSpec)

/-- ITS FALSE NEIGHBOUR: 'it returns false'. Refute it at one input. -/
def fnExactOffsetOfWrong : ChangeSpec := { name := "fnExactOffsetOf", fn := fun _ => fun
  | [d1, d2] => { results := [.lit (.bool false)], args := [d1, d2] }
  | _ => none }
def FnExactOffsetOfWrongFalsely : Prop := fnExactOffsetOfRow.holds Try.pinned (OpenSpec.ofChange fnExactOffsetOfWrong)

/-- 'laws.FnExactItemAt': WHATEVER THE INPUT: true; the input reads as it did. -/
def fnExactItemAtSpec : ChangeSpec := { name := "fnExactItemAt", fn := fun _ => fun
  | [d1, d2] => { results := [.lit (.bool true)], args := [d1, d2] }
  | _ => none }
def fnExactItemAtRow : OpenClaim := { program := "ytijjoekejjnodaa", sum := "fd3fea96b5c6fb73de73e2fc2653ccf541ee7d5f426794154b3e5bc9ee080395", func := "loop.example/arraylanguage/laws.FnExactItemAt", spec := "fnExactItemAt", apart := false }
def FnExactItemAtSaid : Prop := fnExactItemAtRow.holds Try.pinned (OpenSpec.ofChange fnExactItemAtSpec)

/-- ITS FALSE NEIGHBOUR: 'it returns false'. Refute it at one input. -/
def fnExactItemAtWrong : ChangeSpec := { name := "fnExactItemAt", fn := fun _ => fun
  | [d1, d2] => { results := [.lit (.bool false)], args := [d1, d2] }
  | _ => none }
def FnExactItemAtWrongFalsely : Prop := fnExactItemAtRow.holds Try.pinned (OpenSpec.ofChange fnExactItemAtWrong)

/-- 'laws.FnExactWithItem': WHATEVER THE INPUT: true; the input reads as it did. -/
def fnExactWithItemSpec : ChangeSpec := { name := "fnExactWithItem", fn := fun _ => fun
  | [d1, d2, d3] => { results := [.lit (.bool true)], args := [d1, d2, d3] }
  | _ => none }
def fnExactWithItemRow : OpenClaim := { program := "ytijjoekejjnodaa", sum := "fd3fea96b5c6fb73de73e2fc2653ccf541ee7d5f426794154b3e5bc9ee080395", func := "loop.example/arraylanguage/laws.FnExactWithItem", spec := "fnExactWithItem", apart := false }
def FnExactWithItemSaid : Prop := fnExactWithItemRow.holds Try.pinned (OpenSpec.ofChange fnExactWithItemSpec)

/-- ITS FALSE NEIGHBOUR: 'it returns false'. Refute it at one input. -/
def fnExactWithItemWrong : ChangeSpec := { name := "fnExactWithItem", fn := fun _ => fun
  | [d1, d2, d3] => { results := [.lit (.bool false)], args := [d1, d2, d3] }
  | _ => none }
def FnExactWithItemWrongFalsely : Prop := fnExactWithItemRow.holds Try.pinned (OpenSpec.ofChange fnExactWithItemWrong)

/-- 'laws.FnOffsetOf': WHATEVER THE INPUT: true; the input reads as it did. -/
def fnOffsetOfSpec : ChangeSpec := { name := "fnOffsetOf", fn := fun _ => fun
  | [d] => { results := [.lit (.bool true)], args := [d] }
  | _ => none }
def fnOffsetOfRow : OpenClaim := { program := "ytijjoekejjnodaa", sum := "fd3fea96b5c6fb73de73e2fc2653ccf541ee7d5f426794154b3e5bc9ee080395", func := "loop.example/arraylanguage/laws.FnOffsetOf", spec := "fnOffsetOf", unfollowed := true, recurses := true, apart := false }
def FnOffsetOfSaid : Prop := fnOffsetOfRow.holds Try.pinned (OpenSpec.ofChange fnOffsetOfSpec)

/-- ITS FALSE NEIGHBOUR: 'it returns false'. Refute it at one input. -/
def fnOffsetOfWrong : ChangeSpec := { name := "fnOffsetOf", fn := fun _ => fun
  | [d] => { results := [.lit (.bool false)], args := [d] }
  | _ => none }
def FnOffsetOfWrongFalsely : Prop := fnOffsetOfRow.holds Try.pinned (OpenSpec.ofChange fnOffsetOfWrong)

/-- 'laws.FnItemAt': WHATEVER THE INPUT: true; the input reads as it did. -/
def fnItemAtSpec : ChangeSpec := { name := "fnItemAt", fn := fun _ => fun
  | [d] => { results := [.lit (.bool true)], args := [d] }
  | _ => none }
def fnItemAtRow : OpenClaim := { program := "ytijjoekejjnodaa", sum := "fd3fea96b5c6fb73de73e2fc2653ccf541ee7d5f426794154b3e5bc9ee080395", func := "loop.example/arraylanguage/laws.FnItemAt", spec := "fnItemAt", unfollowed := true, recurses := true, apart := false }
def FnItemAtSaid : Prop := fnItemAtRow.holds Try.pinned (OpenSpec.ofChange fnItemAtSpec)

/-- ITS FALSE NEIGHBOUR: 'it returns false'. Refute it at one input. -/
def fnItemAtWrong : ChangeSpec := { name := "fnItemAt", fn := fun _ => fun
  | [d] => { results := [.lit (.bool false)], args := [d] }
  | _ => none }
def FnItemAtWrongFalsely : Prop := fnItemAtRow.holds Try.pinned (OpenSpec.ofChange fnItemAtWrong)

/-- 'laws.FnValidArray': WHATEVER THE INPUT: true; the input reads as it did. -/
def fnValidArraySpec : ChangeSpec := { name := "fnValidArray", fn := fun _ => fun
  | [d] => { results := [.lit (.bool true)], args := [d] }
  | _ => none }
def fnValidArrayRow : OpenClaim := { program := "ytijjoekejjnodaa", sum := "fd3fea96b5c6fb73de73e2fc2653ccf541ee7d5f426794154b3e5bc9ee080395", func := "loop.example/arraylanguage/laws.FnValidArray", spec := "fnValidArray", apart := false }
def FnValidArraySaid : Prop := fnValidArrayRow.holds Try.pinned (OpenSpec.ofChange fnValidArraySpec)

/-- ITS FALSE NEIGHBOUR: 'it returns false'. Refute it at one input. -/
def fnValidArrayWrong : ChangeSpec := { name := "fnValidArray", fn := fun _ => fun
  | [d] => { results := [.lit (.bool false)], args := [d] }
  | _ => none }
def FnValidArrayWrongFalsely : Prop := fnValidArrayRow.holds Try.pinned (OpenSpec.ofChange fnValidArrayWrong)

/- THE SECOND FORM. 'bulk': how many values and letters a reading holds, each counted each time it is reached (what is shared counts as often as it is met; a slice's spare places count too). A statement '..UptoSaid' is the law's where the arguments, and the package variables that the reading takes, are together of bulk at most 1048576: NARROWER than '..Said'. Prove '..Said' where nothing that the law and all that it calls make is longer than what came in: it says more and counts as full. Else prove '..UptoSaid'. A law counts once. -/
mutual
def uptoBulk {H : Type} : DataW H → Nat
  | .lit (.string bytes) => bytes.length + 1
  | .lit _ => 1
  | .nil => 1
  | .ptr d => uptoBulk d + 1
  | .slice elems spare => uptoBulkAll elems + uptoBulkAll spare + 1
  | .agg parts => uptoBulkAll parts + 1
  | .iface _ d => uptoBulk d + 1
  | .map entries => uptoBulkEntries entries + 1
  | .held _ => 1
def uptoBulkAll {H : Type} : List (DataW H) → Nat
  | [] => 0
  | d :: r => uptoBulk d + uptoBulkAll r
def uptoBulkEntries {H : Type} : List (Lit × DataW H) → Nat
  | [] => 0
  | x :: r => uptoBulkEntry x + uptoBulkEntries r
def uptoBulkEntry {H : Type} : Lit × DataW H → Nat
  | (.string bytes, d) => bytes.length + uptoBulk d + 1
  | (_, d) => uptoBulk d + 1
 end
def uptoSmall : (H : Type) → List (DataW H) → Bool := fun _ ds => decide (uptoBulkAll ds ≤ 1048576)
def OpenSpec.upto (s : _root_.Go.ChangeSpec) : _root_.Go.OpenSpec := { _root_.Go.OpenSpec.ofChange s with cond := some uptoSmall }

/-- 'laws.FnExactOffsetOf', WHERE WHAT IT READS IS OF BULK AT MOST 1048576: true; the input reads as it did. -/
def fnExactOffsetOfUptoRow : OpenClaim := { program := "ytijjoekejjnodaa", sum := "fd3fea96b5c6fb73de73e2fc2653ccf541ee7d5f426794154b3e5bc9ee080395", func := "loop.example/arraylanguage/laws.FnExactOffsetOf", spec := "fnExactOffsetOf", apart := false, narrowed := true }
def FnExactOffsetOfUptoSaid : Prop := fnExactOffsetOfUptoRow.holds Try.pinned (OpenSpec.upto fnExactOffsetOfSpec)

/-- 'laws.FnExactItemAt', WHERE WHAT IT READS IS OF BULK AT MOST 1048576: true; the input reads as it did. -/
def fnExactItemAtUptoRow : OpenClaim := { program := "ytijjoekejjnodaa", sum := "fd3fea96b5c6fb73de73e2fc2653ccf541ee7d5f426794154b3e5bc9ee080395", func := "loop.example/arraylanguage/laws.FnExactItemAt", spec := "fnExactItemAt", apart := false, narrowed := true }
def FnExactItemAtUptoSaid : Prop := fnExactItemAtUptoRow.holds Try.pinned (OpenSpec.upto fnExactItemAtSpec)

/-- 'laws.FnExactWithItem', WHERE WHAT IT READS IS OF BULK AT MOST 1048576: true; the input reads as it did. -/
def fnExactWithItemUptoRow : OpenClaim := { program := "ytijjoekejjnodaa", sum := "fd3fea96b5c6fb73de73e2fc2653ccf541ee7d5f426794154b3e5bc9ee080395", func := "loop.example/arraylanguage/laws.FnExactWithItem", spec := "fnExactWithItem", apart := false, narrowed := true }
def FnExactWithItemUptoSaid : Prop := fnExactWithItemUptoRow.holds Try.pinned (OpenSpec.upto fnExactWithItemSpec)

/-- 'laws.FnOffsetOf', WHERE WHAT IT READS IS OF BULK AT MOST 1048576: true; the input reads as it did. -/
def fnOffsetOfUptoRow : OpenClaim := { program := "ytijjoekejjnodaa", sum := "fd3fea96b5c6fb73de73e2fc2653ccf541ee7d5f426794154b3e5bc9ee080395", func := "loop.example/arraylanguage/laws.FnOffsetOf", spec := "fnOffsetOf", unfollowed := true, recurses := true, apart := false, narrowed := true }
def FnOffsetOfUptoSaid : Prop := fnOffsetOfUptoRow.holds Try.pinned (OpenSpec.upto fnOffsetOfSpec)

/-- 'laws.FnItemAt', WHERE WHAT IT READS IS OF BULK AT MOST 1048576: true; the input reads as it did. -/
def fnItemAtUptoRow : OpenClaim := { program := "ytijjoekejjnodaa", sum := "fd3fea96b5c6fb73de73e2fc2653ccf541ee7d5f426794154b3e5bc9ee080395", func := "loop.example/arraylanguage/laws.FnItemAt", spec := "fnItemAt", unfollowed := true, recurses := true, apart := false, narrowed := true }
def FnItemAtUptoSaid : Prop := fnItemAtUptoRow.holds Try.pinned (OpenSpec.upto fnItemAtSpec)

/-- 'laws.FnValidArray', WHERE WHAT IT READS IS OF BULK AT MOST 1048576: true; the input reads as it did. -/
def fnValidArrayUptoRow : OpenClaim := { program := "ytijjoekejjnodaa", sum := "fd3fea96b5c6fb73de73e2fc2653ccf541ee7d5f426794154b3e5bc9ee080395", func := "loop.example/arraylanguage/laws.FnValidArray", spec := "fnValidArray", apart := false, narrowed := true }
def FnValidArrayUptoSaid : Prop := fnValidArrayUptoRow.holds Try.pinned (OpenSpec.upto fnValidArraySpec)

end Rows
end Go.Proofs.Ytijjoekejjnodaa
