/-
  No cell of these rows narrows 'for every input' (looked for: loops, veiled, ifaces, maps, wideKeys, modest, calm, conditions, laid).
  DERIVED. THE GIVEN ROWS OF THIS SEAT. 6 by the template 'for every input the law returns true; each argument reads behind the call as it read before'; 0 by the template 'total and deterministic' (their statements: YtmmchfmhdhndcabTotals.lean).
  GIVEN WITH THE SEED: the statements are not yours to turn. If you find one false, say at which input.
  Laid BY PROGRAM, IN A SANDBOX (cutbox-rows.mjs): the forced cells as the released guide's own fill.sh prints them over the translation 0fbaf8137604dfcb… (all of the seat's roots in one cut). By AI agents, Wed Nov 11 2026. No macro, syntax, notation, axiom, sorry.
-/
import Derived.Test.YtmmchfmhdhndcabChecked
import GoSem.Claim
import GoSem.ClaimJoined
import GoSem.ClaimMapViews
import Derived.JoinedTies
import Derived.KernelRfl
namespace Go.Proofs.Ytmmchfmhdhndcab
/- THE CELL 'sum', in the pinned program and in every row, IS THE sha256 OF THE DUMP (.gsa) THAT YtmmchfmhdhndcabProg.lean LOADS. Nothing in Lean hashes anything: it is a label: what it is worth is what the hold of that sum in a sandbox is worth. -/
noncomputable def Try.pinned : Pinned := { name := "ytmmchfmhdhndcab", sum := "0fbaf8137604dfcb8625eb8977f6fbde6274147c881f2196687fb7d5014adfb4", checked := Try.checked }
namespace Rows
def none {H : Type} : Left H := { results := [], args := [] }

/-- 'laws.FnExactMoveAxes': WHATEVER THE INPUT: true; the input reads as it did. -/
def fnExactMoveAxesSpec : ChangeSpec := { name := "fnExactMoveAxes", fn := fun _ => fun
  | [d1, d2] => { results := [.lit (.bool true)], args := [d1, d2] }
  | _ => none }
def fnExactMoveAxesRow : OpenClaim := { program := "ytmmchfmhdhndcab", sum := "0fbaf8137604dfcb8625eb8977f6fbde6274147c881f2196687fb7d5014adfb4", func := "loop.example/arraylanguage/laws.FnExactMoveAxes", spec := "fnExactMoveAxes", unfollowed := true, recurses := true, apart := false }
def FnExactMoveAxesSaid : Prop := fnExactMoveAxesRow.holds Try.pinned (OpenSpec.ofChange fnExactMoveAxesSpec)

/-- ITS FALSE NEIGHBOUR: 'it returns false'. Refute it at one input. -/
def fnExactMoveAxesWrong : ChangeSpec := { name := "fnExactMoveAxes", fn := fun _ => fun
  | [d1, d2] => { results := [.lit (.bool false)], args := [d1, d2] }
  | _ => none }
def FnExactMoveAxesWrongFalsely : Prop := fnExactMoveAxesRow.holds Try.pinned (OpenSpec.ofChange fnExactMoveAxesWrong)

/-- 'laws.FnExactTranspose': WHATEVER THE INPUT: true; the input reads as it did. -/
def fnExactTransposeSpec : ChangeSpec := { name := "fnExactTranspose", fn := fun _ => fun
  | [d] => { results := [.lit (.bool true)], args := [d] }
  | _ => none }
def fnExactTransposeRow : OpenClaim := { program := "ytmmchfmhdhndcab", sum := "0fbaf8137604dfcb8625eb8977f6fbde6274147c881f2196687fb7d5014adfb4", func := "loop.example/arraylanguage/laws.FnExactTranspose", spec := "fnExactTranspose", unfollowed := true, recurses := true, apart := false }
def FnExactTransposeSaid : Prop := fnExactTransposeRow.holds Try.pinned (OpenSpec.ofChange fnExactTransposeSpec)

/-- ITS FALSE NEIGHBOUR: 'it returns false'. Refute it at one input. -/
def fnExactTransposeWrong : ChangeSpec := { name := "fnExactTranspose", fn := fun _ => fun
  | [d] => { results := [.lit (.bool false)], args := [d] }
  | _ => none }
def FnExactTransposeWrongFalsely : Prop := fnExactTransposeRow.holds Try.pinned (OpenSpec.ofChange fnExactTransposeWrong)

/-- 'laws.FnExactDiagonal': WHATEVER THE INPUT: true; the input reads as it did. -/
def fnExactDiagonalSpec : ChangeSpec := { name := "fnExactDiagonal", fn := fun _ => fun
  | [d] => { results := [.lit (.bool true)], args := [d] }
  | _ => none }
def fnExactDiagonalRow : OpenClaim := { program := "ytmmchfmhdhndcab", sum := "0fbaf8137604dfcb8625eb8977f6fbde6274147c881f2196687fb7d5014adfb4", func := "loop.example/arraylanguage/laws.FnExactDiagonal", spec := "fnExactDiagonal", unfollowed := true, recurses := true, apart := false }
def FnExactDiagonalSaid : Prop := fnExactDiagonalRow.holds Try.pinned (OpenSpec.ofChange fnExactDiagonalSpec)

/-- ITS FALSE NEIGHBOUR: 'it returns false'. Refute it at one input. -/
def fnExactDiagonalWrong : ChangeSpec := { name := "fnExactDiagonal", fn := fun _ => fun
  | [d] => { results := [.lit (.bool false)], args := [d] }
  | _ => none }
def FnExactDiagonalWrongFalsely : Prop := fnExactDiagonalRow.holds Try.pinned (OpenSpec.ofChange fnExactDiagonalWrong)

/-- 'laws.FnExactOrderBack': WHATEVER THE INPUT: true; the input reads as it did. -/
def fnExactOrderBackSpec : ChangeSpec := { name := "fnExactOrderBack", fn := fun _ => fun
  | [d] => { results := [.lit (.bool true)], args := [d] }
  | _ => none }
def fnExactOrderBackRow : OpenClaim := { program := "ytmmchfmhdhndcab", sum := "0fbaf8137604dfcb8625eb8977f6fbde6274147c881f2196687fb7d5014adfb4", func := "loop.example/arraylanguage/laws.FnExactOrderBack", spec := "fnExactOrderBack", apart := false }
def FnExactOrderBackSaid : Prop := fnExactOrderBackRow.holds Try.pinned (OpenSpec.ofChange fnExactOrderBackSpec)

/-- ITS FALSE NEIGHBOUR: 'it returns false'. Refute it at one input. -/
def fnExactOrderBackWrong : ChangeSpec := { name := "fnExactOrderBack", fn := fun _ => fun
  | [d] => { results := [.lit (.bool false)], args := [d] }
  | _ => none }
def FnExactOrderBackWrongFalsely : Prop := fnExactOrderBackRow.holds Try.pinned (OpenSpec.ofChange fnExactOrderBackWrong)

/-- 'laws.FnOrderBack': WHATEVER THE INPUT: true; the input reads as it did. -/
def fnOrderBackSpec : ChangeSpec := { name := "fnOrderBack", fn := fun _ => fun
  | [d] => { results := [.lit (.bool true)], args := [d] }
  | _ => none }
def fnOrderBackRow : OpenClaim := { program := "ytmmchfmhdhndcab", sum := "0fbaf8137604dfcb8625eb8977f6fbde6274147c881f2196687fb7d5014adfb4", func := "loop.example/arraylanguage/laws.FnOrderBack", spec := "fnOrderBack", apart := false }
def FnOrderBackSaid : Prop := fnOrderBackRow.holds Try.pinned (OpenSpec.ofChange fnOrderBackSpec)

/-- ITS FALSE NEIGHBOUR: 'it returns false'. Refute it at one input. -/
def fnOrderBackWrong : ChangeSpec := { name := "fnOrderBack", fn := fun _ => fun
  | [d] => { results := [.lit (.bool false)], args := [d] }
  | _ => none }
def FnOrderBackWrongFalsely : Prop := fnOrderBackRow.holds Try.pinned (OpenSpec.ofChange fnOrderBackWrong)

/-- 'laws.FnMoveAxesSame': WHATEVER THE INPUT: true; the input reads as it did. -/
def fnMoveAxesSameSpec : ChangeSpec := { name := "fnMoveAxesSame", fn := fun _ => fun
  | [d] => { results := [.lit (.bool true)], args := [d] }
  | _ => none }
def fnMoveAxesSameRow : OpenClaim := { program := "ytmmchfmhdhndcab", sum := "0fbaf8137604dfcb8625eb8977f6fbde6274147c881f2196687fb7d5014adfb4", func := "loop.example/arraylanguage/laws.FnMoveAxesSame", spec := "fnMoveAxesSame", unfollowed := true, recurses := true, apart := false }
def FnMoveAxesSameSaid : Prop := fnMoveAxesSameRow.holds Try.pinned (OpenSpec.ofChange fnMoveAxesSameSpec)

/-- ITS FALSE NEIGHBOUR: 'it returns false'. Refute it at one input. -/
def fnMoveAxesSameWrong : ChangeSpec := { name := "fnMoveAxesSame", fn := fun _ => fun
  | [d] => { results := [.lit (.bool false)], args := [d] }
  | _ => none }
def FnMoveAxesSameWrongFalsely : Prop := fnMoveAxesSameRow.holds Try.pinned (OpenSpec.ofChange fnMoveAxesSameWrong)

/- THE SECOND FORM. 'bulk': how many values and letters a reading holds, each counted each time it is reached (what is shared counts as often as it is met; a slice's spare places count too). A statement '..UptoSaid' is the law's where the arguments, and the package variables that the reading takes, are together of bulk at most 1048576: NARROWER than '..Said'. Prove '..Said' where nothing that the law and all that it calls make is longer than what came in: it says more and counts as full. Else prove '..UptoSaid'. A law counts once. -/
mutual
def uptoBulk {H : Type} : DataW H → Nat
  | .lit (.string bytes) => bytes.length + 1
  | .lit _ => 1
  | .nil => 1
  | .ptr d => uptoBulk d + 1
  | .slice elems spare => uptoBulkAll elems + uptoBulkAll spare + 1
  | .agg parts => uptoBulkAll parts + 1
  | .iface _ d => uptoBulk d + 1
  | .map entries => uptoBulkEntries entries + 1
  | .held _ => 1
def uptoBulkAll {H : Type} : List (DataW H) → Nat
  | [] => 0
  | d :: r => uptoBulk d + uptoBulkAll r
def uptoBulkEntries {H : Type} : List (Lit × DataW H) → Nat
  | [] => 0
  | x :: r => uptoBulkEntry x + uptoBulkEntries r
def uptoBulkEntry {H : Type} : Lit × DataW H → Nat
  | (.string bytes, d) => bytes.length + uptoBulk d + 1
  | (_, d) => uptoBulk d + 1
 end
def uptoSmall : (H : Type) → List (DataW H) → Bool := fun _ ds => decide (uptoBulkAll ds ≤ 1048576)
def OpenSpec.upto (s : _root_.Go.ChangeSpec) : _root_.Go.OpenSpec := { _root_.Go.OpenSpec.ofChange s with cond := some uptoSmall }

/-- 'laws.FnExactMoveAxes', WHERE WHAT IT READS IS OF BULK AT MOST 1048576: true; the input reads as it did. -/
def fnExactMoveAxesUptoRow : OpenClaim := { program := "ytmmchfmhdhndcab", sum := "0fbaf8137604dfcb8625eb8977f6fbde6274147c881f2196687fb7d5014adfb4", func := "loop.example/arraylanguage/laws.FnExactMoveAxes", spec := "fnExactMoveAxes", unfollowed := true, recurses := true, apart := false, narrowed := true }
def FnExactMoveAxesUptoSaid : Prop := fnExactMoveAxesUptoRow.holds Try.pinned (OpenSpec.upto fnExactMoveAxesSpec)

/-- 'laws.FnExactTranspose', WHERE WHAT IT READS IS OF BULK AT MOST 1048576: true; the input reads as it did. -/
def fnExactTransposeUptoRow : OpenClaim := { program := "ytmmchfmhdhndcab", sum := "0fbaf8137604dfcb8625eb8977f6fbde6274147c881f2196687fb7d5014adfb4", func := "loop.example/arraylanguage/laws.FnExactTranspose", spec := "fnExactTranspose", unfollowed := true, recurses := true, apart := false, narrowed := true }
def FnExactTransposeUptoSaid : Prop := fnExactTransposeUptoRow.holds Try.pinned (OpenSpec.upto fnExactTransposeSpec)

/-- 'laws.FnExactDiagonal', WHERE WHAT IT READS IS OF BULK AT MOST 1048576: true; the input reads as it did. -/
def fnExactDiagonalUptoRow : OpenClaim := { program := "ytmmchfmhdhndcab", sum := "0fbaf8137604dfcb8625eb8977f6fbde6274147c881f2196687fb7d5014adfb4", func := "loop.example/arraylanguage/laws.FnExactDiagonal", spec := "fnExactDiagonal", unfollowed := true, recurses := true, apart := false, narrowed := true }
def FnExactDiagonalUptoSaid : Prop := fnExactDiagonalUptoRow.holds Try.pinned (OpenSpec.upto fnExactDiagonalSpec)

/-- 'laws.FnExactOrderBack', WHERE WHAT IT READS IS OF BULK AT MOST 1048576: true; the input reads as it did. -/
def fnExactOrderBackUptoRow : OpenClaim := { program := "ytmmchfmhdhndcab", sum := "0fbaf8137604dfcb8625eb8977f6fbde6274147c881f2196687fb7d5014adfb4", func := "loop.example/arraylanguage/laws.FnExactOrderBack", spec := "fnExactOrderBack", apart := false, narrowed := true }
def FnExactOrderBackUptoSaid : Prop := fnExactOrderBackUptoRow.holds Try.pinned (OpenSpec.upto fnExactOrderBackSpec)

/-- 'laws.FnOrderBack', WHERE WHAT IT READS IS OF BULK AT MOST 1048576: true; the input reads as it did. -/
def fnOrderBackUptoRow : OpenClaim := { program := "ytmmchfmhdhndcab", sum := "0fbaf8137604dfcb8625eb8977f6fbde6274147c881f2196687fb7d5014adfb4", func := "loop.example/arraylanguage/laws.FnOrderBack", spec := "fnOrderBack", apart := false, narrowed := true }
def FnOrderBackUptoSaid : Prop := fnOrderBackUptoRow.holds Try.pinned (OpenSpec.upto fnOrderBackSpec)

/-- 'laws.FnMoveAxesSame', WHERE WHAT IT READS IS OF BULK AT MOST 1048576: true; the input reads as it did. -/
def fnMoveAxesSameUptoRow : OpenClaim := { program := "ytmmchfmhdhndcab", sum := "0fbaf8137604dfcb8625eb8977f6fbde6274147c881f2196687fb7d5014adfb4", func := "loop.example/arraylanguage/laws.FnMoveAxesSame", spec := "fnMoveAxesSame", unfollowed := true, recurses := true, apart := false, narrowed := true }
def FnMoveAxesSameUptoSaid : Prop := fnMoveAxesSameUptoRow.holds Try.pinned (OpenSpec.upto fnMoveAxesSameSpec)

end Rows
end Go.Proofs.Ytmmchfmhdhndcab
