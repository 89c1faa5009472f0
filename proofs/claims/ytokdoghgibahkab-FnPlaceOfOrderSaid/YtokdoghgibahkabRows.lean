/-
  No cell of these rows narrows 'for every input' (looked for: loops, veiled, ifaces, maps, wideKeys, modest, calm, conditions, laid).
  DERIVED. THE GIVEN ROWS OF THIS SEAT. 6 by the template 'for every input the law returns true; each argument reads behind the call as it read before'; 0 by the template 'total and deterministic' (their statements: YtokdoghgibahkabTotals.lean).
  GIVEN WITH THE SEED: the statements are not yours to turn. If you find one false, say at which input.
  Laid BY PROGRAM, IN A SANDBOX (cutbox-rows.mjs): the forced cells as the released guide's own fill.sh prints them over the translation 64ac1b5536bbfced… (all of the seat's roots in one cut). By AI agents, Wed Nov 11 2026. No macro, syntax, notation, axiom, sorry.
-/
import Derived.Test.YtokdoghgibahkabChecked
import GoSem.Claim
import GoSem.ClaimJoined
import GoSem.ClaimMapViews
import Derived.JoinedTies
import Derived.KernelRfl
namespace Go.Proofs.Ytokdoghgibahkab
/- THE CELL 'sum', in the pinned program and in every row, IS THE sha256 OF THE DUMP (.gsa) THAT YtokdoghgibahkabProg.lean LOADS. Nothing in Lean hashes anything: it is a label: what it is worth is what the hold of that sum in a sandbox is worth. -/
noncomputable def Try.pinned : Pinned := { name := "ytokdoghgibahkab", sum := "64ac1b5536bbfced2cb03065bedc537149ef1ea2389fd65c0ab1b1afa9923c59", checked := Try.checked }
namespace Rows
def none {H : Type} : Left H := { results := [], args := [] }

/-- 'laws.FnPlaceOf': WHATEVER THE INPUT: true; the input reads as it did. -/
def fnPlaceOfSpec : ChangeSpec := { name := "fnPlaceOf", fn := fun _ => fun
  | [d] => { results := [.lit (.bool true)], args := [d] }
  | _ => none }
def fnPlaceOfRow : OpenClaim := { program := "ytokdoghgibahkab", sum := "64ac1b5536bbfced2cb03065bedc537149ef1ea2389fd65c0ab1b1afa9923c59", func := "loop.example/arraylanguage/laws.FnPlaceOf", spec := "fnPlaceOf", unfollowed := true, recurses := true, apart := false }
def FnPlaceOfSaid : Prop := fnPlaceOfRow.holds Try.pinned (OpenSpec.ofChange fnPlaceOfSpec)

/-- ITS FALSE NEIGHBOUR: 'it returns false'. Refute it at one input. -/
def fnPlaceOfWrong : ChangeSpec := { name := "fnPlaceOf", fn := fun _ => fun
  | [d] => { results := [.lit (.bool false)], args := [d] }
  | _ => none }
def FnPlaceOfWrongFalsely : Prop := fnPlaceOfRow.holds Try.pinned (OpenSpec.ofChange fnPlaceOfWrong)

/-- 'laws.FnPlaceOfOrder': WHATEVER THE INPUT: true; the input reads as it did. -/
def fnPlaceOfOrderSpec : ChangeSpec := { name := "fnPlaceOfOrder", fn := fun _ => fun
  | [d] => { results := [.lit (.bool true)], args := [d] }
  | _ => none }
def fnPlaceOfOrderRow : OpenClaim := { program := "ytokdoghgibahkab", sum := "64ac1b5536bbfced2cb03065bedc537149ef1ea2389fd65c0ab1b1afa9923c59", func := "loop.example/arraylanguage/laws.FnPlaceOfOrder", spec := "fnPlaceOfOrder", unfollowed := true, recurses := true, apart := false }
def FnPlaceOfOrderSaid : Prop := fnPlaceOfOrderRow.holds Try.pinned (OpenSpec.ofChange fnPlaceOfOrderSpec)

/-- ITS FALSE NEIGHBOUR: 'it returns false'. Refute it at one input. -/
def fnPlaceOfOrderWrong : ChangeSpec := { name := "fnPlaceOfOrder", fn := fun _ => fun
  | [d] => { results := [.lit (.bool false)], args := [d] }
  | _ => none }
def FnPlaceOfOrderWrongFalsely : Prop := fnPlaceOfOrderRow.holds Try.pinned (OpenSpec.ofChange fnPlaceOfOrderWrong)

/-- 'laws.FnItemAt': WHATEVER THE INPUT: true; the input reads as it did. -/
def fnItemAtSpec : ChangeSpec := { name := "fnItemAt", fn := fun _ => fun
  | [d] => { results := [.lit (.bool true)], args := [d] }
  | _ => none }
def fnItemAtRow : OpenClaim := { program := "ytokdoghgibahkab", sum := "64ac1b5536bbfced2cb03065bedc537149ef1ea2389fd65c0ab1b1afa9923c59", func := "loop.example/arraylanguage/laws.FnItemAt", spec := "fnItemAt", unfollowed := true, recurses := true, apart := false }
def FnItemAtSaid : Prop := fnItemAtRow.holds Try.pinned (OpenSpec.ofChange fnItemAtSpec)

/-- ITS FALSE NEIGHBOUR: 'it returns false'. Refute it at one input. -/
def fnItemAtWrong : ChangeSpec := { name := "fnItemAt", fn := fun _ => fun
  | [d] => { results := [.lit (.bool false)], args := [d] }
  | _ => none }
def FnItemAtWrongFalsely : Prop := fnItemAtRow.holds Try.pinned (OpenSpec.ofChange fnItemAtWrong)

/-- 'laws.FnWithItem': WHATEVER THE INPUT: true; the input reads as it did. -/
def fnWithItemSpec : ChangeSpec := { name := "fnWithItem", fn := fun _ => fun
  | [d] => { results := [.lit (.bool true)], args := [d] }
  | _ => none }
def fnWithItemRow : OpenClaim := { program := "ytokdoghgibahkab", sum := "64ac1b5536bbfced2cb03065bedc537149ef1ea2389fd65c0ab1b1afa9923c59", func := "loop.example/arraylanguage/laws.FnWithItem", spec := "fnWithItem", apart := false }
def FnWithItemSaid : Prop := fnWithItemRow.holds Try.pinned (OpenSpec.ofChange fnWithItemSpec)

/-- ITS FALSE NEIGHBOUR: 'it returns false'. Refute it at one input. -/
def fnWithItemWrong : ChangeSpec := { name := "fnWithItem", fn := fun _ => fun
  | [d] => { results := [.lit (.bool false)], args := [d] }
  | _ => none }
def FnWithItemWrongFalsely : Prop := fnWithItemRow.holds Try.pinned (OpenSpec.ofChange fnWithItemWrong)

/-- 'laws.FnWithItemOthers': WHATEVER THE INPUT: true; the input reads as it did. -/
def fnWithItemOthersSpec : ChangeSpec := { name := "fnWithItemOthers", fn := fun _ => fun
  | [d] => { results := [.lit (.bool true)], args := [d] }
  | _ => none }
def fnWithItemOthersRow : OpenClaim := { program := "ytokdoghgibahkab", sum := "64ac1b5536bbfced2cb03065bedc537149ef1ea2389fd65c0ab1b1afa9923c59", func := "loop.example/arraylanguage/laws.FnWithItemOthers", spec := "fnWithItemOthers", apart := false }
def FnWithItemOthersSaid : Prop := fnWithItemOthersRow.holds Try.pinned (OpenSpec.ofChange fnWithItemOthersSpec)

/-- ITS FALSE NEIGHBOUR: 'it returns false'. Refute it at one input. -/
def fnWithItemOthersWrong : ChangeSpec := { name := "fnWithItemOthers", fn := fun _ => fun
  | [d] => { results := [.lit (.bool false)], args := [d] }
  | _ => none }
def FnWithItemOthersWrongFalsely : Prop := fnWithItemOthersRow.holds Try.pinned (OpenSpec.ofChange fnWithItemOthersWrong)

/-- 'laws.FnItemAtRavel': WHATEVER THE INPUT: true; the input reads as it did. -/
def fnItemAtRavelSpec : ChangeSpec := { name := "fnItemAtRavel", fn := fun _ => fun
  | [d] => { results := [.lit (.bool true)], args := [d] }
  | _ => none }
def fnItemAtRavelRow : OpenClaim := { program := "ytokdoghgibahkab", sum := "64ac1b5536bbfced2cb03065bedc537149ef1ea2389fd65c0ab1b1afa9923c59", func := "loop.example/arraylanguage/laws.FnItemAtRavel", spec := "fnItemAtRavel", apart := false }
def FnItemAtRavelSaid : Prop := fnItemAtRavelRow.holds Try.pinned (OpenSpec.ofChange fnItemAtRavelSpec)

/-- ITS FALSE NEIGHBOUR: 'it returns false'. Refute it at one input. -/
def fnItemAtRavelWrong : ChangeSpec := { name := "fnItemAtRavel", fn := fun _ => fun
  | [d] => { results := [.lit (.bool false)], args := [d] }
  | _ => none }
def FnItemAtRavelWrongFalsely : Prop := fnItemAtRavelRow.holds Try.pinned (OpenSpec.ofChange fnItemAtRavelWrong)

/- THE SECOND FORM. 'bulk': how many values and letters a reading holds, each counted each time it is reached (what is shared counts as often as it is met; a slice's spare places count too). A statement '..UptoSaid' is the law's where the arguments, and the package variables that the reading takes, are together of bulk at most 1048576: NARROWER than '..Said'. Prove '..Said' where nothing that the law and all that it calls make is longer than what came in: it says more and counts as full. Else prove '..UptoSaid'. A law counts once. -/
mutual
def uptoBulk {H : Type} : DataW H → Nat
  | .lit (.string bytes) => bytes.length + 1
  | .lit _ => 1
  | .nil => 1
  | .ptr d => uptoBulk d + 1
  | .slice elems spare => uptoBulkAll elems + uptoBulkAll spare + 1
  | .agg parts => uptoBulkAll parts + 1
  | .iface _ d => uptoBulk d + 1
  | .map entries => uptoBulkEntries entries + 1
  | .held _ => 1
def uptoBulkAll {H : Type} : List (DataW H) → Nat
  | [] => 0
  | d :: r => uptoBulk d + uptoBulkAll r
def uptoBulkEntries {H : Type} : List (Lit × DataW H) → Nat
  | [] => 0
  | x :: r => uptoBulkEntry x + uptoBulkEntries r
def uptoBulkEntry {H : Type} : Lit × DataW H → Nat
  | (.string bytes, d) => bytes.length + uptoBulk d + 1
  | (_, d) => uptoBulk d + 1
 end
def uptoSmall : (H : Type) → List (DataW H) → Bool := fun _ ds => decide (uptoBulkAll ds ≤ 1048576)
def OpenSpec.upto (s : _root_.Go.ChangeSpec) : _root_.Go.OpenSpec := { _root_.Go.OpenSpec.ofChange s with cond := some uptoSmall }

/-- 'laws.FnPlaceOf', WHERE WHAT IT READS IS OF BULK AT MOST 1048576: true; the input reads as it did. -/
def fnPlaceOfUptoRow : OpenClaim := { program := "ytokdoghgibahkab", sum := "64ac1b5536bbfced2cb03065bedc537149ef1ea2389fd65c0ab1b1afa9923c59", func := "loop.example/arraylanguage/laws.FnPlaceOf", spec := "fnPlaceOf", unfollowed := true, recurses := true, apart := false, narrowed := true }
def FnPlaceOfUptoSaid : Prop := fnPlaceOfUptoRow.holds Try.pinned (OpenSpec.upto fnPlaceOfSpec)

/-- 'laws.FnPlaceOfOrder', WHERE WHAT IT READS IS OF BULK AT MOST 1048576: true; the input reads as it did. -/
def fnPlaceOfOrderUptoRow : OpenClaim := { program := "ytokdoghgibahkab", sum := "64ac1b5536bbfced2cb03065bedc537149ef1ea2389fd65c0ab1b1afa9923c59", func := "loop.example/arraylanguage/laws.FnPlaceOfOrder", spec := "fnPlaceOfOrder", unfollowed := true, recurses := true, apart := false, narrowed := true }
def FnPlaceOfOrderUptoSaid : Prop := fnPlaceOfOrderUptoRow.holds Try.pinned (OpenSpec.upto fnPlaceOfOrderSpec)

/-- 'laws.FnItemAt', WHERE WHAT IT READS IS OF BULK AT MOST 1048576: true; the input reads as it did. -/
def fnItemAtUptoRow : OpenClaim := { program := "ytokdoghgibahkab", sum := "64ac1b5536bbfced2cb03065bedc537149ef1ea2389fd65c0ab1b1afa9923c59", func := "loop.example/arraylanguage/laws.FnItemAt", spec := "fnItemAt", unfollowed := true, recurses := true, apart := false, narrowed := true }
def FnItemAtUptoSaid : Prop := fnItemAtUptoRow.holds Try.pinned (OpenSpec.upto fnItemAtSpec)

/-- 'laws.FnWithItem', WHERE WHAT IT READS IS OF BULK AT MOST 1048576: true; the input reads as it did. -/
def fnWithItemUptoRow : OpenClaim := { program := "ytokdoghgibahkab", sum := "64ac1b5536bbfced2cb03065bedc537149ef1ea2389fd65c0ab1b1afa9923c59", func := "loop.example/arraylanguage/laws.FnWithItem", spec := "fnWithItem", apart := false, narrowed := true }
def FnWithItemUptoSaid : Prop := fnWithItemUptoRow.holds Try.pinned (OpenSpec.upto fnWithItemSpec)

/-- 'laws.FnWithItemOthers', WHERE WHAT IT READS IS OF BULK AT MOST 1048576: true; the input reads as it did. -/
def fnWithItemOthersUptoRow : OpenClaim := { program := "ytokdoghgibahkab", sum := "64ac1b5536bbfced2cb03065bedc537149ef1ea2389fd65c0ab1b1afa9923c59", func := "loop.example/arraylanguage/laws.FnWithItemOthers", spec := "fnWithItemOthers", apart := false, narrowed := true }
def FnWithItemOthersUptoSaid : Prop := fnWithItemOthersUptoRow.holds Try.pinned (OpenSpec.upto fnWithItemOthersSpec)

/-- 'laws.FnItemAtRavel', WHERE WHAT IT READS IS OF BULK AT MOST 1048576: true; the input reads as it did. -/
def fnItemAtRavelUptoRow : OpenClaim := { program := "ytokdoghgibahkab", sum := "64ac1b5536bbfced2cb03065bedc537149ef1ea2389fd65c0ab1b1afa9923c59", func := "loop.example/arraylanguage/laws.FnItemAtRavel", spec := "fnItemAtRavel", apart := false, narrowed := true }
def FnItemAtRavelUptoSaid : Prop := fnItemAtRavelUptoRow.holds Try.pinned (OpenSpec.upto fnItemAtRavelSpec)

end Rows
end Go.Proofs.Ytokdoghgibahkab
