/-
  No cell of these rows narrows 'for every input' (looked for: loops, veiled, ifaces, maps, wideKeys, modest, calm, conditions, laid).
  DERIVED. THE GIVEN ROWS OF THIS SEAT. 6 by the template 'for every input the law returns true; each argument reads behind the call as it read before'; 0 by the template 'total and deterministic' (their statements: YthccdpfoikdonacTotals.lean).
  GIVEN WITH THE SEED: the statements are not yours to turn. If you find one false, say at which input.
  Laid BY PROGRAM, IN A SANDBOX (cutbox-rows.mjs): the forced cells as the released guide's own fill.sh prints them over the translation 0707b79c5320ee89… (all of the seat's roots in one cut). By AI agents, Wed Nov 11 2026. No macro, syntax, notation, axiom, sorry.
-/
import Derived.Test.YthccdpfoikdonacChecked
import GoSem.Claim
import GoSem.ClaimJoined
import GoSem.ClaimMapViews
import Derived.JoinedTies
import Derived.KernelRfl
namespace Go.Proofs.Ythccdpfoikdonac
/- THE CELL 'sum', in the pinned program and in every row, IS THE sha256 OF THE DUMP (.gsa) THAT YthccdpfoikdonacProg.lean LOADS. Nothing in Lean hashes anything: it is a label: what it is worth is what the hold of that sum in a sandbox is worth. -/
noncomputable def Try.pinned : Pinned := { name := "ythccdpfoikdonac", sum := "0707b79c5320ee8921149d9b3c9fcd3fa79e66ece74a31d0325df92603227dfb", checked := Try.checked }
namespace Rows
def none {H : Type} : Left H := { results := [], args := [] }

/-- 'laws.FnExactUniqueItems': WHATEVER THE INPUT: true; the input reads as it did. -/
def fnExactUniqueItemsSpec : ChangeSpec := { name := "fnExactUniqueItems", fn := fun _ => fun
  | [d] => { results := [.lit (.bool true)], args := [d] }
  | _ => none }
def fnExactUniqueItemsRow : OpenClaim := { program := "ythccdpfoikdonac", sum := "0707b79c5320ee8921149d9b3c9fcd3fa79e66ece74a31d0325df92603227dfb", func := "loop.example/arraylanguage/laws.FnExactUniqueItems", spec := "fnExactUniqueItems", apart := false }
def FnExactUniqueItemsSaid : Prop := fnExactUniqueItemsRow.holds Try.pinned (OpenSpec.ofChange fnExactUniqueItemsSpec)

/-- ITS FALSE NEIGHBOUR: 'it returns false'. Refute it at one input. -/
def fnExactUniqueItemsWrong : ChangeSpec := { name := "fnExactUniqueItems", fn := fun _ => fun
  | [d] => { results := [.lit (.bool false)], args := [d] }
  | _ => none }
def FnExactUniqueItemsWrongFalsely : Prop := fnExactUniqueItemsRow.holds Try.pinned (OpenSpec.ofChange fnExactUniqueItemsWrong)

/-- 'laws.FnExactGradeUp': WHATEVER THE INPUT: true; the input reads as it did. -/
def fnExactGradeUpSpec : ChangeSpec := { name := "fnExactGradeUp", fn := fun _ => fun
  | [d] => { results := [.lit (.bool true)], args := [d] }
  | _ => none }
def fnExactGradeUpRow : OpenClaim := { program := "ythccdpfoikdonac", sum := "0707b79c5320ee8921149d9b3c9fcd3fa79e66ece74a31d0325df92603227dfb", func := "loop.example/arraylanguage/laws.FnExactGradeUp", spec := "fnExactGradeUp", unfollowed := true, recurses := true, apart := false }
def FnExactGradeUpSaid : Prop := fnExactGradeUpRow.holds Try.pinned (OpenSpec.ofChange fnExactGradeUpSpec)

/-- ITS FALSE NEIGHBOUR: 'it returns false'. Refute it at one input. -/
def fnExactGradeUpWrong : ChangeSpec := { name := "fnExactGradeUp", fn := fun _ => fun
  | [d] => { results := [.lit (.bool false)], args := [d] }
  | _ => none }
def FnExactGradeUpWrongFalsely : Prop := fnExactGradeUpRow.holds Try.pinned (OpenSpec.ofChange fnExactGradeUpWrong)

/-- 'laws.FnExactSortArray': WHATEVER THE INPUT: true; the input reads as it did. -/
def fnExactSortArraySpec : ChangeSpec := { name := "fnExactSortArray", fn := fun _ => fun
  | [d] => { results := [.lit (.bool true)], args := [d] }
  | _ => none }
def fnExactSortArrayRow : OpenClaim := { program := "ythccdpfoikdonac", sum := "0707b79c5320ee8921149d9b3c9fcd3fa79e66ece74a31d0325df92603227dfb", func := "loop.example/arraylanguage/laws.FnExactSortArray", spec := "fnExactSortArray", unfollowed := true, recurses := true, apart := false }
def FnExactSortArraySaid : Prop := fnExactSortArrayRow.holds Try.pinned (OpenSpec.ofChange fnExactSortArraySpec)

/-- ITS FALSE NEIGHBOUR: 'it returns false'. Refute it at one input. -/
def fnExactSortArrayWrong : ChangeSpec := { name := "fnExactSortArray", fn := fun _ => fun
  | [d] => { results := [.lit (.bool false)], args := [d] }
  | _ => none }
def FnExactSortArrayWrongFalsely : Prop := fnExactSortArrayRow.holds Try.pinned (OpenSpec.ofChange fnExactSortArrayWrong)

/-- 'laws.FnWhereItems': WHATEVER THE INPUT: true; the input reads as it did. -/
def fnWhereItemsSpec : ChangeSpec := { name := "fnWhereItems", fn := fun _ => fun
  | [d] => { results := [.lit (.bool true)], args := [d] }
  | _ => none }
def fnWhereItemsRow : OpenClaim := { program := "ythccdpfoikdonac", sum := "0707b79c5320ee8921149d9b3c9fcd3fa79e66ece74a31d0325df92603227dfb", func := "loop.example/arraylanguage/laws.FnWhereItems", spec := "fnWhereItems", apart := false }
def FnWhereItemsSaid : Prop := fnWhereItemsRow.holds Try.pinned (OpenSpec.ofChange fnWhereItemsSpec)

/-- ITS FALSE NEIGHBOUR: 'it returns false'. Refute it at one input. -/
def fnWhereItemsWrong : ChangeSpec := { name := "fnWhereItems", fn := fun _ => fun
  | [d] => { results := [.lit (.bool false)], args := [d] }
  | _ => none }
def FnWhereItemsWrongFalsely : Prop := fnWhereItemsRow.holds Try.pinned (OpenSpec.ofChange fnWhereItemsWrong)

/-- 'laws.FnUniqueItems': WHATEVER THE INPUT: true; the input reads as it did. -/
def fnUniqueItemsSpec : ChangeSpec := { name := "fnUniqueItems", fn := fun _ => fun
  | [d] => { results := [.lit (.bool true)], args := [d] }
  | _ => none }
def fnUniqueItemsRow : OpenClaim := { program := "ythccdpfoikdonac", sum := "0707b79c5320ee8921149d9b3c9fcd3fa79e66ece74a31d0325df92603227dfb", func := "loop.example/arraylanguage/laws.FnUniqueItems", spec := "fnUniqueItems", apart := false }
def FnUniqueItemsSaid : Prop := fnUniqueItemsRow.holds Try.pinned (OpenSpec.ofChange fnUniqueItemsSpec)

/-- ITS FALSE NEIGHBOUR: 'it returns false'. Refute it at one input. -/
def fnUniqueItemsWrong : ChangeSpec := { name := "fnUniqueItems", fn := fun _ => fun
  | [d] => { results := [.lit (.bool false)], args := [d] }
  | _ => none }
def FnUniqueItemsWrongFalsely : Prop := fnUniqueItemsRow.holds Try.pinned (OpenSpec.ofChange fnUniqueItemsWrong)

/-- 'laws.FnCountTo': WHATEVER THE INPUT: true; the input reads as it did. -/
def fnCountToSpec : ChangeSpec := { name := "fnCountTo", fn := fun _ => fun
  | [d] => { results := [.lit (.bool true)], args := [d] }
  | _ => none }
def fnCountToRow : OpenClaim := { program := "ythccdpfoikdonac", sum := "0707b79c5320ee8921149d9b3c9fcd3fa79e66ece74a31d0325df92603227dfb", func := "loop.example/arraylanguage/laws.FnCountTo", spec := "fnCountTo", unfollowed := true, recurses := true, apart := false }
def FnCountToSaid : Prop := fnCountToRow.holds Try.pinned (OpenSpec.ofChange fnCountToSpec)

/-- ITS FALSE NEIGHBOUR: 'it returns false'. Refute it at one input. -/
def fnCountToWrong : ChangeSpec := { name := "fnCountTo", fn := fun _ => fun
  | [d] => { results := [.lit (.bool false)], args := [d] }
  | _ => none }
def FnCountToWrongFalsely : Prop := fnCountToRow.holds Try.pinned (OpenSpec.ofChange fnCountToWrong)

/- THE SECOND FORM. 'bulk': how many values and letters a reading holds, each counted each time it is reached (what is shared counts as often as it is met; a slice's spare places count too). A statement '..UptoSaid' is the law's where the arguments, and the package variables that the reading takes, are together of bulk at most 1048576: NARROWER than '..Said'. Prove '..Said' where nothing that the law and all that it calls make is longer than what came in: it says more and counts as full. Else prove '..UptoSaid'. A law counts once. -/
mutual
def uptoBulk {H : Type} : DataW H → Nat
  | .lit (.string bytes) => bytes.length + 1
  | .lit _ => 1
  | .nil => 1
  | .ptr d => uptoBulk d + 1
  | .slice elems spare => uptoBulkAll elems + uptoBulkAll spare + 1
  | .agg parts => uptoBulkAll parts + 1
  | .iface _ d => uptoBulk d + 1
  | .map entries => uptoBulkEntries entries + 1
  | .held _ => 1
def uptoBulkAll {H : Type} : List (DataW H) → Nat
  | [] => 0
  | d :: r => uptoBulk d + uptoBulkAll r
def uptoBulkEntries {H : Type} : List (Lit × DataW H) → Nat
  | [] => 0
  | x :: r => uptoBulkEntry x + uptoBulkEntries r
def uptoBulkEntry {H : Type} : Lit × DataW H → Nat
  | (.string bytes, d) => bytes.length + uptoBulk d + 1
  | (_, d) => uptoBulk d + 1
 end
def uptoSmall : (H : Type) → List (DataW H) → Bool := fun _ ds => decide (uptoBulkAll ds ≤ 1048576)
def OpenSpec.upto (s : _root_.Go.ChangeSpec) : _root_.Go.OpenSpec := { _root_.Go.OpenSpec.ofChange s with cond := some uptoSmall }

/-- 'laws.FnExactUniqueItems', WHERE WHAT IT READS IS OF BULK AT MOST 1048576: true; the input reads as it did. -/
def fnExactUniqueItemsUptoRow : OpenClaim := { program := "ythccdpfoikdonac", sum := "0707b79c5320ee8921149d9b3c9fcd3fa79e66ece74a31d0325df92603227dfb", func := "loop.example/arraylanguage/laws.FnExactUniqueItems", spec := "fnExactUniqueItems", apart := false, narrowed := true }
def FnExactUniqueItemsUptoSaid : Prop := fnExactUniqueItemsUptoRow.holds Try.pinned (OpenSpec.upto fnExactUniqueItemsSpec)

/-- 'laws.FnExactGradeUp', WHERE WHAT IT READS IS OF BULK AT MOST 1048576: true; the input reads as it did. -/
def fnExactGradeUpUptoRow : OpenClaim := { program := "ythccdpfoikdonac", sum := "0707b79c5320ee8921149d9b3c9fcd3fa79e66ece74a31d0325df92603227dfb", func := "loop.example/arraylanguage/laws.FnExactGradeUp", spec := "fnExactGradeUp", unfollowed := true, recurses := true, apart := false, narrowed := true }
def FnExactGradeUpUptoSaid : Prop := fnExactGradeUpUptoRow.holds Try.pinned (OpenSpec.upto fnExactGradeUpSpec)

/-- 'laws.FnExactSortArray', WHERE WHAT IT READS IS OF BULK AT MOST 1048576: true; the input reads as it did. -/
def fnExactSortArrayUptoRow : OpenClaim := { program := "ythccdpfoikdonac", sum := "0707b79c5320ee8921149d9b3c9fcd3fa79e66ece74a31d0325df92603227dfb", func := "loop.example/arraylanguage/laws.FnExactSortArray", spec := "fnExactSortArray", unfollowed := true, recurses := true, apart := false, narrowed := true }
def FnExactSortArrayUptoSaid : Prop := fnExactSortArrayUptoRow.holds Try.pinned (OpenSpec.upto fnExactSortArraySpec)

/-- 'laws.FnWhereItems', WHERE WHAT IT READS IS OF BULK AT MOST 1048576: true; the input reads as it did. -/
def fnWhereItemsUptoRow : OpenClaim := { program := "ythccdpfoikdonac", sum := "0707b79c5320ee8921149d9b3c9fcd3fa79e66ece74a31d0325df92603227dfb", func := "loop.example/arraylanguage/laws.FnWhereItems", spec := "fnWhereItems", apart := false, narrowed := true }
def FnWhereItemsUptoSaid : Prop := fnWhereItemsUptoRow.holds Try.pinned (OpenSpec.upto fnWhereItemsSpec)

/-- 'laws.FnUniqueItems', WHERE WHAT IT READS IS OF BULK AT MOST 1048576: true; the input reads as it did. -/
def fnUniqueItemsUptoRow : OpenClaim := { program := "ythccdpfoikdonac", sum := "0707b79c5320ee8921149d9b3c9fcd3fa79e66ece74a31d0325df92603227dfb", func := "loop.example/arraylanguage/laws.FnUniqueItems", spec := "fnUniqueItems", apart := false, narrowed := true }
def FnUniqueItemsUptoSaid : Prop := fnUniqueItemsUptoRow.holds Try.pinned (OpenSpec.upto fnUniqueItemsSpec)

/-- 'laws.FnCountTo', WHERE WHAT IT READS IS OF BULK AT MOST 1048576: true; the input reads as it did. -/
def fnCountToUptoRow : OpenClaim := { program := "ythccdpfoikdonac", sum := "0707b79c5320ee8921149d9b3c9fcd3fa79e66ece74a31d0325df92603227dfb", func := "loop.example/arraylanguage/laws.FnCountTo", spec := "fnCountTo", unfollowed := true, recurses := true, apart := false, narrowed := true }
def FnCountToUptoSaid : Prop := fnCountToUptoRow.holds Try.pinned (OpenSpec.upto fnCountToSpec)

end Rows
end Go.Proofs.Ythccdpfoikdonac
