/-
  No cell of these rows narrows 'for every input' (looked for: loops, veiled, ifaces, maps, wideKeys, modest, calm, conditions, laid).
  DERIVED. THE GIVEN ROWS OF THIS SEAT. 6 by the template 'for every input the law returns true; each argument reads behind the call as it read before'; 0 by the template 'total and deterministic' (their statements: YthccdpfoikdonaaTotals.lean).
  GIVEN WITH THE SEED: the statements are not yours to turn. If you find one false, say at which input.
  Laid BY PROGRAM, IN A SANDBOX (cutbox-rows.mjs): the forced cells as the released guide's own fill.sh prints them over the translation c775323359ae26a5… (all of the seat's roots in one cut). By AI agents, Wed Nov 11 2026. No macro, syntax, notation, axiom, sorry.
-/
import Derived.Test.YthccdpfoikdonaaChecked
import GoSem.Claim
import GoSem.ClaimJoined
import GoSem.ClaimMapViews
import Derived.JoinedTies
import Derived.KernelRfl
namespace Go.Proofs.Ythccdpfoikdonaa
/- THE CELL 'sum', in the pinned program and in every row, IS THE sha256 OF THE DUMP (.gsa) THAT YthccdpfoikdonaaProg.lean LOADS. Nothing in Lean hashes anything: it is a label: what it is worth is what the hold of that sum in a sandbox is worth. -/
noncomputable def Try.pinned : Pinned := { name := "ythccdpfoikdonaa", sum := "c775323359ae26a5acb383e2f01d02de41b63f148a9330093eba628c42e67233", checked := Try.checked }
namespace Rows
def none {H : Type} : Left H := { results := [], args := [] }

/-- 'laws.FnExactEncodeNum': WHATEVER THE INPUT: true; the input reads as it did. -/
def fnExactEncodeNumSpec : ChangeSpec := { name := "fnExactEncodeNum", fn := fun _ => fun
  | [d1, d2] => { results := [.lit (.bool true)], args := [d1, d2] }
  | _ => none }
def fnExactEncodeNumRow : OpenClaim := { program := "ythccdpfoikdonaa", sum := "c775323359ae26a5acb383e2f01d02de41b63f148a9330093eba628c42e67233", func := "loop.example/arraylanguage/laws.FnExactEncodeNum", spec := "fnExactEncodeNum", unfollowed := true, recurses := true, apart := false }
def FnExactEncodeNumSaid : Prop := fnExactEncodeNumRow.holds Try.pinned (OpenSpec.ofChange fnExactEncodeNumSpec)

/-- ITS FALSE NEIGHBOUR: 'it returns false'. Refute it at one input. -/
def fnExactEncodeNumWrong : ChangeSpec := { name := "fnExactEncodeNum", fn := fun _ => fun
  | [d1, d2] => { results := [.lit (.bool false)], args := [d1, d2] }
  | _ => none }
def FnExactEncodeNumWrongFalsely : Prop := fnExactEncodeNumRow.holds Try.pinned (OpenSpec.ofChange fnExactEncodeNumWrong)

/-- 'laws.FnExactDecodeNum': WHATEVER THE INPUT: true; the input reads as it did. -/
def fnExactDecodeNumSpec : ChangeSpec := { name := "fnExactDecodeNum", fn := fun _ => fun
  | [d1, d2] => { results := [.lit (.bool true)], args := [d1, d2] }
  | _ => none }
def fnExactDecodeNumRow : OpenClaim := { program := "ythccdpfoikdonaa", sum := "c775323359ae26a5acb383e2f01d02de41b63f148a9330093eba628c42e67233", func := "loop.example/arraylanguage/laws.FnExactDecodeNum", spec := "fnExactDecodeNum", apart := false }
def FnExactDecodeNumSaid : Prop := fnExactDecodeNumRow.holds Try.pinned (OpenSpec.ofChange fnExactDecodeNumSpec)

/-- ITS FALSE NEIGHBOUR: 'it returns false'. Refute it at one input. -/
def fnExactDecodeNumWrong : ChangeSpec := { name := "fnExactDecodeNum", fn := fun _ => fun
  | [d1, d2] => { results := [.lit (.bool false)], args := [d1, d2] }
  | _ => none }
def FnExactDecodeNumWrongFalsely : Prop := fnExactDecodeNumRow.holds Try.pinned (OpenSpec.ofChange fnExactDecodeNumWrong)

/-- 'laws.FnExactPolyAt': WHATEVER THE INPUT: true; the input reads as it did. -/
def fnExactPolyAtSpec : ChangeSpec := { name := "fnExactPolyAt", fn := fun _ => fun
  | [d1, d2] => { results := [.lit (.bool true)], args := [d1, d2] }
  | _ => none }
def fnExactPolyAtRow : OpenClaim := { program := "ythccdpfoikdonaa", sum := "c775323359ae26a5acb383e2f01d02de41b63f148a9330093eba628c42e67233", func := "loop.example/arraylanguage/laws.FnExactPolyAt", spec := "fnExactPolyAt", apart := false }
def FnExactPolyAtSaid : Prop := fnExactPolyAtRow.holds Try.pinned (OpenSpec.ofChange fnExactPolyAtSpec)

/-- ITS FALSE NEIGHBOUR: 'it returns false'. Refute it at one input. -/
def fnExactPolyAtWrong : ChangeSpec := { name := "fnExactPolyAt", fn := fun _ => fun
  | [d1, d2] => { results := [.lit (.bool false)], args := [d1, d2] }
  | _ => none }
def FnExactPolyAtWrongFalsely : Prop := fnExactPolyAtRow.holds Try.pinned (OpenSpec.ofChange fnExactPolyAtWrong)

/-- 'laws.FnExactBitsOf': WHATEVER THE INPUT: true; the input reads as it did. -/
def fnExactBitsOfSpec : ChangeSpec := { name := "fnExactBitsOf", fn := fun _ => fun
  | [d] => { results := [.lit (.bool true)], args := [d] }
  | _ => none }
def fnExactBitsOfRow : OpenClaim := { program := "ythccdpfoikdonaa", sum := "c775323359ae26a5acb383e2f01d02de41b63f148a9330093eba628c42e67233", func := "loop.example/arraylanguage/laws.FnExactBitsOf", spec := "fnExactBitsOf", unfollowed := true, recurses := true, apart := false }
def FnExactBitsOfSaid : Prop := fnExactBitsOfRow.holds Try.pinned (OpenSpec.ofChange fnExactBitsOfSpec)

/-- ITS FALSE NEIGHBOUR: 'it returns false'. Refute it at one input. -/
def fnExactBitsOfWrong : ChangeSpec := { name := "fnExactBitsOf", fn := fun _ => fun
  | [d] => { results := [.lit (.bool false)], args := [d] }
  | _ => none }
def FnExactBitsOfWrongFalsely : Prop := fnExactBitsOfRow.holds Try.pinned (OpenSpec.ofChange fnExactBitsOfWrong)

/-- 'laws.FnExactCellOf': WHATEVER THE INPUT: true; the input reads as it did. -/
def fnExactCellOfSpec : ChangeSpec := { name := "fnExactCellOf", fn := fun _ => fun
  | [d1, d2] => { results := [.lit (.bool true)], args := [d1, d2] }
  | _ => none }
def fnExactCellOfRow : OpenClaim := { program := "ythccdpfoikdonaa", sum := "c775323359ae26a5acb383e2f01d02de41b63f148a9330093eba628c42e67233", func := "loop.example/arraylanguage/laws.FnExactCellOf", spec := "fnExactCellOf", apart := false }
def FnExactCellOfSaid : Prop := fnExactCellOfRow.holds Try.pinned (OpenSpec.ofChange fnExactCellOfSpec)

/-- ITS FALSE NEIGHBOUR: 'it returns false'. Refute it at one input. -/
def fnExactCellOfWrong : ChangeSpec := { name := "fnExactCellOf", fn := fun _ => fun
  | [d1, d2] => { results := [.lit (.bool false)], args := [d1, d2] }
  | _ => none }
def FnExactCellOfWrongFalsely : Prop := fnExactCellOfRow.holds Try.pinned (OpenSpec.ofChange fnExactCellOfWrong)

/-- 'laws.FnExactWhereItems': WHATEVER THE INPUT: true; the input reads as it did. -/
def fnExactWhereItemsSpec : ChangeSpec := { name := "fnExactWhereItems", fn := fun _ => fun
  | [d] => { results := [.lit (.bool true)], args := [d] }
  | _ => none }
def fnExactWhereItemsRow : OpenClaim := { program := "ythccdpfoikdonaa", sum := "c775323359ae26a5acb383e2f01d02de41b63f148a9330093eba628c42e67233", func := "loop.example/arraylanguage/laws.FnExactWhereItems", spec := "fnExactWhereItems", apart := false }
def FnExactWhereItemsSaid : Prop := fnExactWhereItemsRow.holds Try.pinned (OpenSpec.ofChange fnExactWhereItemsSpec)

/-- ITS FALSE NEIGHBOUR: 'it returns false'. Refute it at one input. -/
def fnExactWhereItemsWrong : ChangeSpec := { name := "fnExactWhereItems", fn := fun _ => fun
  | [d] => { results := [.lit (.bool false)], args := [d] }
  | _ => none }
def FnExactWhereItemsWrongFalsely : Prop := fnExactWhereItemsRow.holds Try.pinned (OpenSpec.ofChange fnExactWhereItemsWrong)

/- THE SECOND FORM. 'bulk': how many values and letters a reading holds, each counted each time it is reached (what is shared counts as often as it is met; a slice's spare places count too). A statement '..UptoSaid' is the law's where the arguments, and the package variables that the reading takes, are together of bulk at most 1048576: NARROWER than '..Said'. Prove '..Said' where nothing that the law and all that it calls make is longer than what came in: it says more and counts as full. Else prove '..UptoSaid'. A law counts once. -/
mutual
def uptoBulk {H : Type} : DataW H → Nat
  | .lit (.string bytes) => bytes.length + 1
  | .lit _ => 1
  | .nil => 1
  | .ptr d => uptoBulk d + 1
  | .slice elems spare => uptoBulkAll elems + uptoBulkAll spare + 1
  | .agg parts => uptoBulkAll parts + 1
  | .iface _ d => uptoBulk d + 1
  | .map entries => uptoBulkEntries entries + 1
  | .held _ => 1
def uptoBulkAll {H : Type} : List (DataW H) → Nat
  | [] => 0
  | d :: r => uptoBulk d + uptoBulkAll r
def uptoBulkEntries {H : Type} : List (Lit × DataW H) → Nat
  | [] => 0
  | x :: r => uptoBulkEntry x + uptoBulkEntries r
def uptoBulkEntry {H : Type} : Lit × DataW H → Nat
  | (.string bytes, d) => bytes.length + uptoBulk d + 1
  | (_, d) => uptoBulk d + 1
 end
def uptoSmall : (H : Type) → List (DataW H) → Bool := fun _ ds => decide (uptoBulkAll ds ≤ 1048576)
def OpenSpec.upto (s : _root_.Go.ChangeSpec) : _root_.Go.OpenSpec := { _root_.Go.OpenSpec.ofChange s with cond := some uptoSmall }

/-- 'laws.FnExactEncodeNum', WHERE WHAT IT READS IS OF BULK AT MOST 1048576: true; the input reads as it did. -/
def fnExactEncodeNumUptoRow : OpenClaim := { program := "ythccdpfoikdonaa", sum := "c775323359ae26a5acb383e2f01d02de41b63f148a9330093eba628c42e67233", func := "loop.example/arraylanguage/laws.FnExactEncodeNum", spec := "fnExactEncodeNum", unfollowed := true, recurses := true, apart := false, narrowed := true }
def FnExactEncodeNumUptoSaid : Prop := fnExactEncodeNumUptoRow.holds Try.pinned (OpenSpec.upto fnExactEncodeNumSpec)

/-- 'laws.FnExactDecodeNum', WHERE WHAT IT READS IS OF BULK AT MOST 1048576: true; the input reads as it did. -/
def fnExactDecodeNumUptoRow : OpenClaim := { program := "ythccdpfoikdonaa", sum := "c775323359ae26a5acb383e2f01d02de41b63f148a9330093eba628c42e67233", func := "loop.example/arraylanguage/laws.FnExactDecodeNum", spec := "fnExactDecodeNum", apart := false, narrowed := true }
def FnExactDecodeNumUptoSaid : Prop := fnExactDecodeNumUptoRow.holds Try.pinned (OpenSpec.upto fnExactDecodeNumSpec)

/-- 'laws.FnExactPolyAt', WHERE WHAT IT READS IS OF BULK AT MOST 1048576: true; the input reads as it did. -/
def fnExactPolyAtUptoRow : OpenClaim := { program := "ythccdpfoikdonaa", sum := "c775323359ae26a5acb383e2f01d02de41b63f148a9330093eba628c42e67233", func := "loop.example/arraylanguage/laws.FnExactPolyAt", spec := "fnExactPolyAt", apart := false, narrowed := true }
def FnExactPolyAtUptoSaid : Prop := fnExactPolyAtUptoRow.holds Try.pinned (OpenSpec.upto fnExactPolyAtSpec)

/-- 'laws.FnExactBitsOf', WHERE WHAT IT READS IS OF BULK AT MOST 1048576: true; the input reads as it did. -/
def fnExactBitsOfUptoRow : OpenClaim := { program := "ythccdpfoikdonaa", sum := "c775323359ae26a5acb383e2f01d02de41b63f148a9330093eba628c42e67233", func := "loop.example/arraylanguage/laws.FnExactBitsOf", spec := "fnExactBitsOf", unfollowed := true, recurses := true, apart := false, narrowed := true }
def FnExactBitsOfUptoSaid : Prop := fnExactBitsOfUptoRow.holds Try.pinned (OpenSpec.upto fnExactBitsOfSpec)

/-- 'laws.FnExactCellOf', WHERE WHAT IT READS IS OF BULK AT MOST 1048576: true; the input reads as it did. -/
def fnExactCellOfUptoRow : OpenClaim := { program := "ythccdpfoikdonaa", sum := "c775323359ae26a5acb383e2f01d02de41b63f148a9330093eba628c42e67233", func := "loop.example/arraylanguage/laws.FnExactCellOf", spec := "fnExactCellOf", apart := false, narrowed := true }
def FnExactCellOfUptoSaid : Prop := fnExactCellOfUptoRow.holds Try.pinned (OpenSpec.upto fnExactCellOfSpec)

/-- 'laws.FnExactWhereItems', WHERE WHAT IT READS IS OF BULK AT MOST 1048576: true; the input reads as it did. -/
def fnExactWhereItemsUptoRow : OpenClaim := { program := "ythccdpfoikdonaa", sum := "c775323359ae26a5acb383e2f01d02de41b63f148a9330093eba628c42e67233", func := "loop.example/arraylanguage/laws.FnExactWhereItems", spec := "fnExactWhereItems", apart := false, narrowed := true }
def FnExactWhereItemsUptoSaid : Prop := fnExactWhereItemsUptoRow.holds Try.pinned (OpenSpec.upto fnExactWhereItemsSpec)

end Rows
end Go.Proofs.Ythccdpfoikdonaa
