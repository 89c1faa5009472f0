/-
  No cell of these rows narrows 'for every input' (looked for: loops, veiled, ifaces, maps, wideKeys, modest, calm, conditions, laid).
  DERIVED. THE GIVEN ROWS OF THIS SEAT. 6 by the template 'for every input the law returns true; each argument reads behind the call as it read before'; 0 by the template 'total and deterministic' (their statements: YtlakgkkkeihdpaaTotals.lean).
  GIVEN WITH THE SEED: the statements are not yours to turn. If you find one false, say at which input.
  Laid BY PROGRAM, IN A SANDBOX (cutbox-rows.mjs): the forced cells as the released guide's own fill.sh prints them over the translation 2cbe9a432914d57b… (all of the seat's roots in one cut). By AI agents, Wed Nov 11 2026. No macro, syntax, notation, axiom, sorry.
-/
import Derived.Test.YtlakgkkkeihdpaaChecked
import GoSem.Claim
import GoSem.ClaimJoined
import GoSem.ClaimMapViews
import Derived.JoinedTies
import Derived.KernelRfl
namespace Go.Proofs.Ytlakgkkkeihdpaa
/- THE CELL 'sum', in the pinned program and in every row, IS THE sha256 OF THE DUMP (.gsa) THAT YtlakgkkkeihdpaaProg.lean LOADS. Nothing in Lean hashes anything: it is a label: what it is worth is what the hold of that sum in a sandbox is worth. -/
noncomputable def Try.pinned : Pinned := { name := "ytlakgkkkeihdpaa", sum := "2cbe9a432914d57b3baff950e927cc285ffaf6b209f9487f747bbee55ed7355c", checked := Try.checked }
namespace Rows
def none {H : Type} : Left H := { results := [], args := [] }

/-- 'laws.FnGradeUp': WHATEVER THE INPUT: true; the input reads as it did. -/
def fnGradeUpSpec : ChangeSpec := { name := "fnGradeUp", fn := fun _ => fun
  | [d] => { results := [.lit (.bool true)], args := [d] }
  | _ => none }
def fnGradeUpRow : OpenClaim := { program := "ytlakgkkkeihdpaa", sum := "2cbe9a432914d57b3baff950e927cc285ffaf6b209f9487f747bbee55ed7355c", func := "loop.example/arraylanguage/laws.FnGradeUp", spec := "fnGradeUp", unfollowed := true, recurses := true, apart := false }
def FnGradeUpSaid : Prop := fnGradeUpRow.holds Try.pinned (OpenSpec.ofChange fnGradeUpSpec)

/-- ITS FALSE NEIGHBOUR: 'it returns false'. Refute it at one input. -/
def fnGradeUpWrong : ChangeSpec := { name := "fnGradeUp", fn := fun _ => fun
  | [d] => { results := [.lit (.bool false)], args := [d] }
  | _ => none }
def FnGradeUpWrongFalsely : Prop := fnGradeUpRow.holds Try.pinned (OpenSpec.ofChange fnGradeUpWrong)

/-- 'laws.FnGradeUpStable': WHATEVER THE INPUT: true; the input reads as it did. -/
def fnGradeUpStableSpec : ChangeSpec := { name := "fnGradeUpStable", fn := fun _ => fun
  | [d] => { results := [.lit (.bool true)], args := [d] }
  | _ => none }
def fnGradeUpStableRow : OpenClaim := { program := "ytlakgkkkeihdpaa", sum := "2cbe9a432914d57b3baff950e927cc285ffaf6b209f9487f747bbee55ed7355c", func := "loop.example/arraylanguage/laws.FnGradeUpStable", spec := "fnGradeUpStable", unfollowed := true, recurses := true, apart := false }
def FnGradeUpStableSaid : Prop := fnGradeUpStableRow.holds Try.pinned (OpenSpec.ofChange fnGradeUpStableSpec)

/-- ITS FALSE NEIGHBOUR: 'it returns false'. Refute it at one input. -/
def fnGradeUpStableWrong : ChangeSpec := { name := "fnGradeUpStable", fn := fun _ => fun
  | [d] => { results := [.lit (.bool false)], args := [d] }
  | _ => none }
def FnGradeUpStableWrongFalsely : Prop := fnGradeUpStableRow.holds Try.pinned (OpenSpec.ofChange fnGradeUpStableWrong)

/-- 'laws.FnSortArray': WHATEVER THE INPUT: true; the input reads as it did. -/
def fnSortArraySpec : ChangeSpec := { name := "fnSortArray", fn := fun _ => fun
  | [d] => { results := [.lit (.bool true)], args := [d] }
  | _ => none }
def fnSortArrayRow : OpenClaim := { program := "ytlakgkkkeihdpaa", sum := "2cbe9a432914d57b3baff950e927cc285ffaf6b209f9487f747bbee55ed7355c", func := "loop.example/arraylanguage/laws.FnSortArray", spec := "fnSortArray", unfollowed := true, recurses := true, apart := false }
def FnSortArraySaid : Prop := fnSortArrayRow.holds Try.pinned (OpenSpec.ofChange fnSortArraySpec)

/-- ITS FALSE NEIGHBOUR: 'it returns false'. Refute it at one input. -/
def fnSortArrayWrong : ChangeSpec := { name := "fnSortArray", fn := fun _ => fun
  | [d] => { results := [.lit (.bool false)], args := [d] }
  | _ => none }
def FnSortArrayWrongFalsely : Prop := fnSortArrayRow.holds Try.pinned (OpenSpec.ofChange fnSortArrayWrong)

/-- 'laws.FnGradeUpRank': WHATEVER THE INPUT: true; the input reads as it did. -/
def fnGradeUpRankSpec : ChangeSpec := { name := "fnGradeUpRank", fn := fun _ => fun
  | [d] => { results := [.lit (.bool true)], args := [d] }
  | _ => none }
def fnGradeUpRankRow : OpenClaim := { program := "ytlakgkkkeihdpaa", sum := "2cbe9a432914d57b3baff950e927cc285ffaf6b209f9487f747bbee55ed7355c", func := "loop.example/arraylanguage/laws.FnGradeUpRank", spec := "fnGradeUpRank", unfollowed := true, recurses := true, apart := false }
def FnGradeUpRankSaid : Prop := fnGradeUpRankRow.holds Try.pinned (OpenSpec.ofChange fnGradeUpRankSpec)

/-- ITS FALSE NEIGHBOUR: 'it returns false'. Refute it at one input. -/
def fnGradeUpRankWrong : ChangeSpec := { name := "fnGradeUpRank", fn := fun _ => fun
  | [d] => { results := [.lit (.bool false)], args := [d] }
  | _ => none }
def FnGradeUpRankWrongFalsely : Prop := fnGradeUpRankRow.holds Try.pinned (OpenSpec.ofChange fnGradeUpRankWrong)

/-- 'laws.FnUniqueItemsSort': WHATEVER THE INPUT: true; the input reads as it did. -/
def fnUniqueItemsSortSpec : ChangeSpec := { name := "fnUniqueItemsSort", fn := fun _ => fun
  | [d] => { results := [.lit (.bool true)], args := [d] }
  | _ => none }
def fnUniqueItemsSortRow : OpenClaim := { program := "ytlakgkkkeihdpaa", sum := "2cbe9a432914d57b3baff950e927cc285ffaf6b209f9487f747bbee55ed7355c", func := "loop.example/arraylanguage/laws.FnUniqueItemsSort", spec := "fnUniqueItemsSort", unfollowed := true, recurses := true, apart := false }
def FnUniqueItemsSortSaid : Prop := fnUniqueItemsSortRow.holds Try.pinned (OpenSpec.ofChange fnUniqueItemsSortSpec)

/-- ITS FALSE NEIGHBOUR: 'it returns false'. Refute it at one input. -/
def fnUniqueItemsSortWrong : ChangeSpec := { name := "fnUniqueItemsSort", fn := fun _ => fun
  | [d] => { results := [.lit (.bool false)], args := [d] }
  | _ => none }
def FnUniqueItemsSortWrongFalsely : Prop := fnUniqueItemsSortRow.holds Try.pinned (OpenSpec.ofChange fnUniqueItemsSortWrong)

/-- 'laws.FnSortArrayEnds': WHATEVER THE INPUT: true; the input reads as it did. -/
def fnSortArrayEndsSpec : ChangeSpec := { name := "fnSortArrayEnds", fn := fun _ => fun
  | [d] => { results := [.lit (.bool true)], args := [d] }
  | _ => none }
def fnSortArrayEndsRow : OpenClaim := { program := "ytlakgkkkeihdpaa", sum := "2cbe9a432914d57b3baff950e927cc285ffaf6b209f9487f747bbee55ed7355c", func := "loop.example/arraylanguage/laws.FnSortArrayEnds", spec := "fnSortArrayEnds", unfollowed := true, recurses := true, apart := false }
def FnSortArrayEndsSaid : Prop := fnSortArrayEndsRow.holds Try.pinned (OpenSpec.ofChange fnSortArrayEndsSpec)

/-- ITS FALSE NEIGHBOUR: 'it returns false'. Refute it at one input. -/
def fnSortArrayEndsWrong : ChangeSpec := { name := "fnSortArrayEnds", fn := fun _ => fun
  | [d] => { results := [.lit (.bool false)], args := [d] }
  | _ => none }
def FnSortArrayEndsWrongFalsely : Prop := fnSortArrayEndsRow.holds Try.pinned (OpenSpec.ofChange fnSortArrayEndsWrong)

/- THE SECOND FORM. 'bulk': how many values and letters a reading holds, each counted each time it is reached (what is shared counts as often as it is met; a slice's spare places count too). A statement '..UptoSaid' is the law's where the arguments, and the package variables that the reading takes, are together of bulk at most 1048576: NARROWER than '..Said'. Prove '..Said' where nothing that the law and all that it calls make is longer than what came in: it says more and counts as full. Else prove '..UptoSaid'. A law counts once. -/
mutual
def uptoBulk {H : Type} : DataW H → Nat
  | .lit (.string bytes) => bytes.length + 1
  | .lit _ => 1
  | .nil => 1
  | .ptr d => uptoBulk d + 1
  | .slice elems spare => uptoBulkAll elems + uptoBulkAll spare + 1
  | .agg parts => uptoBulkAll parts + 1
  | .iface _ d => uptoBulk d + 1
  | .map entries => uptoBulkEntries entries + 1
  | .held _ => 1
def uptoBulkAll {H : Type} : List (DataW H) → Nat
  | [] => 0
  | d :: r => uptoBulk d + uptoBulkAll r
def uptoBulkEntries {H : Type} : List (Lit × DataW H) → Nat
  | [] => 0
  | x :: r => uptoBulkEntry x + uptoBulkEntries r
def uptoBulkEntry {H : Type} : Lit × DataW H → Nat
  | (.string bytes, d) => bytes.length + uptoBulk d + 1
  | (_, d) => uptoBulk d + 1
 end
def uptoSmall : (H : Type) → List (DataW H) → Bool := fun _ ds => decide (uptoBulkAll ds ≤ 1048576)
def OpenSpec.upto (s : _root_.Go.ChangeSpec) : _root_.Go.OpenSpec := { _root_.Go.OpenSpec.ofChange s with cond := some uptoSmall }

/-- 'laws.FnGradeUp', WHERE WHAT IT READS IS OF BULK AT MOST 1048576: true; the input reads as it did. -/
def fnGradeUpUptoRow : OpenClaim := { program := "ytlakgkkkeihdpaa", sum := "2cbe9a432914d57b3baff950e927cc285ffaf6b209f9487f747bbee55ed7355c", func := "loop.example/arraylanguage/laws.FnGradeUp", spec := "fnGradeUp", unfollowed := true, recurses := true, apart := false, narrowed := true }
def FnGradeUpUptoSaid : Prop := fnGradeUpUptoRow.holds Try.pinned (OpenSpec.upto fnGradeUpSpec)

/-- 'laws.FnGradeUpStable', WHERE WHAT IT READS IS OF BULK AT MOST 1048576: true; the input reads as it did. -/
def fnGradeUpStableUptoRow : OpenClaim := { program := "ytlakgkkkeihdpaa", sum := "2cbe9a432914d57b3baff950e927cc285ffaf6b209f9487f747bbee55ed7355c", func := "loop.example/arraylanguage/laws.FnGradeUpStable", spec := "fnGradeUpStable", unfollowed := true, recurses := true, apart := false, narrowed := true }
def FnGradeUpStableUptoSaid : Prop := fnGradeUpStableUptoRow.holds Try.pinned (OpenSpec.upto fnGradeUpStableSpec)

/-- 'laws.FnSortArray', WHERE WHAT IT READS IS OF BULK AT MOST 1048576: true; the input reads as it did. -/
def fnSortArrayUptoRow : OpenClaim := { program := "ytlakgkkkeihdpaa", sum := "2cbe9a432914d57b3baff950e927cc285ffaf6b209f9487f747bbee55ed7355c", func := "loop.example/arraylanguage/laws.FnSortArray", spec := "fnSortArray", unfollowed := true, recurses := true, apart := false, narrowed := true }
def FnSortArrayUptoSaid : Prop := fnSortArrayUptoRow.holds Try.pinned (OpenSpec.upto fnSortArraySpec)

/-- 'laws.FnGradeUpRank', WHERE WHAT IT READS IS OF BULK AT MOST 1048576: true; the input reads as it did. -/
def fnGradeUpRankUptoRow : OpenClaim := { program := "ytlakgkkkeihdpaa", sum := "2cbe9a432914d57b3baff950e927cc285ffaf6b209f9487f747bbee55ed7355c", func := "loop.example/arraylanguage/laws.FnGradeUpRank", spec := "fnGradeUpRank", unfollowed := true, recurses := true, apart := false, narrowed := true }
def FnGradeUpRankUptoSaid : Prop := fnGradeUpRankUptoRow.holds Try.pinned (OpenSpec.upto fnGradeUpRankSpec)

/-- 'laws.FnUniqueItemsSort', WHERE WHAT IT READS IS OF BULK AT MOST 1048576: true; the input reads as it did. -/
def fnUniqueItemsSortUptoRow : OpenClaim := { program := "ytlakgkkkeihdpaa", sum := "2cbe9a432914d57b3baff950e927cc285ffaf6b209f9487f747bbee55ed7355c", func := "loop.example/arraylanguage/laws.FnUniqueItemsSort", spec := "fnUniqueItemsSort", unfollowed := true, recurses := true, apart := false, narrowed := true }
def FnUniqueItemsSortUptoSaid : Prop := fnUniqueItemsSortUptoRow.holds Try.pinned (OpenSpec.upto fnUniqueItemsSortSpec)

/-- 'laws.FnSortArrayEnds', WHERE WHAT IT READS IS OF BULK AT MOST 1048576: true; the input reads as it did. -/
def fnSortArrayEndsUptoRow : OpenClaim := { program := "ytlakgkkkeihdpaa", sum := "2cbe9a432914d57b3baff950e927cc285ffaf6b209f9487f747bbee55ed7355c", func := "loop.example/arraylanguage/laws.FnSortArrayEnds", spec := "fnSortArrayEnds", unfollowed := true, recurses := true, apart := false, narrowed := true }
def FnSortArrayEndsUptoSaid : Prop := fnSortArrayEndsUptoRow.holds Try.pinned (OpenSpec.upto fnSortArrayEndsSpec)

end Rows
end Go.Proofs.Ytlakgkkkeihdpaa
