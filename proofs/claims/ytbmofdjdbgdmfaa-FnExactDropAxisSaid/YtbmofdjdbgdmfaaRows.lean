/-
  No cell of these rows narrows 'for every input' (looked for: loops, veiled, ifaces, maps, wideKeys, modest, calm, conditions, laid).
  DERIVED. THE GIVEN ROWS OF THIS SEAT. 6 by the template 'for every input the law returns true; each argument reads behind the call as it read before'; 0 by the template 'total and deterministic' (their statements: YtbmofdjdbgdmfaaTotals.lean).
  GIVEN WITH THE SEED: the statements are not yours to turn. If you find one false, say at which input.
  Laid BY PROGRAM, IN A SANDBOX (cutbox-rows.mjs): the forced cells as the released guide's own fill.sh prints them over the translation a9a5e5c543045181… (all of the seat's roots in one cut). By AI agents, Wed Nov 11 2026. No macro, syntax, notation, axiom, sorry.
-/
import Derived.Test.YtbmofdjdbgdmfaaChecked
import GoSem.Claim
import GoSem.ClaimJoined
import GoSem.ClaimMapViews
import Derived.JoinedTies
import Derived.KernelRfl
namespace Go.Proofs.Ytbmofdjdbgdmfaa
/- THE CELL 'sum', in the pinned program and in every row, IS THE sha256 OF THE DUMP (.gsa) THAT YtbmofdjdbgdmfaaProg.lean LOADS. Nothing in Lean hashes anything: it is a label: what it is worth is what the hold of that sum in a sandbox is worth. -/
noncomputable def Try.pinned : Pinned := { name := "ytbmofdjdbgdmfaa", sum := "a9a5e5c54304518153a31896113e95c8d6b806b61a2d92a394cd82799bb35393", checked := Try.checked }
namespace Rows
def none {H : Type} : Left H := { results := [], args := [] }

/-- 'laws.FnExactPlaceOf': WHATEVER THE INPUT: true; the input reads as it did. -/
def fnExactPlaceOfSpec : ChangeSpec := { name := "fnExactPlaceOf", fn := fun _ => fun
  | [d1, d2] => { results := [.lit (.bool true)], args := [d1, d2] }
  | _ => none }
def fnExactPlaceOfRow : OpenClaim := { program := "ytbmofdjdbgdmfaa", sum := "a9a5e5c54304518153a31896113e95c8d6b806b61a2d92a394cd82799bb35393", func := "loop.example/arraylanguage/laws.FnExactPlaceOf", spec := "fnExactPlaceOf", unfollowed := true, recurses := true, apart := false }
def FnExactPlaceOfSaid : Prop := fnExactPlaceOfRow.holds Try.pinned (OpenSpec.ofChange fnExactPlaceOfSpec)

/-- ITS FALSE NEIGHBOUR: 'it returns false'. Refute it at one input. -/
def fnExactPlaceOfWrong : ChangeSpec := { name := "fnExactPlaceOf", fn := fun _ => fun
  | [d1, d2] => { results := [.lit (.bool false)], args := [d1, d2] }
  | _ => none }
def FnExactPlaceOfWrongFalsely : Prop := fnExactPlaceOfRow.holds Try.pinned (OpenSpec.ofChange fnExactPlaceOfWrong)

/-- 'laws.FnExactReverseAxis': WHATEVER THE INPUT: true; the input reads as it did. -/
def fnExactReverseAxisSpec : ChangeSpec := { name := "fnExactReverseAxis", fn := fun _ => fun
  | [d1, d2] => { results := [.lit (.bool true)], args := [d1, d2] }
  | _ => none }
def fnExactReverseAxisRow : OpenClaim := { program := "ytbmofdjdbgdmfaa", sum := "a9a5e5c54304518153a31896113e95c8d6b806b61a2d92a394cd82799bb35393", func := "loop.example/arraylanguage/laws.FnExactReverseAxis", spec := "fnExactReverseAxis", unfollowed := true, recurses := true, apart := false }
def FnExactReverseAxisSaid : Prop := fnExactReverseAxisRow.holds Try.pinned (OpenSpec.ofChange fnExactReverseAxisSpec)

/-- ITS FALSE NEIGHBOUR: 'it returns false'. Refute it at one input. -/
def fnExactReverseAxisWrong : ChangeSpec := { name := "fnExactReverseAxis", fn := fun _ => fun
  | [d1, d2] => { results := [.lit (.bool false)], args := [d1, d2] }
  | _ => none }
def FnExactReverseAxisWrongFalsely : Prop := fnExactReverseAxisRow.holds Try.pinned (OpenSpec.ofChange fnExactReverseAxisWrong)

/-- 'laws.FnExactRotateAxis': WHATEVER THE INPUT: true; the input reads as it did. -/
def fnExactRotateAxisSpec : ChangeSpec := { name := "fnExactRotateAxis", fn := fun _ => fun
  | [d1, d2, d3] => { results := [.lit (.bool true)], args := [d1, d2, d3] }
  | _ => none }
def fnExactRotateAxisRow : OpenClaim := { program := "ytbmofdjdbgdmfaa", sum := "a9a5e5c54304518153a31896113e95c8d6b806b61a2d92a394cd82799bb35393", func := "loop.example/arraylanguage/laws.FnExactRotateAxis", spec := "fnExactRotateAxis", unfollowed := true, recurses := true, apart := false }
def FnExactRotateAxisSaid : Prop := fnExactRotateAxisRow.holds Try.pinned (OpenSpec.ofChange fnExactRotateAxisSpec)

/-- ITS FALSE NEIGHBOUR: 'it returns false'. Refute it at one input. -/
def fnExactRotateAxisWrong : ChangeSpec := { name := "fnExactRotateAxis", fn := fun _ => fun
  | [d1, d2, d3] => { results := [.lit (.bool false)], args := [d1, d2, d3] }
  | _ => none }
def FnExactRotateAxisWrongFalsely : Prop := fnExactRotateAxisRow.holds Try.pinned (OpenSpec.ofChange fnExactRotateAxisWrong)

/-- 'laws.FnExactTakeAxis': WHATEVER THE INPUT: true; the input reads as it did. -/
def fnExactTakeAxisSpec : ChangeSpec := { name := "fnExactTakeAxis", fn := fun _ => fun
  | [d1, d2, d3] => { results := [.lit (.bool true)], args := [d1, d2, d3] }
  | _ => none }
def fnExactTakeAxisRow : OpenClaim := { program := "ytbmofdjdbgdmfaa", sum := "a9a5e5c54304518153a31896113e95c8d6b806b61a2d92a394cd82799bb35393", func := "loop.example/arraylanguage/laws.FnExactTakeAxis", spec := "fnExactTakeAxis", unfollowed := true, recurses := true, apart := false }
def FnExactTakeAxisSaid : Prop := fnExactTakeAxisRow.holds Try.pinned (OpenSpec.ofChange fnExactTakeAxisSpec)

/-- ITS FALSE NEIGHBOUR: 'it returns false'. Refute it at one input. -/
def fnExactTakeAxisWrong : ChangeSpec := { name := "fnExactTakeAxis", fn := fun _ => fun
  | [d1, d2, d3] => { results := [.lit (.bool false)], args := [d1, d2, d3] }
  | _ => none }
def FnExactTakeAxisWrongFalsely : Prop := fnExactTakeAxisRow.holds Try.pinned (OpenSpec.ofChange fnExactTakeAxisWrong)

/-- 'laws.FnExactDropAxis': WHATEVER THE INPUT: true; the input reads as it did. -/
def fnExactDropAxisSpec : ChangeSpec := { name := "fnExactDropAxis", fn := fun _ => fun
  | [d1, d2, d3] => { results := [.lit (.bool true)], args := [d1, d2, d3] }
  | _ => none }
def fnExactDropAxisRow : OpenClaim := { program := "ytbmofdjdbgdmfaa", sum := "a9a5e5c54304518153a31896113e95c8d6b806b61a2d92a394cd82799bb35393", func := "loop.example/arraylanguage/laws.FnExactDropAxis", spec := "fnExactDropAxis", unfollowed := true, recurses := true, apart := false }
def FnExactDropAxisSaid : Prop := fnExactDropAxisRow.holds Try.pinned (OpenSpec.ofChange fnExactDropAxisSpec)

/-- ITS FALSE NEIGHBOUR: 'it returns false'. Refute it at one input. -/
def fnExactDropAxisWrong : ChangeSpec := { name := "fnExactDropAxis", fn := fun _ => fun
  | [d1, d2, d3] => { results := [.lit (.bool false)], args := [d1, d2, d3] }
  | _ => none }
def FnExactDropAxisWrongFalsely : Prop := fnExactDropAxisRow.holds Try.pinned (OpenSpec.ofChange fnExactDropAxisWrong)

/-- 'laws.FnExactCombine': WHATEVER THE INPUT: true; the input reads as it did. -/
def fnExactCombineSpec : ChangeSpec := { name := "fnExactCombine", fn := fun _ => fun
  | [d1, d2, d3] => { results := [.lit (.bool true)], args := [d1, d2, d3] }
  | _ => none }
def fnExactCombineRow : OpenClaim := { program := "ytbmofdjdbgdmfaa", sum := "a9a5e5c54304518153a31896113e95c8d6b806b61a2d92a394cd82799bb35393", func := "loop.example/arraylanguage/laws.FnExactCombine", spec := "fnExactCombine", unfollowed := true, recurses := true, apart := false }
def FnExactCombineSaid : Prop := fnExactCombineRow.holds Try.pinned (OpenSpec.ofChange fnExactCombineSpec)

/-- ITS FALSE NEIGHBOUR: 'it returns false'. Refute it at one input. -/
def fnExactCombineWrong : ChangeSpec := { name := "fnExactCombine", fn := fun _ => fun
  | [d1, d2, d3] => { results := [.lit (.bool false)], args := [d1, d2, d3] }
  | _ => none }
def FnExactCombineWrongFalsely : Prop := fnExactCombineRow.holds Try.pinned (OpenSpec.ofChange fnExactCombineWrong)

/- THE SECOND FORM. 'bulk': how many values and letters a reading holds, each counted each time it is reached (what is shared counts as often as it is met; a slice's spare places count too). A statement '..UptoSaid' is the law's where the arguments, and the package variables that the reading takes, are together of bulk at most 1048576: NARROWER than '..Said'. Prove '..Said' where nothing that the law and all that it calls make is longer than what came in: it says more and counts as full. Else prove '..UptoSaid'. A law counts once. -/
mutual
def uptoBulk {H : Type} : DataW H → Nat
  | .lit (.string bytes) => bytes.length + 1
  | .lit _ => 1
  | .nil => 1
  | .ptr d => uptoBulk d + 1
  | .slice elems spare => uptoBulkAll elems + uptoBulkAll spare + 1
  | .agg parts => uptoBulkAll parts + 1
  | .iface _ d => uptoBulk d + 1
  | .map entries => uptoBulkEntries entries + 1
  | .held _ => 1
def uptoBulkAll {H : Type} : List (DataW H) → Nat
  | [] => 0
  | d :: r => uptoBulk d + uptoBulkAll r
def uptoBulkEntries {H : Type} : List (Lit × DataW H) → Nat
  | [] => 0
  | x :: r => uptoBulkEntry x + uptoBulkEntries r
def uptoBulkEntry {H : Type} : Lit × DataW H → Nat
  | (.string bytes, d) => bytes.length + uptoBulk d + 1
  | (_, d) => uptoBulk d + 1
 end
def uptoSmall : (H : Type) → List (DataW H) → Bool := fun _ ds => decide (uptoBulkAll ds ≤ 1048576)
def OpenSpec.upto (s : _root_.Go.ChangeSpec) : _root_.Go.OpenSpec := { _root_.Go.OpenSpec.ofChange s with cond := some uptoSmall }

/-- 'laws.FnExactPlaceOf', WHERE WHAT IT READS IS OF BULK AT MOST 1048576: true; the input reads as it did. -/
def fnExactPlaceOfUptoRow : OpenClaim := { program := "ytbmofdjdbgdmfaa", sum := "a9a5e5c54304518153a31896113e95c8d6b806b61a2d92a394cd82799bb35393", func := "loop.example/arraylanguage/laws.FnExactPlaceOf", spec := "fnExactPlaceOf", unfollowed := true, recurses := true, apart := false, narrowed := true }
def FnExactPlaceOfUptoSaid : Prop := fnExactPlaceOfUptoRow.holds Try.pinned (OpenSpec.upto fnExactPlaceOfSpec)

/-- 'laws.FnExactReverseAxis', WHERE WHAT IT READS IS OF BULK AT MOST 1048576: true; the input reads as it did. -/
def fnExactReverseAxisUptoRow : OpenClaim := { program := "ytbmofdjdbgdmfaa", sum := "a9a5e5c54304518153a31896113e95c8d6b806b61a2d92a394cd82799bb35393", func := "loop.example/arraylanguage/laws.FnExactReverseAxis", spec := "fnExactReverseAxis", unfollowed := true, recurses := true, apart := false, narrowed := true }
def FnExactReverseAxisUptoSaid : Prop := fnExactReverseAxisUptoRow.holds Try.pinned (OpenSpec.upto fnExactReverseAxisSpec)

/-- 'laws.FnExactRotateAxis', WHERE WHAT IT READS IS OF BULK AT MOST 1048576: true; the input reads as it did. -/
def fnExactRotateAxisUptoRow : OpenClaim := { program := "ytbmofdjdbgdmfaa", sum := "a9a5e5c54304518153a31896113e95c8d6b806b61a2d92a394cd82799bb35393", func := "loop.example/arraylanguage/laws.FnExactRotateAxis", spec := "fnExactRotateAxis", unfollowed := true, recurses := true, apart := false, narrowed := true }
def FnExactRotateAxisUptoSaid : Prop := fnExactRotateAxisUptoRow.holds Try.pinned (OpenSpec.upto fnExactRotateAxisSpec)

/-- 'laws.FnExactTakeAxis', WHERE WHAT IT READS IS OF BULK AT MOST 1048576: true; the input reads as it did. -/
def fnExactTakeAxisUptoRow : OpenClaim := { program := "ytbmofdjdbgdmfaa", sum := "a9a5e5c54304518153a31896113e95c8d6b806b61a2d92a394cd82799bb35393", func := "loop.example/arraylanguage/laws.FnExactTakeAxis", spec := "fnExactTakeAxis", unfollowed := true, recurses := true, apart := false, narrowed := true }
def FnExactTakeAxisUptoSaid : Prop := fnExactTakeAxisUptoRow.holds Try.pinned (OpenSpec.upto fnExactTakeAxisSpec)

/-- 'laws.FnExactDropAxis', WHERE WHAT IT READS IS OF BULK AT MOST 1048576: true; the input reads as it did. -/
def fnExactDropAxisUptoRow : OpenClaim := { program := "ytbmofdjdbgdmfaa", sum := "a9a5e5c54304518153a31896113e95c8d6b806b61a2d92a394cd82799bb35393", func := "loop.example/arraylanguage/laws.FnExactDropAxis", spec := "fnExactDropAxis", unfollowed := true, recurses := true, apart := false, narrowed := true }
def FnExactDropAxisUptoSaid : Prop := fnExactDropAxisUptoRow.holds Try.pinned (OpenSpec.upto fnExactDropAxisSpec)

/-- 'laws.FnExactCombine', WHERE WHAT IT READS IS OF BULK AT MOST 1048576: true; the input reads as it did. -/
def fnExactCombineUptoRow : OpenClaim := { program := "ytbmofdjdbgdmfaa", sum := "a9a5e5c54304518153a31896113e95c8d6b806b61a2d92a394cd82799bb35393", func := "loop.example/arraylanguage/laws.FnExactCombine", spec := "fnExactCombine", unfollowed := true, recurses := true, apart := false, narrowed := true }
def FnExactCombineUptoSaid : Prop := fnExactCombineUptoRow.holds Try.pinned (OpenSpec.upto fnExactCombineSpec)

end Rows
end Go.Proofs.Ytbmofdjdbgdmfaa
