/-
  No cell of these rows narrows 'for every input' (looked for: loops, veiled, ifaces, maps, wideKeys, modest, calm, conditions, laid).
  DERIVED. THE GIVEN ROWS OF THIS SEAT. 6 by the template 'for every input the law returns true; each argument reads behind the call as it read before'; 0 by the template 'total and deterministic' (their statements: YtpbfhhpfbfjnmaaTotals.lean).
  GIVEN WITH THE SEED: the statements are not yours to turn. If you find one false, say at which input.
  Laid BY PROGRAM, IN A SANDBOX (cutbox-rows.mjs): the forced cells as the released guide's own fill.sh prints them over the translation 47963f44950d8074… (all of the seat's roots in one cut). By AI agents, Wed Nov 11 2026. No macro, syntax, notation, axiom, sorry.
-/
import Derived.Test.YtpbfhhpfbfjnmaaChecked
import GoSem.Claim
import GoSem.ClaimJoined
import GoSem.ClaimMapViews
import Derived.JoinedTies
import Derived.KernelRfl
namespace Go.Proofs.Ytpbfhhpfbfjnmaa
/- THE CELL 'sum', in the pinned program and in every row, IS THE sha256 OF THE DUMP (.gsa) THAT YtpbfhhpfbfjnmaaProg.lean LOADS. Nothing in Lean hashes anything: it is a label: what it is worth is what the hold of that sum in a sandbox is worth. -/
noncomputable def Try.pinned : Pinned := { name := "ytpbfhhpfbfjnmaa", sum := "47963f44950d8074fe48e4bcf69b9fe9b0d8bcecd9e2bbc3943191bb1992c6e0", checked := Try.checked }
namespace Rows
def none {H : Type} : Left H := { results := [], args := [] }

/-- 'laws.FnJoinAxis': WHATEVER THE INPUT: true; the input reads as it did. -/
def fnJoinAxisSpec : ChangeSpec := { name := "fnJoinAxis", fn := fun _ => fun
  | [d] => { results := [.lit (.bool true)], args := [d] }
  | _ => none }
def fnJoinAxisRow : OpenClaim := { program := "ytpbfhhpfbfjnmaa", sum := "47963f44950d8074fe48e4bcf69b9fe9b0d8bcecd9e2bbc3943191bb1992c6e0", func := "loop.example/arraylanguage/laws.FnJoinAxis", spec := "fnJoinAxis", unfollowed := true, recurses := true, apart := false }
def FnJoinAxisSaid : Prop := fnJoinAxisRow.holds Try.pinned (OpenSpec.ofChange fnJoinAxisSpec)

/-- ITS FALSE NEIGHBOUR: 'it returns false'. Refute it at one input. -/
def fnJoinAxisWrong : ChangeSpec := { name := "fnJoinAxis", fn := fun _ => fun
  | [d] => { results := [.lit (.bool false)], args := [d] }
  | _ => none }
def FnJoinAxisWrongFalsely : Prop := fnJoinAxisRow.holds Try.pinned (OpenSpec.ofChange fnJoinAxisWrong)

/-- 'laws.FnJoinAxisReverse': WHATEVER THE INPUT: true; the input reads as it did. -/
def fnJoinAxisReverseSpec : ChangeSpec := { name := "fnJoinAxisReverse", fn := fun _ => fun
  | [d] => { results := [.lit (.bool true)], args := [d] }
  | _ => none }
def fnJoinAxisReverseRow : OpenClaim := { program := "ytpbfhhpfbfjnmaa", sum := "47963f44950d8074fe48e4bcf69b9fe9b0d8bcecd9e2bbc3943191bb1992c6e0", func := "loop.example/arraylanguage/laws.FnJoinAxisReverse", spec := "fnJoinAxisReverse", unfollowed := true, recurses := true, apart := false }
def FnJoinAxisReverseSaid : Prop := fnJoinAxisReverseRow.holds Try.pinned (OpenSpec.ofChange fnJoinAxisReverseSpec)

/-- ITS FALSE NEIGHBOUR: 'it returns false'. Refute it at one input. -/
def fnJoinAxisReverseWrong : ChangeSpec := { name := "fnJoinAxisReverse", fn := fun _ => fun
  | [d] => { results := [.lit (.bool false)], args := [d] }
  | _ => none }
def FnJoinAxisReverseWrongFalsely : Prop := fnJoinAxisReverseRow.holds Try.pinned (OpenSpec.ofChange fnJoinAxisReverseWrong)

/-- 'laws.FnStackArrays': WHATEVER THE INPUT: true; the input reads as it did. -/
def fnStackArraysSpec : ChangeSpec := { name := "fnStackArrays", fn := fun _ => fun
  | [d] => { results := [.lit (.bool true)], args := [d] }
  | _ => none }
def fnStackArraysRow : OpenClaim := { program := "ytpbfhhpfbfjnmaa", sum := "47963f44950d8074fe48e4bcf69b9fe9b0d8bcecd9e2bbc3943191bb1992c6e0", func := "loop.example/arraylanguage/laws.FnStackArrays", spec := "fnStackArrays", apart := false }
def FnStackArraysSaid : Prop := fnStackArraysRow.holds Try.pinned (OpenSpec.ofChange fnStackArraysSpec)

/-- ITS FALSE NEIGHBOUR: 'it returns false'. Refute it at one input. -/
def fnStackArraysWrong : ChangeSpec := { name := "fnStackArrays", fn := fun _ => fun
  | [d] => { results := [.lit (.bool false)], args := [d] }
  | _ => none }
def FnStackArraysWrongFalsely : Prop := fnStackArraysRow.holds Try.pinned (OpenSpec.ofChange fnStackArraysWrong)

/-- 'laws.FnStackArraysRavel': WHATEVER THE INPUT: true; the input reads as it did. -/
def fnStackArraysRavelSpec : ChangeSpec := { name := "fnStackArraysRavel", fn := fun _ => fun
  | [d] => { results := [.lit (.bool true)], args := [d] }
  | _ => none }
def fnStackArraysRavelRow : OpenClaim := { program := "ytpbfhhpfbfjnmaa", sum := "47963f44950d8074fe48e4bcf69b9fe9b0d8bcecd9e2bbc3943191bb1992c6e0", func := "loop.example/arraylanguage/laws.FnStackArraysRavel", spec := "fnStackArraysRavel", apart := false }
def FnStackArraysRavelSaid : Prop := fnStackArraysRavelRow.holds Try.pinned (OpenSpec.ofChange fnStackArraysRavelSpec)

/-- ITS FALSE NEIGHBOUR: 'it returns false'. Refute it at one input. -/
def fnStackArraysRavelWrong : ChangeSpec := { name := "fnStackArraysRavel", fn := fun _ => fun
  | [d] => { results := [.lit (.bool false)], args := [d] }
  | _ => none }
def FnStackArraysRavelWrongFalsely : Prop := fnStackArraysRavelRow.holds Try.pinned (OpenSpec.ofChange fnStackArraysRavelWrong)

/-- 'laws.FnJoinAxisThree': WHATEVER THE INPUT: true; the input reads as it did. -/
def fnJoinAxisThreeSpec : ChangeSpec := { name := "fnJoinAxisThree", fn := fun _ => fun
  | [d] => { results := [.lit (.bool true)], args := [d] }
  | _ => none }
def fnJoinAxisThreeRow : OpenClaim := { program := "ytpbfhhpfbfjnmaa", sum := "47963f44950d8074fe48e4bcf69b9fe9b0d8bcecd9e2bbc3943191bb1992c6e0", func := "loop.example/arraylanguage/laws.FnJoinAxisThree", spec := "fnJoinAxisThree", apart := false }
def FnJoinAxisThreeSaid : Prop := fnJoinAxisThreeRow.holds Try.pinned (OpenSpec.ofChange fnJoinAxisThreeSpec)

/-- ITS FALSE NEIGHBOUR: 'it returns false'. Refute it at one input. -/
def fnJoinAxisThreeWrong : ChangeSpec := { name := "fnJoinAxisThree", fn := fun _ => fun
  | [d] => { results := [.lit (.bool false)], args := [d] }
  | _ => none }
def FnJoinAxisThreeWrongFalsely : Prop := fnJoinAxisThreeRow.holds Try.pinned (OpenSpec.ofChange fnJoinAxisThreeWrong)

/-- 'laws.FnTakeAxis': WHATEVER THE INPUT: true; the input reads as it did. -/
def fnTakeAxisSpec : ChangeSpec := { name := "fnTakeAxis", fn := fun _ => fun
  | [d] => { results := [.lit (.bool true)], args := [d] }
  | _ => none }
def fnTakeAxisRow : OpenClaim := { program := "ytpbfhhpfbfjnmaa", sum := "47963f44950d8074fe48e4bcf69b9fe9b0d8bcecd9e2bbc3943191bb1992c6e0", func := "loop.example/arraylanguage/laws.FnTakeAxis", spec := "fnTakeAxis", unfollowed := true, recurses := true, apart := false }
def FnTakeAxisSaid : Prop := fnTakeAxisRow.holds Try.pinned (OpenSpec.ofChange fnTakeAxisSpec)

/-- ITS FALSE NEIGHBOUR: 'it returns false'. Refute it at one input. -/
def fnTakeAxisWrong : ChangeSpec := { name := "fnTakeAxis", fn := fun _ => fun
  | [d] => { results := [.lit (.bool false)], args := [d] }
  | _ => none }
def FnTakeAxisWrongFalsely : Prop := fnTakeAxisRow.holds Try.pinned (OpenSpec.ofChange fnTakeAxisWrong)

/- THE SECOND FORM. 'bulk': how many values and letters a reading holds, each counted each time it is reached (what is shared counts as often as it is met; a slice's spare places count too). A statement '..UptoSaid' is the law's where the arguments, and the package variables that the reading takes, are together of bulk at most 1048576: NARROWER than '..Said'. Prove '..Said' where nothing that the law and all that it calls make is longer than what came in: it says more and counts as full. Else prove '..UptoSaid'. A law counts once. -/
mutual
def uptoBulk {H : Type} : DataW H → Nat
  | .lit (.string bytes) => bytes.length + 1
  | .lit _ => 1
  | .nil => 1
  | .ptr d => uptoBulk d + 1
  | .slice elems spare => uptoBulkAll elems + uptoBulkAll spare + 1
  | .agg parts => uptoBulkAll parts + 1
  | .iface _ d => uptoBulk d + 1
  | .map entries => uptoBulkEntries entries + 1
  | .held _ => 1
def uptoBulkAll {H : Type} : List (DataW H) → Nat
  | [] => 0
  | d :: r => uptoBulk d + uptoBulkAll r
def uptoBulkEntries {H : Type} : List (Lit × DataW H) → Nat
  | [] => 0
  | x :: r => uptoBulkEntry x + uptoBulkEntries r
def uptoBulkEntry {H : Type} : Lit × DataW H → Nat
  | (.string bytes, d) => bytes.length + uptoBulk d + 1
  | (_, d) => uptoBulk d + 1
 end
def uptoSmall : (H : Type) → List (DataW H) → Bool := fun _ ds => decide (uptoBulkAll ds ≤ 1048576)
def OpenSpec.upto (s : _root_.Go.ChangeSpec) : _root_.Go.OpenSpec := { _root_.Go.OpenSpec.ofChange s with cond := some uptoSmall }

/-- 'laws.FnJoinAxis', WHERE WHAT IT READS IS OF BULK AT MOST 1048576: true; the input reads as it did. -/
def fnJoinAxisUptoRow : OpenClaim := { program := "ytpbfhhpfbfjnmaa", sum := "47963f44950d8074fe48e4bcf69b9fe9b0d8bcecd9e2bbc3943191bb1992c6e0", func := "loop.example/arraylanguage/laws.FnJoinAxis", spec := "fnJoinAxis", unfollowed := true, recurses := true, apart := false, narrowed := true }
def FnJoinAxisUptoSaid : Prop := fnJoinAxisUptoRow.holds Try.pinned (OpenSpec.upto fnJoinAxisSpec)

/-- 'laws.FnJoinAxisReverse', WHERE WHAT IT READS IS OF BULK AT MOST 1048576: true; the input reads as it did. -/
def fnJoinAxisReverseUptoRow : OpenClaim := { program := "ytpbfhhpfbfjnmaa", sum := "47963f44950d8074fe48e4bcf69b9fe9b0d8bcecd9e2bbc3943191bb1992c6e0", func := "loop.example/arraylanguage/laws.FnJoinAxisReverse", spec := "fnJoinAxisReverse", unfollowed := true, recurses := true, apart := false, narrowed := true }
def FnJoinAxisReverseUptoSaid : Prop := fnJoinAxisReverseUptoRow.holds Try.pinned (OpenSpec.upto fnJoinAxisReverseSpec)

/-- 'laws.FnStackArrays', WHERE WHAT IT READS IS OF BULK AT MOST 1048576: true; the input reads as it did. -/
def fnStackArraysUptoRow : OpenClaim := { program := "ytpbfhhpfbfjnmaa", sum := "47963f44950d8074fe48e4bcf69b9fe9b0d8bcecd9e2bbc3943191bb1992c6e0", func := "loop.example/arraylanguage/laws.FnStackArrays", spec := "fnStackArrays", apart := false, narrowed := true }
def FnStackArraysUptoSaid : Prop := fnStackArraysUptoRow.holds Try.pinned (OpenSpec.upto fnStackArraysSpec)

/-- 'laws.FnStackArraysRavel', WHERE WHAT IT READS IS OF BULK AT MOST 1048576: true; the input reads as it did. -/
def fnStackArraysRavelUptoRow : OpenClaim := { program := "ytpbfhhpfbfjnmaa", sum := "47963f44950d8074fe48e4bcf69b9fe9b0d8bcecd9e2bbc3943191bb1992c6e0", func := "loop.example/arraylanguage/laws.FnStackArraysRavel", spec := "fnStackArraysRavel", apart := false, narrowed := true }
def FnStackArraysRavelUptoSaid : Prop := fnStackArraysRavelUptoRow.holds Try.pinned (OpenSpec.upto fnStackArraysRavelSpec)

/-- 'laws.FnJoinAxisThree', WHERE WHAT IT READS IS OF BULK AT MOST 1048576: true; the input reads as it did. -/
def fnJoinAxisThreeUptoRow : OpenClaim := { program := "ytpbfhhpfbfjnmaa", sum := "47963f44950d8074fe48e4bcf69b9fe9b0d8bcecd9e2bbc3943191bb1992c6e0", func := "loop.example/arraylanguage/laws.FnJoinAxisThree", spec := "fnJoinAxisThree", apart := false, narrowed := true }
def FnJoinAxisThreeUptoSaid : Prop := fnJoinAxisThreeUptoRow.holds Try.pinned (OpenSpec.upto fnJoinAxisThreeSpec)

/-- 'laws.FnTakeAxis', WHERE WHAT IT READS IS OF BULK AT MOST 1048576: true; the input reads as it did. -/
def fnTakeAxisUptoRow : OpenClaim := { program := "ytpbfhhpfbfjnmaa", sum := "47963f44950d8074fe48e4bcf69b9fe9b0d8bcecd9e2bbc3943191bb1992c6e0", func := "loop.example/arraylanguage/laws.FnTakeAxis", spec := "fnTakeAxis", unfollowed := true, recurses := true, apart := false, narrowed := true }
def FnTakeAxisUptoSaid : Prop := fnTakeAxisUptoRow.holds Try.pinned (OpenSpec.upto fnTakeAxisSpec)

end Rows
end Go.Proofs.Ytpbfhhpfbfjnmaa
