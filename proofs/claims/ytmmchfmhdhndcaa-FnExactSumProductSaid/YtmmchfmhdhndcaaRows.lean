/-
  No cell of these rows narrows 'for every input' (looked for: loops, veiled, ifaces, maps, wideKeys, modest, calm, conditions, laid).
  DERIVED. THE GIVEN ROWS OF THIS SEAT. 6 by the template 'for every input the law returns true; each argument reads behind the call as it read before'; 0 by the template 'total and deterministic' (their statements: YtmmchfmhdhndcaaTotals.lean).
  GIVEN WITH THE SEED: the statements are not yours to turn. If you find one false, say at which input.
  Laid BY PROGRAM, IN A SANDBOX (cutbox-rows.mjs): the forced cells as the released guide's own fill.sh prints them over the translation d556850be2a3c384… (all of the seat's roots in one cut). By AI agents, Wed Nov 11 2026. No macro, syntax, notation, axiom, sorry.
-/
import Derived.Test.YtmmchfmhdhndcaaChecked
import GoSem.Claim
import GoSem.ClaimJoined
import GoSem.ClaimMapViews
import Derived.JoinedTies
import Derived.KernelRfl
namespace Go.Proofs.Ytmmchfmhdhndcaa
/- THE CELL 'sum', in the pinned program and in every row, IS THE sha256 OF THE DUMP (.gsa) THAT YtmmchfmhdhndcaaProg.lean LOADS. Nothing in Lean hashes anything: it is a label: what it is worth is what the hold of that sum in a sandbox is worth. -/
noncomputable def Try.pinned : Pinned := { name := "ytmmchfmhdhndcaa", sum := "d556850be2a3c384fd636ff7b3bda1307a04b170841e6abbeab30898de7210de", checked := Try.checked }
namespace Rows
def none {H : Type} : Left H := { results := [], args := [] }

/-- 'laws.FnExactReduceAxis': WHATEVER THE INPUT: true; the input reads as it did. -/
def fnExactReduceAxisSpec : ChangeSpec := { name := "fnExactReduceAxis", fn := fun _ => fun
  | [d1, d2, d3] => { results := [.lit (.bool true)], args := [d1, d2, d3] }
  | _ => none }
def fnExactReduceAxisRow : OpenClaim := { program := "ytmmchfmhdhndcaa", sum := "d556850be2a3c384fd636ff7b3bda1307a04b170841e6abbeab30898de7210de", func := "loop.example/arraylanguage/laws.FnExactReduceAxis", spec := "fnExactReduceAxis", unfollowed := true, recurses := true, apart := false }
def FnExactReduceAxisSaid : Prop := fnExactReduceAxisRow.holds Try.pinned (OpenSpec.ofChange fnExactReduceAxisSpec)

/-- ITS FALSE NEIGHBOUR: 'it returns false'. Refute it at one input. -/
def fnExactReduceAxisWrong : ChangeSpec := { name := "fnExactReduceAxis", fn := fun _ => fun
  | [d1, d2, d3] => { results := [.lit (.bool false)], args := [d1, d2, d3] }
  | _ => none }
def FnExactReduceAxisWrongFalsely : Prop := fnExactReduceAxisRow.holds Try.pinned (OpenSpec.ofChange fnExactReduceAxisWrong)

/-- 'laws.FnExactScanAxis': WHATEVER THE INPUT: true; the input reads as it did. -/
def fnExactScanAxisSpec : ChangeSpec := { name := "fnExactScanAxis", fn := fun _ => fun
  | [d1, d2, d3] => { results := [.lit (.bool true)], args := [d1, d2, d3] }
  | _ => none }
def fnExactScanAxisRow : OpenClaim := { program := "ytmmchfmhdhndcaa", sum := "d556850be2a3c384fd636ff7b3bda1307a04b170841e6abbeab30898de7210de", func := "loop.example/arraylanguage/laws.FnExactScanAxis", spec := "fnExactScanAxis", unfollowed := true, recurses := true, apart := false }
def FnExactScanAxisSaid : Prop := fnExactScanAxisRow.holds Try.pinned (OpenSpec.ofChange fnExactScanAxisSpec)

/-- ITS FALSE NEIGHBOUR: 'it returns false'. Refute it at one input. -/
def fnExactScanAxisWrong : ChangeSpec := { name := "fnExactScanAxis", fn := fun _ => fun
  | [d1, d2, d3] => { results := [.lit (.bool false)], args := [d1, d2, d3] }
  | _ => none }
def FnExactScanAxisWrongFalsely : Prop := fnExactScanAxisRow.holds Try.pinned (OpenSpec.ofChange fnExactScanAxisWrong)

/-- 'laws.FnExactReduceAll': WHATEVER THE INPUT: true; the input reads as it did. -/
def fnExactReduceAllSpec : ChangeSpec := { name := "fnExactReduceAll", fn := fun _ => fun
  | [d1, d2] => { results := [.lit (.bool true)], args := [d1, d2] }
  | _ => none }
def fnExactReduceAllRow : OpenClaim := { program := "ytmmchfmhdhndcaa", sum := "d556850be2a3c384fd636ff7b3bda1307a04b170841e6abbeab30898de7210de", func := "loop.example/arraylanguage/laws.FnExactReduceAll", spec := "fnExactReduceAll", unfollowed := true, recurses := true, apart := false }
def FnExactReduceAllSaid : Prop := fnExactReduceAllRow.holds Try.pinned (OpenSpec.ofChange fnExactReduceAllSpec)

/-- ITS FALSE NEIGHBOUR: 'it returns false'. Refute it at one input. -/
def fnExactReduceAllWrong : ChangeSpec := { name := "fnExactReduceAll", fn := fun _ => fun
  | [d1, d2] => { results := [.lit (.bool false)], args := [d1, d2] }
  | _ => none }
def FnExactReduceAllWrongFalsely : Prop := fnExactReduceAllRow.holds Try.pinned (OpenSpec.ofChange fnExactReduceAllWrong)

/-- 'laws.FnExactOuterProduct': WHATEVER THE INPUT: true; the input reads as it did. -/
def fnExactOuterProductSpec : ChangeSpec := { name := "fnExactOuterProduct", fn := fun _ => fun
  | [d1, d2, d3] => { results := [.lit (.bool true)], args := [d1, d2, d3] }
  | _ => none }
def fnExactOuterProductRow : OpenClaim := { program := "ytmmchfmhdhndcaa", sum := "d556850be2a3c384fd636ff7b3bda1307a04b170841e6abbeab30898de7210de", func := "loop.example/arraylanguage/laws.FnExactOuterProduct", spec := "fnExactOuterProduct", unfollowed := true, recurses := true, apart := false }
def FnExactOuterProductSaid : Prop := fnExactOuterProductRow.holds Try.pinned (OpenSpec.ofChange fnExactOuterProductSpec)

/-- ITS FALSE NEIGHBOUR: 'it returns false'. Refute it at one input. -/
def fnExactOuterProductWrong : ChangeSpec := { name := "fnExactOuterProduct", fn := fun _ => fun
  | [d1, d2, d3] => { results := [.lit (.bool false)], args := [d1, d2, d3] }
  | _ => none }
def FnExactOuterProductWrongFalsely : Prop := fnExactOuterProductRow.holds Try.pinned (OpenSpec.ofChange fnExactOuterProductWrong)

/-- 'laws.FnExactInnerProduct': WHATEVER THE INPUT: true; the input reads as it did. -/
def fnExactInnerProductSpec : ChangeSpec := { name := "fnExactInnerProduct", fn := fun _ => fun
  | [d1, d2, d3, d4] => { results := [.lit (.bool true)], args := [d1, d2, d3, d4] }
  | _ => none }
def fnExactInnerProductRow : OpenClaim := { program := "ytmmchfmhdhndcaa", sum := "d556850be2a3c384fd636ff7b3bda1307a04b170841e6abbeab30898de7210de", func := "loop.example/arraylanguage/laws.FnExactInnerProduct", spec := "fnExactInnerProduct", unfollowed := true, recurses := true, apart := false }
def FnExactInnerProductSaid : Prop := fnExactInnerProductRow.holds Try.pinned (OpenSpec.ofChange fnExactInnerProductSpec)

/-- ITS FALSE NEIGHBOUR: 'it returns false'. Refute it at one input. -/
def fnExactInnerProductWrong : ChangeSpec := { name := "fnExactInnerProduct", fn := fun _ => fun
  | [d1, d2, d3, d4] => { results := [.lit (.bool false)], args := [d1, d2, d3, d4] }
  | _ => none }
def FnExactInnerProductWrongFalsely : Prop := fnExactInnerProductRow.holds Try.pinned (OpenSpec.ofChange fnExactInnerProductWrong)

/-- 'laws.FnExactSumProduct': WHATEVER THE INPUT: true; the input reads as it did. -/
def fnExactSumProductSpec : ChangeSpec := { name := "fnExactSumProduct", fn := fun _ => fun
  | [d1, d2] => { results := [.lit (.bool true)], args := [d1, d2] }
  | _ => none }
def fnExactSumProductRow : OpenClaim := { program := "ytmmchfmhdhndcaa", sum := "d556850be2a3c384fd636ff7b3bda1307a04b170841e6abbeab30898de7210de", func := "loop.example/arraylanguage/laws.FnExactSumProduct", spec := "fnExactSumProduct", unfollowed := true, recurses := true, apart := false }
def FnExactSumProductSaid : Prop := fnExactSumProductRow.holds Try.pinned (OpenSpec.ofChange fnExactSumProductSpec)

/-- ITS FALSE NEIGHBOUR: 'it returns false'. Refute it at one input. -/
def fnExactSumProductWrong : ChangeSpec := { name := "fnExactSumProduct", fn := fun _ => fun
  | [d1, d2] => { results := [.lit (.bool false)], args := [d1, d2] }
  | _ => none }
def FnExactSumProductWrongFalsely : Prop := fnExactSumProductRow.holds Try.pinned (OpenSpec.ofChange fnExactSumProductWrong)

/- THE SECOND FORM. 'bulk': how many values and letters a reading holds, each counted each time it is reached (what is shared counts as often as it is met; a slice's spare places count too). A statement '..UptoSaid' is the law's where the arguments, and the package variables that the reading takes, are together of bulk at most 1048576: NARROWER than '..Said'. Prove '..Said' where nothing that the law and all that it calls make is longer than what came in: it says more and counts as full. Else prove '..UptoSaid'. A law counts once. -/
mutual
def uptoBulk {H : Type} : DataW H → Nat
  | .lit (.string bytes) => bytes.length + 1
  | .lit _ => 1
  | .nil => 1
  | .ptr d => uptoBulk d + 1
  | .slice elems spare => uptoBulkAll elems + uptoBulkAll spare + 1
  | .agg parts => uptoBulkAll parts + 1
  | .iface _ d => uptoBulk d + 1
  | .map entries => uptoBulkEntries entries + 1
  | .held _ => 1
def uptoBulkAll {H : Type} : List (DataW H) → Nat
  | [] => 0
  | d :: r => uptoBulk d + uptoBulkAll r
def uptoBulkEntries {H : Type} : List (Lit × DataW H) → Nat
  | [] => 0
  | x :: r => uptoBulkEntry x + uptoBulkEntries r
def uptoBulkEntry {H : Type} : Lit × DataW H → Nat
  | (.string bytes, d) => bytes.length + uptoBulk d + 1
  | (_, d) => uptoBulk d + 1
 end
def uptoSmall : (H : Type) → List (DataW H) → Bool := fun _ ds => decide (uptoBulkAll ds ≤ 1048576)
def OpenSpec.upto (s : _root_.Go.ChangeSpec) : _root_.Go.OpenSpec := { _root_.Go.OpenSpec.ofChange s with cond := some uptoSmall }

/-- 'laws.FnExactReduceAxis', WHERE WHAT IT READS IS OF BULK AT MOST 1048576: true; the input reads as it did. -/
def fnExactReduceAxisUptoRow : OpenClaim := { program := "ytmmchfmhdhndcaa", sum := "d556850be2a3c384fd636ff7b3bda1307a04b170841e6abbeab30898de7210de", func := "loop.example/arraylanguage/laws.FnExactReduceAxis", spec := "fnExactReduceAxis", unfollowed := true, recurses := true, apart := false, narrowed := true }
def FnExactReduceAxisUptoSaid : Prop := fnExactReduceAxisUptoRow.holds Try.pinned (OpenSpec.upto fnExactReduceAxisSpec)

/-- 'laws.FnExactScanAxis', WHERE WHAT IT READS IS OF BULK AT MOST 1048576: true; the input reads as it did. -/
def fnExactScanAxisUptoRow : OpenClaim := { program := "ytmmchfmhdhndcaa", sum := "d556850be2a3c384fd636ff7b3bda1307a04b170841e6abbeab30898de7210de", func := "loop.example/arraylanguage/laws.FnExactScanAxis", spec := "fnExactScanAxis", unfollowed := true, recurses := true, apart := false, narrowed := true }
def FnExactScanAxisUptoSaid : Prop := fnExactScanAxisUptoRow.holds Try.pinned (OpenSpec.upto fnExactScanAxisSpec)

/-- 'laws.FnExactReduceAll', WHERE WHAT IT READS IS OF BULK AT MOST 1048576: true; the input reads as it did. -/
def fnExactReduceAllUptoRow : OpenClaim := { program := "ytmmchfmhdhndcaa", sum := "d556850be2a3c384fd636ff7b3bda1307a04b170841e6abbeab30898de7210de", func := "loop.example/arraylanguage/laws.FnExactReduceAll", spec := "fnExactReduceAll", unfollowed := true, recurses := true, apart := false, narrowed := true }
def FnExactReduceAllUptoSaid : Prop := fnExactReduceAllUptoRow.holds Try.pinned (OpenSpec.upto fnExactReduceAllSpec)

/-- 'laws.FnExactOuterProduct', WHERE WHAT IT READS IS OF BULK AT MOST 1048576: true; the input reads as it did. -/
def fnExactOuterProductUptoRow : OpenClaim := { program := "ytmmchfmhdhndcaa", sum := "d556850be2a3c384fd636ff7b3bda1307a04b170841e6abbeab30898de7210de", func := "loop.example/arraylanguage/laws.FnExactOuterProduct", spec := "fnExactOuterProduct", unfollowed := true, recurses := true, apart := false, narrowed := true }
def FnExactOuterProductUptoSaid : Prop := fnExactOuterProductUptoRow.holds Try.pinned (OpenSpec.upto fnExactOuterProductSpec)

/-- 'laws.FnExactInnerProduct', WHERE WHAT IT READS IS OF BULK AT MOST 1048576: true; the input reads as it did. -/
def fnExactInnerProductUptoRow : OpenClaim := { program := "ytmmchfmhdhndcaa", sum := "d556850be2a3c384fd636ff7b3bda1307a04b170841e6abbeab30898de7210de", func := "loop.example/arraylanguage/laws.FnExactInnerProduct", spec := "fnExactInnerProduct", unfollowed := true, recurses := true, apart := false, narrowed := true }
def FnExactInnerProductUptoSaid : Prop := fnExactInnerProductUptoRow.holds Try.pinned (OpenSpec.upto fnExactInnerProductSpec)

/-- 'laws.FnExactSumProduct', WHERE WHAT IT READS IS OF BULK AT MOST 1048576: true; the input reads as it did. -/
def fnExactSumProductUptoRow : OpenClaim := { program := "ytmmchfmhdhndcaa", sum := "d556850be2a3c384fd636ff7b3bda1307a04b170841e6abbeab30898de7210de", func := "loop.example/arraylanguage/laws.FnExactSumProduct", spec := "fnExactSumProduct", unfollowed := true, recurses := true, apart := false, narrowed := true }
def FnExactSumProductUptoSaid : Prop := fnExactSumProductUptoRow.holds Try.pinned (OpenSpec.upto fnExactSumProductSpec)

end Rows
end Go.Proofs.Ytmmchfmhdhndcaa
