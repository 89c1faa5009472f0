/-
  No cell of these rows narrows 'for every input' (looked for: loops, veiled, ifaces, maps, wideKeys, modest, calm, conditions, laid).
  DERIVED. THE GIVEN ROWS OF THIS SEAT. 6 by the template 'for every input the law returns true; each argument reads behind the call as it read before'; 0 by the template 'total and deterministic' (their statements: YtmonjjdcebboiadTotals.lean).
  GIVEN WITH THE SEED: the statements are not yours to turn. If you find one false, say at which input.
  Laid BY PROGRAM, IN A SANDBOX (cutbox-rows.mjs): the forced cells as the released guide's own fill.sh prints them over the translation 569d74a49a4292ba… (all of the seat's roots in one cut). By AI agents, Wed Nov 11 2026. No macro, syntax, notation, axiom, sorry.
-/
import Derived.Test.YtmonjjdcebboiadChecked
import GoSem.Claim
import GoSem.ClaimJoined
import GoSem.ClaimMapViews
import Derived.JoinedTies
import Derived.KernelRfl
namespace Go.Proofs.Ytmonjjdcebboiad
/- THE CELL 'sum', in the pinned program and in every row, IS THE sha256 OF THE DUMP (.gsa) THAT YtmonjjdcebboiadProg.lean LOADS. Nothing in Lean hashes anything: it is a label: what it is worth is what the hold of that sum in a sandbox is worth. -/
noncomputable def Try.pinned : Pinned := { name := "ytmonjjdcebboiad", sum := "569d74a49a4292baf2cb1f4d580ba7534632f2159f627c2e30d8e45537dd1aa1", checked := Try.checked }
namespace Rows
def none {H : Type} : Left H := { results := [], args := [] }

/-- 'laws.FnSplitAt': WHATEVER THE INPUT: true; the input reads as it did. -/
def fnSplitAtSpec : ChangeSpec := { name := "fnSplitAt", fn := fun _ => fun
  | [d] => { results := [.lit (.bool true)], args := [d] }
  | _ => none }
def fnSplitAtRow : OpenClaim := { program := "ytmonjjdcebboiad", sum := "569d74a49a4292baf2cb1f4d580ba7534632f2159f627c2e30d8e45537dd1aa1", func := "loop.example/arraylanguage/laws.FnSplitAt", spec := "fnSplitAt", apart := false }
def FnSplitAtSaid : Prop := fnSplitAtRow.holds Try.pinned (OpenSpec.ofChange fnSplitAtSpec)

/-- ITS FALSE NEIGHBOUR: 'it returns false'. Refute it at one input. -/
def fnSplitAtWrong : ChangeSpec := { name := "fnSplitAt", fn := fun _ => fun
  | [d] => { results := [.lit (.bool false)], args := [d] }
  | _ => none }
def FnSplitAtWrongFalsely : Prop := fnSplitAtRow.holds Try.pinned (OpenSpec.ofChange fnSplitAtWrong)

/-- 'laws.FnSplitAtAll': WHATEVER THE INPUT: true; the input reads as it did. -/
def fnSplitAtAllSpec : ChangeSpec := { name := "fnSplitAtAll", fn := fun _ => fun
  | [d] => { results := [.lit (.bool true)], args := [d] }
  | _ => none }
def fnSplitAtAllRow : OpenClaim := { program := "ytmonjjdcebboiad", sum := "569d74a49a4292baf2cb1f4d580ba7534632f2159f627c2e30d8e45537dd1aa1", func := "loop.example/arraylanguage/laws.FnSplitAtAll", spec := "fnSplitAtAll", apart := false }
def FnSplitAtAllSaid : Prop := fnSplitAtAllRow.holds Try.pinned (OpenSpec.ofChange fnSplitAtAllSpec)

/-- ITS FALSE NEIGHBOUR: 'it returns false'. Refute it at one input. -/
def fnSplitAtAllWrong : ChangeSpec := { name := "fnSplitAtAll", fn := fun _ => fun
  | [d] => { results := [.lit (.bool false)], args := [d] }
  | _ => none }
def FnSplitAtAllWrongFalsely : Prop := fnSplitAtAllRow.holds Try.pinned (OpenSpec.ofChange fnSplitAtAllWrong)

/-- 'laws.FnMoveSums': WHATEVER THE INPUT: true; the input reads as it did. -/
def fnMoveSumsSpec : ChangeSpec := { name := "fnMoveSums", fn := fun _ => fun
  | [d] => { results := [.lit (.bool true)], args := [d] }
  | _ => none }
def fnMoveSumsRow : OpenClaim := { program := "ytmonjjdcebboiad", sum := "569d74a49a4292baf2cb1f4d580ba7534632f2159f627c2e30d8e45537dd1aa1", func := "loop.example/arraylanguage/laws.FnMoveSums", spec := "fnMoveSums", unfollowed := true, recurses := true, apart := false }
def FnMoveSumsSaid : Prop := fnMoveSumsRow.holds Try.pinned (OpenSpec.ofChange fnMoveSumsSpec)

/-- ITS FALSE NEIGHBOUR: 'it returns false'. Refute it at one input. -/
def fnMoveSumsWrong : ChangeSpec := { name := "fnMoveSums", fn := fun _ => fun
  | [d] => { results := [.lit (.bool false)], args := [d] }
  | _ => none }
def FnMoveSumsWrongFalsely : Prop := fnMoveSumsRow.holds Try.pinned (OpenSpec.ofChange fnMoveSumsWrong)

/-- 'laws.FnMoveSumsOne': WHATEVER THE INPUT: true; the input reads as it did. -/
def fnMoveSumsOneSpec : ChangeSpec := { name := "fnMoveSumsOne", fn := fun _ => fun
  | [d] => { results := [.lit (.bool true)], args := [d] }
  | _ => none }
def fnMoveSumsOneRow : OpenClaim := { program := "ytmonjjdcebboiad", sum := "569d74a49a4292baf2cb1f4d580ba7534632f2159f627c2e30d8e45537dd1aa1", func := "loop.example/arraylanguage/laws.FnMoveSumsOne", spec := "fnMoveSumsOne", apart := false }
def FnMoveSumsOneSaid : Prop := fnMoveSumsOneRow.holds Try.pinned (OpenSpec.ofChange fnMoveSumsOneSpec)

/-- ITS FALSE NEIGHBOUR: 'it returns false'. Refute it at one input. -/
def fnMoveSumsOneWrong : ChangeSpec := { name := "fnMoveSumsOne", fn := fun _ => fun
  | [d] => { results := [.lit (.bool false)], args := [d] }
  | _ => none }
def FnMoveSumsOneWrongFalsely : Prop := fnMoveSumsOneRow.holds Try.pinned (OpenSpec.ofChange fnMoveSumsOneWrong)

/-- 'laws.FnTraceOfPower': WHATEVER THE INPUT: true; the input reads as it did. -/
def fnTraceOfPowerSpec : ChangeSpec := { name := "fnTraceOfPower", fn := fun _ => fun
  | [d] => { results := [.lit (.bool true)], args := [d] }
  | _ => none }
def fnTraceOfPowerRow : OpenClaim := { program := "ytmonjjdcebboiad", sum := "569d74a49a4292baf2cb1f4d580ba7534632f2159f627c2e30d8e45537dd1aa1", func := "loop.example/arraylanguage/laws.FnTraceOfPower", spec := "fnTraceOfPower", unfollowed := true, recurses := true, apart := false }
def FnTraceOfPowerSaid : Prop := fnTraceOfPowerRow.holds Try.pinned (OpenSpec.ofChange fnTraceOfPowerSpec)

/-- ITS FALSE NEIGHBOUR: 'it returns false'. Refute it at one input. -/
def fnTraceOfPowerWrong : ChangeSpec := { name := "fnTraceOfPower", fn := fun _ => fun
  | [d] => { results := [.lit (.bool false)], args := [d] }
  | _ => none }
def FnTraceOfPowerWrongFalsely : Prop := fnTraceOfPowerRow.holds Try.pinned (OpenSpec.ofChange fnTraceOfPowerWrong)

/-- 'laws.FnSumProduct': WHATEVER THE INPUT: true; the input reads as it did. -/
def fnSumProductSpec : ChangeSpec := { name := "fnSumProduct", fn := fun _ => fun
  | [d] => { results := [.lit (.bool true)], args := [d] }
  | _ => none }
def fnSumProductRow : OpenClaim := { program := "ytmonjjdcebboiad", sum := "569d74a49a4292baf2cb1f4d580ba7534632f2159f627c2e30d8e45537dd1aa1", func := "loop.example/arraylanguage/laws.FnSumProduct", spec := "fnSumProduct", unfollowed := true, recurses := true, apart := false }
def FnSumProductSaid : Prop := fnSumProductRow.holds Try.pinned (OpenSpec.ofChange fnSumProductSpec)

/-- ITS FALSE NEIGHBOUR: 'it returns false'. Refute it at one input. -/
def fnSumProductWrong : ChangeSpec := { name := "fnSumProduct", fn := fun _ => fun
  | [d] => { results := [.lit (.bool false)], args := [d] }
  | _ => none }
def FnSumProductWrongFalsely : Prop := fnSumProductRow.holds Try.pinned (OpenSpec.ofChange fnSumProductWrong)

/- THE SECOND FORM. 'bulk': how many values and letters a reading holds, each counted each time it is reached (what is shared counts as often as it is met; a slice's spare places count too). A statement '..UptoSaid' is the law's where the arguments, and the package variables that the reading takes, are together of bulk at most 1048576: NARROWER than '..Said'. Prove '..Said' where nothing that the law and all that it calls make is longer than what came in: it says more and counts as full. Else prove '..UptoSaid'. A law counts once. -/
mutual
def uptoBulk {H : Type} : DataW H → Nat
  | .lit (.string bytes) => bytes.length + 1
  | .lit _ => 1
  | .nil => 1
  | .ptr d => uptoBulk d + 1
  | .slice elems spare => uptoBulkAll elems + uptoBulkAll spare + 1
  | .agg parts => uptoBulkAll parts + 1
  | .iface _ d => uptoBulk d + 1
  | .map entries => uptoBulkEntries entries + 1
  | .held _ => 1
def uptoBulkAll {H : Type} : List (DataW H) → Nat
  | [] => 0
  | d :: r => uptoBulk d + uptoBulkAll r
def uptoBulkEntries {H : Type} : List (Lit × DataW H) → Nat
  | [] => 0
  | x :: r => uptoBulkEntry x + uptoBulkEntries r
def uptoBulkEntry {H : Type} : Lit × DataW H → Nat
  | (.string bytes, d) => bytes.length + uptoBulk d + 1
  | (_, d) => uptoBulk d + 1
 end
def uptoSmall : (H : Type) → List (DataW H) → Bool := fun _ ds => decide (uptoBulkAll ds ≤ 1048576)
def OpenSpec.upto (s : _root_.Go.ChangeSpec) : _root_.Go.OpenSpec := { _root_.Go.OpenSpec.ofChange s with cond := some uptoSmall }

/-- 'laws.FnSplitAt', WHERE WHAT IT READS IS OF BULK AT MOST 1048576: true; the input reads as it did. -/
def fnSplitAtUptoRow : OpenClaim := { program := "ytmonjjdcebboiad", sum := "569d74a49a4292baf2cb1f4d580ba7534632f2159f627c2e30d8e45537dd1aa1", func := "loop.example/arraylanguage/laws.FnSplitAt", spec := "fnSplitAt", apart := false, narrowed := true }
def FnSplitAtUptoSaid : Prop := fnSplitAtUptoRow.holds Try.pinned (OpenSpec.upto fnSplitAtSpec)

/-- 'laws.FnSplitAtAll', WHERE WHAT IT READS IS OF BULK AT MOST 1048576: true; the input reads as it did. -/
def fnSplitAtAllUptoRow : OpenClaim := { program := "ytmonjjdcebboiad", sum := "569d74a49a4292baf2cb1f4d580ba7534632f2159f627c2e30d8e45537dd1aa1", func := "loop.example/arraylanguage/laws.FnSplitAtAll", spec := "fnSplitAtAll", apart := false, narrowed := true }
def FnSplitAtAllUptoSaid : Prop := fnSplitAtAllUptoRow.holds Try.pinned (OpenSpec.upto fnSplitAtAllSpec)

/-- 'laws.FnMoveSums', WHERE WHAT IT READS IS OF BULK AT MOST 1048576: true; the input reads as it did. -/
def fnMoveSumsUptoRow : OpenClaim := { program := "ytmonjjdcebboiad", sum := "569d74a49a4292baf2cb1f4d580ba7534632f2159f627c2e30d8e45537dd1aa1", func := "loop.example/arraylanguage/laws.FnMoveSums", spec := "fnMoveSums", unfollowed := true, recurses := true, apart := false, narrowed := true }
def FnMoveSumsUptoSaid : Prop := fnMoveSumsUptoRow.holds Try.pinned (OpenSpec.upto fnMoveSumsSpec)

/-- 'laws.FnMoveSumsOne', WHERE WHAT IT READS IS OF BULK AT MOST 1048576: true; the input reads as it did. -/
def fnMoveSumsOneUptoRow : OpenClaim := { program := "ytmonjjdcebboiad", sum := "569d74a49a4292baf2cb1f4d580ba7534632f2159f627c2e30d8e45537dd1aa1", func := "loop.example/arraylanguage/laws.FnMoveSumsOne", spec := "fnMoveSumsOne", apart := false, narrowed := true }
def FnMoveSumsOneUptoSaid : Prop := fnMoveSumsOneUptoRow.holds Try.pinned (OpenSpec.upto fnMoveSumsOneSpec)

/-- 'laws.FnTraceOfPower', WHERE WHAT IT READS IS OF BULK AT MOST 1048576: true; the input reads as it did. -/
def fnTraceOfPowerUptoRow : OpenClaim := { program := "ytmonjjdcebboiad", sum := "569d74a49a4292baf2cb1f4d580ba7534632f2159f627c2e30d8e45537dd1aa1", func := "loop.example/arraylanguage/laws.FnTraceOfPower", spec := "fnTraceOfPower", unfollowed := true, recurses := true, apart := false, narrowed := true }
def FnTraceOfPowerUptoSaid : Prop := fnTraceOfPowerUptoRow.holds Try.pinned (OpenSpec.upto fnTraceOfPowerSpec)

/-- 'laws.FnSumProduct', WHERE WHAT IT READS IS OF BULK AT MOST 1048576: true; the input reads as it did. -/
def fnSumProductUptoRow : OpenClaim := { program := "ytmonjjdcebboiad", sum := "569d74a49a4292baf2cb1f4d580ba7534632f2159f627c2e30d8e45537dd1aa1", func := "loop.example/arraylanguage/laws.FnSumProduct", spec := "fnSumProduct", unfollowed := true, recurses := true, apart := false, narrowed := true }
def FnSumProductUptoSaid : Prop := fnSumProductUptoRow.holds Try.pinned (OpenSpec.upto fnSumProductSpec)

end Rows
end Go.Proofs.Ytmonjjdcebboiad
