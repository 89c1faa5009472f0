/-
  No cell of these rows narrows 'for every input' (looked for: loops, veiled, ifaces, maps, wideKeys, modest, calm, conditions, laid).
  DERIVED. THE GIVEN ROWS OF THIS SEAT. 6 by the template 'for every input the law returns true; each argument reads behind the call as it read before'; 0 by the template 'total and deterministic' (their statements: YtfdcmbjkapcbcacTotals.lean).
  GIVEN WITH THE SEED: the statements are not yours to turn. If you find one false, say at which input.
  Laid BY PROGRAM, IN A SANDBOX (cutbox-rows.mjs): the forced cells as the released guide's own fill.sh prints them over the translation 762e9e1287136391… (all of the seat's roots in one cut). By AI agents, Wed Nov 11 2026. No macro, syntax, notation, axiom, sorry.
-/
import Derived.Test.YtfdcmbjkapcbcacChecked
import GoSem.Claim
import GoSem.ClaimJoined
import GoSem.ClaimMapViews
import Derived.JoinedTies
import Derived.KernelRfl
namespace Go.Proofs.Ytfdcmbjkapcbcac
/- THE CELL 'sum', in the pinned program and in every row, IS THE sha256 OF THE DUMP (.gsa) THAT YtfdcmbjkapcbcacProg.lean LOADS. Nothing in Lean hashes anything: it is a label: what it is worth is what the hold of that sum in a sandbox is worth. -/
noncomputable def Try.pinned : Pinned := { name := "ytfdcmbjkapcbcac", sum := "762e9e1287136391d5a283eaa60e37808de3fa8fe0af273edce58d59495845a1", checked := Try.checked }
namespace Rows
def none {H : Type} : Left H := { results := [], args := [] }

/-- 'laws.FnValidTree': WHATEVER THE INPUT: true; the input reads as it did. -/
def fnValidTreeSpec : ChangeSpec := { name := "fnValidTree", fn := fun _ => fun
  | [d] => { results := [.lit (.bool true)], args := [d] }
  | _ => none }
def fnValidTreeRow : OpenClaim := { program := "ytfdcmbjkapcbcac", sum := "762e9e1287136391d5a283eaa60e37808de3fa8fe0af273edce58d59495845a1", func := "loop.example/arraylanguage/laws.FnValidTree", spec := "fnValidTree", unfollowed := true, recurses := true, apart := false }
def FnValidTreeSaid : Prop := fnValidTreeRow.holds Try.pinned (OpenSpec.ofChange fnValidTreeSpec)

/-- ITS FALSE NEIGHBOUR: 'it returns false'. Refute it at one input. -/
def fnValidTreeWrong : ChangeSpec := { name := "fnValidTree", fn := fun _ => fun
  | [d] => { results := [.lit (.bool false)], args := [d] }
  | _ => none }
def FnValidTreeWrongFalsely : Prop := fnValidTreeRow.holds Try.pinned (OpenSpec.ofChange fnValidTreeWrong)

/-- 'laws.FnParseTokens': WHATEVER THE INPUT: true; the input reads as it did. -/
def fnParseTokensSpec : ChangeSpec := { name := "fnParseTokens", fn := fun _ => fun
  | [d] => { results := [.lit (.bool true)], args := [d] }
  | _ => none }
def fnParseTokensRow : OpenClaim := { program := "ytfdcmbjkapcbcac", sum := "762e9e1287136391d5a283eaa60e37808de3fa8fe0af273edce58d59495845a1", func := "loop.example/arraylanguage/laws.FnParseTokens", spec := "fnParseTokens", unfollowed := true, recurses := true, apart := false }
def FnParseTokensSaid : Prop := fnParseTokensRow.holds Try.pinned (OpenSpec.ofChange fnParseTokensSpec)

/-- ITS FALSE NEIGHBOUR: 'it returns false'. Refute it at one input. -/
def fnParseTokensWrong : ChangeSpec := { name := "fnParseTokens", fn := fun _ => fun
  | [d] => { results := [.lit (.bool false)], args := [d] }
  | _ => none }
def FnParseTokensWrongFalsely : Prop := fnParseTokensRow.holds Try.pinned (OpenSpec.ofChange fnParseTokensWrong)

/-- 'laws.FnParseTokensShort': WHATEVER THE INPUT: true; the input reads as it did. -/
def fnParseTokensShortSpec : ChangeSpec := { name := "fnParseTokensShort", fn := fun _ => fun
  | [d] => { results := [.lit (.bool true)], args := [d] }
  | _ => none }
def fnParseTokensShortRow : OpenClaim := { program := "ytfdcmbjkapcbcac", sum := "762e9e1287136391d5a283eaa60e37808de3fa8fe0af273edce58d59495845a1", func := "loop.example/arraylanguage/laws.FnParseTokensShort", spec := "fnParseTokensShort", unfollowed := true, recurses := true, apart := false }
def FnParseTokensShortSaid : Prop := fnParseTokensShortRow.holds Try.pinned (OpenSpec.ofChange fnParseTokensShortSpec)

/-- ITS FALSE NEIGHBOUR: 'it returns false'. Refute it at one input. -/
def fnParseTokensShortWrong : ChangeSpec := { name := "fnParseTokensShort", fn := fun _ => fun
  | [d] => { results := [.lit (.bool false)], args := [d] }
  | _ => none }
def FnParseTokensShortWrongFalsely : Prop := fnParseTokensShortRow.holds Try.pinned (OpenSpec.ofChange fnParseTokensShortWrong)

/-- 'laws.FnTreeTokens': WHATEVER THE INPUT: true; the input reads as it did. -/
def fnTreeTokensSpec : ChangeSpec := { name := "fnTreeTokens", fn := fun _ => fun
  | [d] => { results := [.lit (.bool true)], args := [d] }
  | _ => none }
def fnTreeTokensRow : OpenClaim := { program := "ytfdcmbjkapcbcac", sum := "762e9e1287136391d5a283eaa60e37808de3fa8fe0af273edce58d59495845a1", func := "loop.example/arraylanguage/laws.FnTreeTokens", spec := "fnTreeTokens", unfollowed := true, recurses := true, apart := false }
def FnTreeTokensSaid : Prop := fnTreeTokensRow.holds Try.pinned (OpenSpec.ofChange fnTreeTokensSpec)

/-- ITS FALSE NEIGHBOUR: 'it returns false'. Refute it at one input. -/
def fnTreeTokensWrong : ChangeSpec := { name := "fnTreeTokens", fn := fun _ => fun
  | [d] => { results := [.lit (.bool false)], args := [d] }
  | _ => none }
def FnTreeTokensWrongFalsely : Prop := fnTreeTokensRow.holds Try.pinned (OpenSpec.ofChange fnTreeTokensWrong)

/-- 'laws.FnTreeTokensAround': WHATEVER THE INPUT: true; the input reads as it did. -/
def fnTreeTokensAroundSpec : ChangeSpec := { name := "fnTreeTokensAround", fn := fun _ => fun
  | [d] => { results := [.lit (.bool true)], args := [d] }
  | _ => none }
def fnTreeTokensAroundRow : OpenClaim := { program := "ytfdcmbjkapcbcac", sum := "762e9e1287136391d5a283eaa60e37808de3fa8fe0af273edce58d59495845a1", func := "loop.example/arraylanguage/laws.FnTreeTokensAround", spec := "fnTreeTokensAround", unfollowed := true, recurses := true, apart := false }
def FnTreeTokensAroundSaid : Prop := fnTreeTokensAroundRow.holds Try.pinned (OpenSpec.ofChange fnTreeTokensAroundSpec)

/-- ITS FALSE NEIGHBOUR: 'it returns false'. Refute it at one input. -/
def fnTreeTokensAroundWrong : ChangeSpec := { name := "fnTreeTokensAround", fn := fun _ => fun
  | [d] => { results := [.lit (.bool false)], args := [d] }
  | _ => none }
def FnTreeTokensAroundWrongFalsely : Prop := fnTreeTokensAroundRow.holds Try.pinned (OpenSpec.ofChange fnTreeTokensAroundWrong)

/-- 'laws.FnTreeTokensSize': WHATEVER THE INPUT: true; the input reads as it did. -/
def fnTreeTokensSizeSpec : ChangeSpec := { name := "fnTreeTokensSize", fn := fun _ => fun
  | [d] => { results := [.lit (.bool true)], args := [d] }
  | _ => none }
def fnTreeTokensSizeRow : OpenClaim := { program := "ytfdcmbjkapcbcac", sum := "762e9e1287136391d5a283eaa60e37808de3fa8fe0af273edce58d59495845a1", func := "loop.example/arraylanguage/laws.FnTreeTokensSize", spec := "fnTreeTokensSize", unfollowed := true, recurses := true, apart := false }
def FnTreeTokensSizeSaid : Prop := fnTreeTokensSizeRow.holds Try.pinned (OpenSpec.ofChange fnTreeTokensSizeSpec)

/-- ITS FALSE NEIGHBOUR: 'it returns false'. Refute it at one input. -/
def fnTreeTokensSizeWrong : ChangeSpec := { name := "fnTreeTokensSize", fn := fun _ => fun
  | [d] => { results := [.lit (.bool false)], args := [d] }
  | _ => none }
def FnTreeTokensSizeWrongFalsely : Prop := fnTreeTokensSizeRow.holds Try.pinned (OpenSpec.ofChange fnTreeTokensSizeWrong)

/- THE SECOND FORM. 'bulk': how many values and letters a reading holds, each counted each time it is reached (what is shared counts as often as it is met; a slice's spare places count too). A statement '..UptoSaid' is the law's where the arguments, and the package variables that the reading takes, are together of bulk at most 1048576: NARROWER than '..Said'. Prove '..Said' where nothing that the law and all that it calls make is longer than what came in: it says more and counts as full. Else prove '..UptoSaid'. A law counts once. -/
mutual
def uptoBulk {H : Type} : DataW H → Nat
  | .lit (.string bytes) => bytes.length + 1
  | .lit _ => 1
  | .nil => 1
  | .ptr d => uptoBulk d + 1
  | .slice elems spare => uptoBulkAll elems + uptoBulkAll spare + 1
  | .agg parts => uptoBulkAll parts + 1
  | .iface _ d => uptoBulk d + 1
  | .map entries => uptoBulkEntries entries + 1
  | .held _ => 1
def uptoBulkAll {H : Type} : List (DataW H) → Nat
  | [] => 0
  | d :: r => uptoBulk d + uptoBulkAll r
def uptoBulkEntries {H : Type} : List (Lit × DataW H) → Nat
  | [] => 0
  | x :: r => uptoBulkEntry x + uptoBulkEntries r
def uptoBulkEntry {H : Type} : Lit × DataW H → Nat
  | (.string bytes, d) => bytes.length + uptoBulk d + 1
  | (_, d) => uptoBulk d + 1
 end
def uptoSmall : (H : Type) → List (DataW H) → Bool := fun _ ds => decide (uptoBulkAll ds ≤ 1048576)
def OpenSpec.upto (s : _root_.Go.ChangeSpec) : _root_.Go.OpenSpec := { _root_.Go.OpenSpec.ofChange s with cond := some uptoSmall }

/-- 'laws.FnValidTree', WHERE WHAT IT READS IS OF BULK AT MOST 1048576: true; the input reads as it did. -/
def fnValidTreeUptoRow : OpenClaim := { program := "ytfdcmbjkapcbcac", sum := "762e9e1287136391d5a283eaa60e37808de3fa8fe0af273edce58d59495845a1", func := "loop.example/arraylanguage/laws.FnValidTree", spec := "fnValidTree", unfollowed := true, recurses := true, apart := false, narrowed := true }
def FnValidTreeUptoSaid : Prop := fnValidTreeUptoRow.holds Try.pinned (OpenSpec.upto fnValidTreeSpec)

/-- 'laws.FnParseTokens', WHERE WHAT IT READS IS OF BULK AT MOST 1048576: true; the input reads as it did. -/
def fnParseTokensUptoRow : OpenClaim := { program := "ytfdcmbjkapcbcac", sum := "762e9e1287136391d5a283eaa60e37808de3fa8fe0af273edce58d59495845a1", func := "loop.example/arraylanguage/laws.FnParseTokens", spec := "fnParseTokens", unfollowed := true, recurses := true, apart := false, narrowed := true }
def FnParseTokensUptoSaid : Prop := fnParseTokensUptoRow.holds Try.pinned (OpenSpec.upto fnParseTokensSpec)

/-- 'laws.FnParseTokensShort', WHERE WHAT IT READS IS OF BULK AT MOST 1048576: true; the input reads as it did. -/
def fnParseTokensShortUptoRow : OpenClaim := { program := "ytfdcmbjkapcbcac", sum := "762e9e1287136391d5a283eaa60e37808de3fa8fe0af273edce58d59495845a1", func := "loop.example/arraylanguage/laws.FnParseTokensShort", spec := "fnParseTokensShort", unfollowed := true, recurses := true, apart := false, narrowed := true }
def FnParseTokensShortUptoSaid : Prop := fnParseTokensShortUptoRow.holds Try.pinned (OpenSpec.upto fnParseTokensShortSpec)

/-- 'laws.FnTreeTokens', WHERE WHAT IT READS IS OF BULK AT MOST 1048576: true; the input reads as it did. -/
def fnTreeTokensUptoRow : OpenClaim := { program := "ytfdcmbjkapcbcac", sum := "762e9e1287136391d5a283eaa60e37808de3fa8fe0af273edce58d59495845a1", func := "loop.example/arraylanguage/laws.FnTreeTokens", spec := "fnTreeTokens", unfollowed := true, recurses := true, apart := false, narrowed := true }
def FnTreeTokensUptoSaid : Prop := fnTreeTokensUptoRow.holds Try.pinned (OpenSpec.upto fnTreeTokensSpec)

/-- 'laws.FnTreeTokensAround', WHERE WHAT IT READS IS OF BULK AT MOST 1048576: true; the input reads as it did. -/
def fnTreeTokensAroundUptoRow : OpenClaim := { program := "ytfdcmbjkapcbcac", sum := "762e9e1287136391d5a283eaa60e37808de3fa8fe0af273edce58d59495845a1", func := "loop.example/arraylanguage/laws.FnTreeTokensAround", spec := "fnTreeTokensAround", unfollowed := true, recurses := true, apart := false, narrowed := true }
def FnTreeTokensAroundUptoSaid : Prop := fnTreeTokensAroundUptoRow.holds Try.pinned (OpenSpec.upto fnTreeTokensAroundSpec)

/-- 'laws.FnTreeTokensSize', WHERE WHAT IT READS IS OF BULK AT MOST 1048576: true; the input reads as it did. -/
def fnTreeTokensSizeUptoRow : OpenClaim := { program := "ytfdcmbjkapcbcac", sum := "762e9e1287136391d5a283eaa60e37808de3fa8fe0af273edce58d59495845a1", func := "loop.example/arraylanguage/laws.FnTreeTokensSize", spec := "fnTreeTokensSize", unfollowed := true, recurses := true, apart := false, narrowed := true }
def FnTreeTokensSizeUptoSaid : Prop := fnTreeTokensSizeUptoRow.holds Try.pinned (OpenSpec.upto fnTreeTokensSizeSpec)

end Rows
end Go.Proofs.Ytfdcmbjkapcbcac
