/-
  No cell of these rows narrows 'for every input' (looked for: loops, veiled, ifaces, maps, wideKeys, modest, calm, conditions, laid).
  DERIVED. THE GIVEN ROWS OF THIS SEAT. 6 by the template 'for every input the law returns true; each argument reads behind the call as it read before'; 0 by the template 'total and deterministic' (their statements: YtmonjjdcebboiabTotals.lean).
  GIVEN WITH THE SEED: the statements are not yours to turn. If you find one false, say at which input.
  Laid BY PROGRAM, IN A SANDBOX (cutbox-rows.mjs): the forced cells as the released guide's own fill.sh prints them over the translation 956c8d117bd87d7f… (all of the seat's roots in one cut). By AI agents, Wed Nov 11 2026. No macro, syntax, notation, axiom, sorry.
-/
import Derived.Test.YtmonjjdcebboiabChecked
import GoSem.Claim
import GoSem.ClaimJoined
import GoSem.ClaimMapViews
import Derived.JoinedTies
import Derived.KernelRfl
namespace Go.Proofs.Ytmonjjdcebboiab
/- THE CELL 'sum', in the pinned program and in every row, IS THE sha256 OF THE DUMP (.gsa) THAT YtmonjjdcebboiabProg.lean LOADS. Nothing in Lean hashes anything: it is a label: what it is worth is what the hold of that sum in a sandbox is worth. -/
noncomputable def Try.pinned : Pinned := { name := "ytmonjjdcebboiab", sum := "956c8d117bd87d7f0a5d53abab13c3d25c6161bb6492c40b4b5208325ce939f4", checked := Try.checked }
namespace Rows
def none {H : Type} : Left H := { results := [], args := [] }

/-- 'laws.FnExactSplitAt': WHATEVER THE INPUT: true; the input reads as it did. -/
def fnExactSplitAtSpec : ChangeSpec := { name := "fnExactSplitAt", fn := fun _ => fun
  | [d1, d2] => { results := [.lit (.bool true)], args := [d1, d2] }
  | _ => none }
def fnExactSplitAtRow : OpenClaim := { program := "ytmonjjdcebboiab", sum := "956c8d117bd87d7f0a5d53abab13c3d25c6161bb6492c40b4b5208325ce939f4", func := "loop.example/arraylanguage/laws.FnExactSplitAt", spec := "fnExactSplitAt", apart := false }
def FnExactSplitAtSaid : Prop := fnExactSplitAtRow.holds Try.pinned (OpenSpec.ofChange fnExactSplitAtSpec)

/-- ITS FALSE NEIGHBOUR: 'it returns false'. Refute it at one input. -/
def fnExactSplitAtWrong : ChangeSpec := { name := "fnExactSplitAt", fn := fun _ => fun
  | [d1, d2] => { results := [.lit (.bool false)], args := [d1, d2] }
  | _ => none }
def FnExactSplitAtWrongFalsely : Prop := fnExactSplitAtRow.holds Try.pinned (OpenSpec.ofChange fnExactSplitAtWrong)

/-- 'laws.FnExactDeterminant': WHATEVER THE INPUT: true; the input reads as it did. -/
def fnExactDeterminantSpec : ChangeSpec := { name := "fnExactDeterminant", fn := fun _ => fun
  | [d] => { results := [.lit (.bool true)], args := [d] }
  | _ => none }
def fnExactDeterminantRow : OpenClaim := { program := "ytmonjjdcebboiab", sum := "956c8d117bd87d7f0a5d53abab13c3d25c6161bb6492c40b4b5208325ce939f4", func := "loop.example/arraylanguage/laws.FnExactDeterminant", spec := "fnExactDeterminant", unfollowed := true, recurses := true, apart := false }
def FnExactDeterminantSaid : Prop := fnExactDeterminantRow.holds Try.pinned (OpenSpec.ofChange fnExactDeterminantSpec)

/-- ITS FALSE NEIGHBOUR: 'it returns false'. Refute it at one input. -/
def fnExactDeterminantWrong : ChangeSpec := { name := "fnExactDeterminant", fn := fun _ => fun
  | [d] => { results := [.lit (.bool false)], args := [d] }
  | _ => none }
def FnExactDeterminantWrongFalsely : Prop := fnExactDeterminantRow.holds Try.pinned (OpenSpec.ofChange fnExactDeterminantWrong)

/-- 'laws.FnIdentity': WHATEVER THE INPUT: true; the input reads as it did. -/
def fnIdentitySpec : ChangeSpec := { name := "fnIdentity", fn := fun _ => fun
  | [d] => { results := [.lit (.bool true)], args := [d] }
  | _ => none }
def fnIdentityRow : OpenClaim := { program := "ytmonjjdcebboiab", sum := "956c8d117bd87d7f0a5d53abab13c3d25c6161bb6492c40b4b5208325ce939f4", func := "loop.example/arraylanguage/laws.FnIdentity", spec := "fnIdentity", unfollowed := true, recurses := true, apart := false }
def FnIdentitySaid : Prop := fnIdentityRow.holds Try.pinned (OpenSpec.ofChange fnIdentitySpec)

/-- ITS FALSE NEIGHBOUR: 'it returns false'. Refute it at one input. -/
def fnIdentityWrong : ChangeSpec := { name := "fnIdentity", fn := fun _ => fun
  | [d] => { results := [.lit (.bool false)], args := [d] }
  | _ => none }
def FnIdentityWrongFalsely : Prop := fnIdentityRow.holds Try.pinned (OpenSpec.ofChange fnIdentityWrong)

/-- 'laws.FnIdentityTrace': WHATEVER THE INPUT: true; the input reads as it did. -/
def fnIdentityTraceSpec : ChangeSpec := { name := "fnIdentityTrace", fn := fun _ => fun
  | [d] => { results := [.lit (.bool true)], args := [d] }
  | _ => none }
def fnIdentityTraceRow : OpenClaim := { program := "ytmonjjdcebboiab", sum := "956c8d117bd87d7f0a5d53abab13c3d25c6161bb6492c40b4b5208325ce939f4", func := "loop.example/arraylanguage/laws.FnIdentityTrace", spec := "fnIdentityTrace", unfollowed := true, recurses := true, apart := false }
def FnIdentityTraceSaid : Prop := fnIdentityTraceRow.holds Try.pinned (OpenSpec.ofChange fnIdentityTraceSpec)

/-- ITS FALSE NEIGHBOUR: 'it returns false'. Refute it at one input. -/
def fnIdentityTraceWrong : ChangeSpec := { name := "fnIdentityTrace", fn := fun _ => fun
  | [d] => { results := [.lit (.bool false)], args := [d] }
  | _ => none }
def FnIdentityTraceWrongFalsely : Prop := fnIdentityTraceRow.holds Try.pinned (OpenSpec.ofChange fnIdentityTraceWrong)

/-- 'laws.FnTraceOf': WHATEVER THE INPUT: true; the input reads as it did. -/
def fnTraceOfSpec : ChangeSpec := { name := "fnTraceOf", fn := fun _ => fun
  | [d] => { results := [.lit (.bool true)], args := [d] }
  | _ => none }
def fnTraceOfRow : OpenClaim := { program := "ytmonjjdcebboiab", sum := "956c8d117bd87d7f0a5d53abab13c3d25c6161bb6492c40b4b5208325ce939f4", func := "loop.example/arraylanguage/laws.FnTraceOf", spec := "fnTraceOf", unfollowed := true, recurses := true, apart := false }
def FnTraceOfSaid : Prop := fnTraceOfRow.holds Try.pinned (OpenSpec.ofChange fnTraceOfSpec)

/-- ITS FALSE NEIGHBOUR: 'it returns false'. Refute it at one input. -/
def fnTraceOfWrong : ChangeSpec := { name := "fnTraceOf", fn := fun _ => fun
  | [d] => { results := [.lit (.bool false)], args := [d] }
  | _ => none }
def FnTraceOfWrongFalsely : Prop := fnTraceOfRow.holds Try.pinned (OpenSpec.ofChange fnTraceOfWrong)

/-- 'laws.FnPowerOfNone': WHATEVER THE INPUT: true; the input reads as it did. -/
def fnPowerOfNoneSpec : ChangeSpec := { name := "fnPowerOfNone", fn := fun _ => fun
  | [d] => { results := [.lit (.bool true)], args := [d] }
  | _ => none }
def fnPowerOfNoneRow : OpenClaim := { program := "ytmonjjdcebboiab", sum := "956c8d117bd87d7f0a5d53abab13c3d25c6161bb6492c40b4b5208325ce939f4", func := "loop.example/arraylanguage/laws.FnPowerOfNone", spec := "fnPowerOfNone", unfollowed := true, recurses := true, apart := false }
def FnPowerOfNoneSaid : Prop := fnPowerOfNoneRow.holds Try.pinned (OpenSpec.ofChange fnPowerOfNoneSpec)

/-- ITS FALSE NEIGHBOUR: 'it returns false'. Refute it at one input. -/
def fnPowerOfNoneWrong : ChangeSpec := { name := "fnPowerOfNone", fn := fun _ => fun
  | [d] => { results := [.lit (.bool false)], args := [d] }
  | _ => none }
def FnPowerOfNoneWrongFalsely : Prop := fnPowerOfNoneRow.holds Try.pinned (OpenSpec.ofChange fnPowerOfNoneWrong)

/- THE SECOND FORM. 'bulk': how many values and letters a reading holds, each counted each time it is reached (what is shared counts as often as it is met; a slice's spare places count too). A statement '..UptoSaid' is the law's where the arguments, and the package variables that the reading takes, are together of bulk at most 1048576: NARROWER than '..Said'. Prove '..Said' where nothing that the law and all that it calls make is longer than what came in: it says more and counts as full. Else prove '..UptoSaid'. A law counts once. -/
mutual
def uptoBulk {H : Type} : DataW H → Nat
  | .lit (.string bytes) => bytes.length + 1
  | .lit _ => 1
  | .nil => 1
  | .ptr d => uptoBulk d + 1
  | .slice elems spare => uptoBulkAll elems + uptoBulkAll spare + 1
  | .agg parts => uptoBulkAll parts + 1
  | .iface _ d => uptoBulk d + 1
  | .map entries => uptoBulkEntries entries + 1
  | .held _ => 1
def uptoBulkAll {H : Type} : List (DataW H) → Nat
  | [] => 0
  | d :: r => uptoBulk d + uptoBulkAll r
def uptoBulkEntries {H : Type} : List (Lit × DataW H) → Nat
  | [] => 0
  | x :: r => uptoBulkEntry x + uptoBulkEntries r
def uptoBulkEntry {H : Type} : Lit × DataW H → Nat
  | (.string bytes, d) => bytes.length + uptoBulk d + 1
  | (_, d) => uptoBulk d + 1
 end
def uptoSmall : (H : Type) → List (DataW H) → Bool := fun _ ds => decide (uptoBulkAll ds ≤ 1048576)
def OpenSpec.upto (s : _root_.Go.ChangeSpec) : _root_.Go.OpenSpec := { _root_.Go.OpenSpec.ofChange s with cond := some uptoSmall }

/-- 'laws.FnExactSplitAt', WHERE WHAT IT READS IS OF BULK AT MOST 1048576: true; the input reads as it did. -/
def fnExactSplitAtUptoRow : OpenClaim := { program := "ytmonjjdcebboiab", sum := "956c8d117bd87d7f0a5d53abab13c3d25c6161bb6492c40b4b5208325ce939f4", func := "loop.example/arraylanguage/laws.FnExactSplitAt", spec := "fnExactSplitAt", apart := false, narrowed := true }
def FnExactSplitAtUptoSaid : Prop := fnExactSplitAtUptoRow.holds Try.pinned (OpenSpec.upto fnExactSplitAtSpec)

/-- 'laws.FnExactDeterminant', WHERE WHAT IT READS IS OF BULK AT MOST 1048576: true; the input reads as it did. -/
def fnExactDeterminantUptoRow : OpenClaim := { program := "ytmonjjdcebboiab", sum := "956c8d117bd87d7f0a5d53abab13c3d25c6161bb6492c40b4b5208325ce939f4", func := "loop.example/arraylanguage/laws.FnExactDeterminant", spec := "fnExactDeterminant", unfollowed := true, recurses := true, apart := false, narrowed := true }
def FnExactDeterminantUptoSaid : Prop := fnExactDeterminantUptoRow.holds Try.pinned (OpenSpec.upto fnExactDeterminantSpec)

/-- 'laws.FnIdentity', WHERE WHAT IT READS IS OF BULK AT MOST 1048576: true; the input reads as it did. -/
def fnIdentityUptoRow : OpenClaim := { program := "ytmonjjdcebboiab", sum := "956c8d117bd87d7f0a5d53abab13c3d25c6161bb6492c40b4b5208325ce939f4", func := "loop.example/arraylanguage/laws.FnIdentity", spec := "fnIdentity", unfollowed := true, recurses := true, apart := false, narrowed := true }
def FnIdentityUptoSaid : Prop := fnIdentityUptoRow.holds Try.pinned (OpenSpec.upto fnIdentitySpec)

/-- 'laws.FnIdentityTrace', WHERE WHAT IT READS IS OF BULK AT MOST 1048576: true; the input reads as it did. -/
def fnIdentityTraceUptoRow : OpenClaim := { program := "ytmonjjdcebboiab", sum := "956c8d117bd87d7f0a5d53abab13c3d25c6161bb6492c40b4b5208325ce939f4", func := "loop.example/arraylanguage/laws.FnIdentityTrace", spec := "fnIdentityTrace", unfollowed := true, recurses := true, apart := false, narrowed := true }
def FnIdentityTraceUptoSaid : Prop := fnIdentityTraceUptoRow.holds Try.pinned (OpenSpec.upto fnIdentityTraceSpec)

/-- 'laws.FnTraceOf', WHERE WHAT IT READS IS OF BULK AT MOST 1048576: true; the input reads as it did. -/
def fnTraceOfUptoRow : OpenClaim := { program := "ytmonjjdcebboiab", sum := "956c8d117bd87d7f0a5d53abab13c3d25c6161bb6492c40b4b5208325ce939f4", func := "loop.example/arraylanguage/laws.FnTraceOf", spec := "fnTraceOf", unfollowed := true, recurses := true, apart := false, narrowed := true }
def FnTraceOfUptoSaid : Prop := fnTraceOfUptoRow.holds Try.pinned (OpenSpec.upto fnTraceOfSpec)

/-- 'laws.FnPowerOfNone', WHERE WHAT IT READS IS OF BULK AT MOST 1048576: true; the input reads as it did. -/
def fnPowerOfNoneUptoRow : OpenClaim := { program := "ytmonjjdcebboiab", sum := "956c8d117bd87d7f0a5d53abab13c3d25c6161bb6492c40b4b5208325ce939f4", func := "loop.example/arraylanguage/laws.FnPowerOfNone", spec := "fnPowerOfNone", unfollowed := true, recurses := true, apart := false, narrowed := true }
def FnPowerOfNoneUptoSaid : Prop := fnPowerOfNoneUptoRow.holds Try.pinned (OpenSpec.upto fnPowerOfNoneSpec)

end Rows
end Go.Proofs.Ytmonjjdcebboiab
