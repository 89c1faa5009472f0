/-
  No cell of these rows narrows 'for every input' (looked for: loops, veiled, ifaces, maps, wideKeys, modest, calm, conditions, laid).
  DERIVED. THE GIVEN ROWS OF THIS SEAT. 6 by the template 'for every input the law returns true; each argument reads behind the call as it read before'; 0 by the template 'total and deterministic' (their statements: YtijjoekejjnodadTotals.lean).
  GIVEN WITH THE SEED: the statements are not yours to turn. If you find one false, say at which input.
  Laid BY PROGRAM, IN A SANDBOX (cutbox-rows.mjs): the forced cells as the released guide's own fill.sh prints them over the translation c33173030dd2dd98… (all of the seat's roots in one cut). By AI agents, Wed Nov 11 2026. No macro, syntax, notation, axiom, sorry.
-/
import Derived.Test.YtijjoekejjnodadChecked
import GoSem.Claim
import GoSem.ClaimJoined
import GoSem.ClaimMapViews
import Derived.JoinedTies
import Derived.KernelRfl
namespace Go.Proofs.Ytijjoekejjnodad
/- THE CELL 'sum', in the pinned program and in every row, IS THE sha256 OF THE DUMP (.gsa) THAT YtijjoekejjnodadProg.lean LOADS. Nothing in Lean hashes anything: it is a label: what it is worth is what the hold of that sum in a sandbox is worth. -/
noncomputable def Try.pinned : Pinned := { name := "ytijjoekejjnodad", sum := "c33173030dd2dd9872d6fa11df9611bd7ef27b2281b40a6aca0d55a0cd468318", checked := Try.checked }
namespace Rows
def none {H : Type} : Left H := { results := [], args := [] }

/-- 'laws.FnReshapeSame': WHATEVER THE INPUT: true; the input reads as it did. -/
def fnReshapeSameSpec : ChangeSpec := { name := "fnReshapeSame", fn := fun _ => fun
  | [d] => { results := [.lit (.bool true)], args := [d] }
  | _ => none }
def fnReshapeSameRow : OpenClaim := { program := "ytijjoekejjnodad", sum := "c33173030dd2dd9872d6fa11df9611bd7ef27b2281b40a6aca0d55a0cd468318", func := "loop.example/arraylanguage/laws.FnReshapeSame", spec := "fnReshapeSame", apart := false }
def FnReshapeSameSaid : Prop := fnReshapeSameRow.holds Try.pinned (OpenSpec.ofChange fnReshapeSameSpec)

/-- ITS FALSE NEIGHBOUR: 'it returns false'. Refute it at one input. -/
def fnReshapeSameWrong : ChangeSpec := { name := "fnReshapeSame", fn := fun _ => fun
  | [d] => { results := [.lit (.bool false)], args := [d] }
  | _ => none }
def FnReshapeSameWrongFalsely : Prop := fnReshapeSameRow.holds Try.pinned (OpenSpec.ofChange fnReshapeSameWrong)

/-- 'laws.FnRavel': WHATEVER THE INPUT: true; the input reads as it did. -/
def fnRavelSpec : ChangeSpec := { name := "fnRavel", fn := fun _ => fun
  | [d] => { results := [.lit (.bool true)], args := [d] }
  | _ => none }
def fnRavelRow : OpenClaim := { program := "ytijjoekejjnodad", sum := "c33173030dd2dd9872d6fa11df9611bd7ef27b2281b40a6aca0d55a0cd468318", func := "loop.example/arraylanguage/laws.FnRavel", spec := "fnRavel", apart := false }
def FnRavelSaid : Prop := fnRavelRow.holds Try.pinned (OpenSpec.ofChange fnRavelSpec)

/-- ITS FALSE NEIGHBOUR: 'it returns false'. Refute it at one input. -/
def fnRavelWrong : ChangeSpec := { name := "fnRavel", fn := fun _ => fun
  | [d] => { results := [.lit (.bool false)], args := [d] }
  | _ => none }
def FnRavelWrongFalsely : Prop := fnRavelRow.holds Try.pinned (OpenSpec.ofChange fnRavelWrong)

/-- 'laws.FnReshapeTwice': WHATEVER THE INPUT: true; the input reads as it did. -/
def fnReshapeTwiceSpec : ChangeSpec := { name := "fnReshapeTwice", fn := fun _ => fun
  | [d] => { results := [.lit (.bool true)], args := [d] }
  | _ => none }
def fnReshapeTwiceRow : OpenClaim := { program := "ytijjoekejjnodad", sum := "c33173030dd2dd9872d6fa11df9611bd7ef27b2281b40a6aca0d55a0cd468318", func := "loop.example/arraylanguage/laws.FnReshapeTwice", spec := "fnReshapeTwice", apart := false }
def FnReshapeTwiceSaid : Prop := fnReshapeTwiceRow.holds Try.pinned (OpenSpec.ofChange fnReshapeTwiceSpec)

/-- ITS FALSE NEIGHBOUR: 'it returns false'. Refute it at one input. -/
def fnReshapeTwiceWrong : ChangeSpec := { name := "fnReshapeTwice", fn := fun _ => fun
  | [d] => { results := [.lit (.bool false)], args := [d] }
  | _ => none }
def FnReshapeTwiceWrongFalsely : Prop := fnReshapeTwiceRow.holds Try.pinned (OpenSpec.ofChange fnReshapeTwiceWrong)

/-- 'laws.FnExactCombine': WHATEVER THE INPUT: true; the input reads as it did. -/
def fnExactCombineSpec : ChangeSpec := { name := "fnExactCombine", fn := fun _ => fun
  | [d1, d2, d3] => { results := [.lit (.bool true)], args := [d1, d2, d3] }
  | _ => none }
def fnExactCombineRow : OpenClaim := { program := "ytijjoekejjnodad", sum := "c33173030dd2dd9872d6fa11df9611bd7ef27b2281b40a6aca0d55a0cd468318", func := "loop.example/arraylanguage/laws.FnExactCombine", spec := "fnExactCombine", unfollowed := true, recurses := true, apart := false }
def FnExactCombineSaid : Prop := fnExactCombineRow.holds Try.pinned (OpenSpec.ofChange fnExactCombineSpec)

/-- ITS FALSE NEIGHBOUR: 'it returns false'. Refute it at one input. -/
def fnExactCombineWrong : ChangeSpec := { name := "fnExactCombine", fn := fun _ => fun
  | [d1, d2, d3] => { results := [.lit (.bool false)], args := [d1, d2, d3] }
  | _ => none }
def FnExactCombineWrongFalsely : Prop := fnExactCombineRow.holds Try.pinned (OpenSpec.ofChange fnExactCombineWrong)

/-- 'laws.FnExactMapArray': WHATEVER THE INPUT: true; the input reads as it did. -/
def fnExactMapArraySpec : ChangeSpec := { name := "fnExactMapArray", fn := fun _ => fun
  | [d1, d2] => { results := [.lit (.bool true)], args := [d1, d2] }
  | _ => none }
def fnExactMapArrayRow : OpenClaim := { program := "ytijjoekejjnodad", sum := "c33173030dd2dd9872d6fa11df9611bd7ef27b2281b40a6aca0d55a0cd468318", func := "loop.example/arraylanguage/laws.FnExactMapArray", spec := "fnExactMapArray", unfollowed := true, recurses := true, apart := false }
def FnExactMapArraySaid : Prop := fnExactMapArrayRow.holds Try.pinned (OpenSpec.ofChange fnExactMapArraySpec)

/-- ITS FALSE NEIGHBOUR: 'it returns false'. Refute it at one input. -/
def fnExactMapArrayWrong : ChangeSpec := { name := "fnExactMapArray", fn := fun _ => fun
  | [d1, d2] => { results := [.lit (.bool false)], args := [d1, d2] }
  | _ => none }
def FnExactMapArrayWrongFalsely : Prop := fnExactMapArrayRow.holds Try.pinned (OpenSpec.ofChange fnExactMapArrayWrong)

/-- 'laws.FnMapArray': WHATEVER THE INPUT: true; the input reads as it did. -/
def fnMapArraySpec : ChangeSpec := { name := "fnMapArray", fn := fun _ => fun
  | [d] => { results := [.lit (.bool true)], args := [d] }
  | _ => none }
def fnMapArrayRow : OpenClaim := { program := "ytijjoekejjnodad", sum := "c33173030dd2dd9872d6fa11df9611bd7ef27b2281b40a6aca0d55a0cd468318", func := "loop.example/arraylanguage/laws.FnMapArray", spec := "fnMapArray", unfollowed := true, recurses := true, apart := false }
def FnMapArraySaid : Prop := fnMapArrayRow.holds Try.pinned (OpenSpec.ofChange fnMapArraySpec)

/-- ITS FALSE NEIGHBOUR: 'it returns false'. Refute it at one input. -/
def fnMapArrayWrong : ChangeSpec := { name := "fnMapArray", fn := fun _ => fun
  | [d] => { results := [.lit (.bool false)], args := [d] }
  | _ => none }
def FnMapArrayWrongFalsely : Prop := fnMapArrayRow.holds Try.pinned (OpenSpec.ofChange fnMapArrayWrong)

/- THE SECOND FORM. 'bulk': how many values and letters a reading holds, each counted each time it is reached (what is shared counts as often as it is met; a slice's spare places count too). A statement '..UptoSaid' is the law's where the arguments, and the package variables that the reading takes, are together of bulk at most 1048576: NARROWER than '..Said'. Prove '..Said' where nothing that the law and all that it calls make is longer than what came in: it says more and counts as full. Else prove '..UptoSaid'. A law counts once. -/
mutual
def uptoBulk {H : Type} : DataW H → Nat
  | .lit (.string bytes) => bytes.length + 1
  | .lit _ => 1
  | .nil => 1
  | .ptr d => uptoBulk d + 1
  | .slice elems spare => uptoBulkAll elems + uptoBulkAll spare + 1
  | .agg parts => uptoBulkAll parts + 1
  | .iface _ d => uptoBulk d + 1
  | .map entries => uptoBulkEntries entries + 1
  | .held _ => 1
def uptoBulkAll {H : Type} : List (DataW H) → Nat
  | [] => 0
  | d :: r => uptoBulk d + uptoBulkAll r
def uptoBulkEntries {H : Type} : List (Lit × DataW H) → Nat
  | [] => 0
  | x :: r => uptoBulkEntry x + uptoBulkEntries r
def uptoBulkEntry {H : Type} : Lit × DataW H → Nat
  | (.string bytes, d) => bytes.length + uptoBulk d + 1
  | (_, d) => uptoBulk d + 1
 end
def uptoSmall : (H : Type) → List (DataW H) → Bool := fun _ ds => decide (uptoBulkAll ds ≤ 1048576)
def OpenSpec.upto (s : _root_.Go.ChangeSpec) : _root_.Go.OpenSpec := { _root_.Go.OpenSpec.ofChange s with cond := some uptoSmall }

/-- 'laws.FnReshapeSame', WHERE WHAT IT READS IS OF BULK AT MOST 1048576: true; the input reads as it did. -/
def fnReshapeSameUptoRow : OpenClaim := { program := "ytijjoekejjnodad", sum := "c33173030dd2dd9872d6fa11df9611bd7ef27b2281b40a6aca0d55a0cd468318", func := "loop.example/arraylanguage/laws.FnReshapeSame", spec := "fnReshapeSame", apart := false, narrowed := true }
def FnReshapeSameUptoSaid : Prop := fnReshapeSameUptoRow.holds Try.pinned (OpenSpec.upto fnReshapeSameSpec)

/-- 'laws.FnRavel', WHERE WHAT IT READS IS OF BULK AT MOST 1048576: true; the input reads as it did. -/
def fnRavelUptoRow : OpenClaim := { program := "ytijjoekejjnodad", sum := "c33173030dd2dd9872d6fa11df9611bd7ef27b2281b40a6aca0d55a0cd468318", func := "loop.example/arraylanguage/laws.FnRavel", spec := "fnRavel", apart := false, narrowed := true }
def FnRavelUptoSaid : Prop := fnRavelUptoRow.holds Try.pinned (OpenSpec.upto fnRavelSpec)

/-- 'laws.FnReshapeTwice', WHERE WHAT IT READS IS OF BULK AT MOST 1048576: true; the input reads as it did. -/
def fnReshapeTwiceUptoRow : OpenClaim := { program := "ytijjoekejjnodad", sum := "c33173030dd2dd9872d6fa11df9611bd7ef27b2281b40a6aca0d55a0cd468318", func := "loop.example/arraylanguage/laws.FnReshapeTwice", spec := "fnReshapeTwice", apart := false, narrowed := true }
def FnReshapeTwiceUptoSaid : Prop := fnReshapeTwiceUptoRow.holds Try.pinned (OpenSpec.upto fnReshapeTwiceSpec)

/-- 'laws.FnExactCombine', WHERE WHAT IT READS IS OF BULK AT MOST 1048576: true; the input reads as it did. -/
def fnExactCombineUptoRow : OpenClaim := { program := "ytijjoekejjnodad", sum := "c33173030dd2dd9872d6fa11df9611bd7ef27b2281b40a6aca0d55a0cd468318", func := "loop.example/arraylanguage/laws.FnExactCombine", spec := "fnExactCombine", unfollowed := true, recurses := true, apart := false, narrowed := true }
def FnExactCombineUptoSaid : Prop := fnExactCombineUptoRow.holds Try.pinned (OpenSpec.upto fnExactCombineSpec)

/-- 'laws.FnExactMapArray', WHERE WHAT IT READS IS OF BULK AT MOST 1048576: true; the input reads as it did. -/
def fnExactMapArrayUptoRow : OpenClaim := { program := "ytijjoekejjnodad", sum := "c33173030dd2dd9872d6fa11df9611bd7ef27b2281b40a6aca0d55a0cd468318", func := "loop.example/arraylanguage/laws.FnExactMapArray", spec := "fnExactMapArray", unfollowed := true, recurses := true, apart := false, narrowed := true }
def FnExactMapArrayUptoSaid : Prop := fnExactMapArrayUptoRow.holds Try.pinned (OpenSpec.upto fnExactMapArraySpec)

/-- 'laws.FnMapArray', WHERE WHAT IT READS IS OF BULK AT MOST 1048576: true; the input reads as it did. -/
def fnMapArrayUptoRow : OpenClaim := { program := "ytijjoekejjnodad", sum := "c33173030dd2dd9872d6fa11df9611bd7ef27b2281b40a6aca0d55a0cd468318", func := "loop.example/arraylanguage/laws.FnMapArray", spec := "fnMapArray", unfollowed := true, recurses := true, apart := false, narrowed := true }
def FnMapArrayUptoSaid : Prop := fnMapArrayUptoRow.holds Try.pinned (OpenSpec.upto fnMapArraySpec)

end Rows
end Go.Proofs.Ytijjoekejjnodad
