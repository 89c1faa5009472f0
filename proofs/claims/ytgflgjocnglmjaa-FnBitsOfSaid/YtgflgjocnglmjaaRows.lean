/-
  No cell of these rows narrows 'for every input' (looked for: loops, veiled, ifaces, maps, wideKeys, modest, calm, conditions, laid).
  DERIVED. THE GIVEN ROWS OF THIS SEAT. 6 by the template 'for every input the law returns true; each argument reads behind the call as it read before'; 0 by the template 'total and deterministic' (their statements: YtgflgjocnglmjaaTotals.lean).
  GIVEN WITH THE SEED: the statements are not yours to turn. If you find one false, say at which input.
  Laid BY PROGRAM, IN A SANDBOX (cutbox-rows.mjs): the forced cells as the released guide's own fill.sh prints them over the translation f7cc14c021f4e4fc… (all of the seat's roots in one cut). By AI agents, Wed Nov 11 2026. No macro, syntax, notation, axiom, sorry.
-/
import Derived.Test.YtgflgjocnglmjaaChecked
import GoSem.Claim
import GoSem.ClaimJoined
import GoSem.ClaimMapViews
import Derived.JoinedTies
import Derived.KernelRfl
namespace Go.Proofs.Ytgflgjocnglmjaa
/- THE CELL 'sum', in the pinned program and in every row, IS THE sha256 OF THE DUMP (.gsa) THAT YtgflgjocnglmjaaProg.lean LOADS. Nothing in Lean hashes anything: it is a label: what it is worth is what the hold of that sum in a sandbox is worth. -/
noncomputable def Try.pinned : Pinned := { name := "ytgflgjocnglmjaa", sum := "f7cc14c021f4e4fcd148f36de852046433266aea5c39c3aebb6e1f94586a6213", checked := Try.checked }
namespace Rows
def none {H : Type} : Left H := { results := [], args := [] }

/-- 'laws.FnEncodeNum': WHATEVER THE INPUT: true; the input reads as it did. -/
def fnEncodeNumSpec : ChangeSpec := { name := "fnEncodeNum", fn := fun _ => fun
  | [d] => { results := [.lit (.bool true)], args := [d] }
  | _ => none }
def fnEncodeNumRow : OpenClaim := { program := "ytgflgjocnglmjaa", sum := "f7cc14c021f4e4fcd148f36de852046433266aea5c39c3aebb6e1f94586a6213", func := "loop.example/arraylanguage/laws.FnEncodeNum", spec := "fnEncodeNum", unfollowed := true, recurses := true, apart := false }
def FnEncodeNumSaid : Prop := fnEncodeNumRow.holds Try.pinned (OpenSpec.ofChange fnEncodeNumSpec)

/-- ITS FALSE NEIGHBOUR: 'it returns false'. Refute it at one input. -/
def fnEncodeNumWrong : ChangeSpec := { name := "fnEncodeNum", fn := fun _ => fun
  | [d] => { results := [.lit (.bool false)], args := [d] }
  | _ => none }
def FnEncodeNumWrongFalsely : Prop := fnEncodeNumRow.holds Try.pinned (OpenSpec.ofChange fnEncodeNumWrong)

/-- 'laws.FnEncodeNumNext': WHATEVER THE INPUT: true; the input reads as it did. -/
def fnEncodeNumNextSpec : ChangeSpec := { name := "fnEncodeNumNext", fn := fun _ => fun
  | [d] => { results := [.lit (.bool true)], args := [d] }
  | _ => none }
def fnEncodeNumNextRow : OpenClaim := { program := "ytgflgjocnglmjaa", sum := "f7cc14c021f4e4fcd148f36de852046433266aea5c39c3aebb6e1f94586a6213", func := "loop.example/arraylanguage/laws.FnEncodeNumNext", spec := "fnEncodeNumNext", unfollowed := true, recurses := true, apart := false }
def FnEncodeNumNextSaid : Prop := fnEncodeNumNextRow.holds Try.pinned (OpenSpec.ofChange fnEncodeNumNextSpec)

/-- ITS FALSE NEIGHBOUR: 'it returns false'. Refute it at one input. -/
def fnEncodeNumNextWrong : ChangeSpec := { name := "fnEncodeNumNext", fn := fun _ => fun
  | [d] => { results := [.lit (.bool false)], args := [d] }
  | _ => none }
def FnEncodeNumNextWrongFalsely : Prop := fnEncodeNumNextRow.holds Try.pinned (OpenSpec.ofChange fnEncodeNumNextWrong)

/-- 'laws.FnDecodeNum': WHATEVER THE INPUT: true; the input reads as it did. -/
def fnDecodeNumSpec : ChangeSpec := { name := "fnDecodeNum", fn := fun _ => fun
  | [d] => { results := [.lit (.bool true)], args := [d] }
  | _ => none }
def fnDecodeNumRow : OpenClaim := { program := "ytgflgjocnglmjaa", sum := "f7cc14c021f4e4fcd148f36de852046433266aea5c39c3aebb6e1f94586a6213", func := "loop.example/arraylanguage/laws.FnDecodeNum", spec := "fnDecodeNum", unfollowed := true, recurses := true, apart := false }
def FnDecodeNumSaid : Prop := fnDecodeNumRow.holds Try.pinned (OpenSpec.ofChange fnDecodeNumSpec)

/-- ITS FALSE NEIGHBOUR: 'it returns false'. Refute it at one input. -/
def fnDecodeNumWrong : ChangeSpec := { name := "fnDecodeNum", fn := fun _ => fun
  | [d] => { results := [.lit (.bool false)], args := [d] }
  | _ => none }
def FnDecodeNumWrongFalsely : Prop := fnDecodeNumRow.holds Try.pinned (OpenSpec.ofChange fnDecodeNumWrong)

/-- 'laws.FnEncodeNumLast': WHATEVER THE INPUT: true; the input reads as it did. -/
def fnEncodeNumLastSpec : ChangeSpec := { name := "fnEncodeNumLast", fn := fun _ => fun
  | [d] => { results := [.lit (.bool true)], args := [d] }
  | _ => none }
def fnEncodeNumLastRow : OpenClaim := { program := "ytgflgjocnglmjaa", sum := "f7cc14c021f4e4fcd148f36de852046433266aea5c39c3aebb6e1f94586a6213", func := "loop.example/arraylanguage/laws.FnEncodeNumLast", spec := "fnEncodeNumLast", unfollowed := true, recurses := true, apart := false }
def FnEncodeNumLastSaid : Prop := fnEncodeNumLastRow.holds Try.pinned (OpenSpec.ofChange fnEncodeNumLastSpec)

/-- ITS FALSE NEIGHBOUR: 'it returns false'. Refute it at one input. -/
def fnEncodeNumLastWrong : ChangeSpec := { name := "fnEncodeNumLast", fn := fun _ => fun
  | [d] => { results := [.lit (.bool false)], args := [d] }
  | _ => none }
def FnEncodeNumLastWrongFalsely : Prop := fnEncodeNumLastRow.holds Try.pinned (OpenSpec.ofChange fnEncodeNumLastWrong)

/-- 'laws.FnBitsOf': WHATEVER THE INPUT: true; the input reads as it did. -/
def fnBitsOfSpec : ChangeSpec := { name := "fnBitsOf", fn := fun _ => fun
  | [d] => { results := [.lit (.bool true)], args := [d] }
  | _ => none }
def fnBitsOfRow : OpenClaim := { program := "ytgflgjocnglmjaa", sum := "f7cc14c021f4e4fcd148f36de852046433266aea5c39c3aebb6e1f94586a6213", func := "loop.example/arraylanguage/laws.FnBitsOf", spec := "fnBitsOf", unfollowed := true, recurses := true, apart := false }
def FnBitsOfSaid : Prop := fnBitsOfRow.holds Try.pinned (OpenSpec.ofChange fnBitsOfSpec)

/-- ITS FALSE NEIGHBOUR: 'it returns false'. Refute it at one input. -/
def fnBitsOfWrong : ChangeSpec := { name := "fnBitsOf", fn := fun _ => fun
  | [d] => { results := [.lit (.bool false)], args := [d] }
  | _ => none }
def FnBitsOfWrongFalsely : Prop := fnBitsOfRow.holds Try.pinned (OpenSpec.ofChange fnBitsOfWrong)

/-- 'laws.FnBitsOfDouble': WHATEVER THE INPUT: true; the input reads as it did. -/
def fnBitsOfDoubleSpec : ChangeSpec := { name := "fnBitsOfDouble", fn := fun _ => fun
  | [d] => { results := [.lit (.bool true)], args := [d] }
  | _ => none }
def fnBitsOfDoubleRow : OpenClaim := { program := "ytgflgjocnglmjaa", sum := "f7cc14c021f4e4fcd148f36de852046433266aea5c39c3aebb6e1f94586a6213", func := "loop.example/arraylanguage/laws.FnBitsOfDouble", spec := "fnBitsOfDouble", unfollowed := true, recurses := true, apart := false }
def FnBitsOfDoubleSaid : Prop := fnBitsOfDoubleRow.holds Try.pinned (OpenSpec.ofChange fnBitsOfDoubleSpec)

/-- ITS FALSE NEIGHBOUR: 'it returns false'. Refute it at one input. -/
def fnBitsOfDoubleWrong : ChangeSpec := { name := "fnBitsOfDouble", fn := fun _ => fun
  | [d] => { results := [.lit (.bool false)], args := [d] }
  | _ => none }
def FnBitsOfDoubleWrongFalsely : Prop := fnBitsOfDoubleRow.holds Try.pinned (OpenSpec.ofChange fnBitsOfDoubleWrong)

/- THE SECOND FORM. 'bulk': how many values and letters a reading holds, each counted each time it is reached (what is shared counts as often as it is met; a slice's spare places count too). A statement '..UptoSaid' is the law's where the arguments, and the package variables that the reading takes, are together of bulk at most 1048576: NARROWER than '..Said'. Prove '..Said' where nothing that the law and all that it calls make is longer than what came in: it says more and counts as full. Else prove '..UptoSaid'. A law counts once. -/
mutual
def uptoBulk {H : Type} : DataW H → Nat
  | .lit (.string bytes) => bytes.length + 1
  | .lit _ => 1
  | .nil => 1
  | .ptr d => uptoBulk d + 1
  | .slice elems spare => uptoBulkAll elems + uptoBulkAll spare + 1
  | .agg parts => uptoBulkAll parts + 1
  | .iface _ d => uptoBulk d + 1
  | .map entries => uptoBulkEntries entries + 1
  | .held _ => 1
def uptoBulkAll {H : Type} : List (DataW H) → Nat
  | [] => 0
  | d :: r => uptoBulk d + uptoBulkAll r
def uptoBulkEntries {H : Type} : List (Lit × DataW H) → Nat
  | [] => 0
  | x :: r => uptoBulkEntry x + uptoBulkEntries r
def uptoBulkEntry {H : Type} : Lit × DataW H → Nat
  | (.string bytes, d) => bytes.length + uptoBulk d + 1
  | (_, d) => uptoBulk d + 1
 end
def uptoSmall : (H : Type) → List (DataW H) → Bool := fun _ ds => decide (uptoBulkAll ds ≤ 1048576)
def OpenSpec.upto (s : _root_.Go.ChangeSpec) : _root_.Go.OpenSpec := { _root_.Go.OpenSpec.ofChange s with cond := some uptoSmall }

/-- 'laws.FnEncodeNum', WHERE WHAT IT READS IS OF BULK AT MOST 1048576: true; the input reads as it did. -/
def fnEncodeNumUptoRow : OpenClaim := { program := "ytgflgjocnglmjaa", sum := "f7cc14c021f4e4fcd148f36de852046433266aea5c39c3aebb6e1f94586a6213", func := "loop.example/arraylanguage/laws.FnEncodeNum", spec := "fnEncodeNum", unfollowed := true, recurses := true, apart := false, narrowed := true }
def FnEncodeNumUptoSaid : Prop := fnEncodeNumUptoRow.holds Try.pinned (OpenSpec.upto fnEncodeNumSpec)

/-- 'laws.FnEncodeNumNext', WHERE WHAT IT READS IS OF BULK AT MOST 1048576: true; the input reads as it did. -/
def fnEncodeNumNextUptoRow : OpenClaim := { program := "ytgflgjocnglmjaa", sum := "f7cc14c021f4e4fcd148f36de852046433266aea5c39c3aebb6e1f94586a6213", func := "loop.example/arraylanguage/laws.FnEncodeNumNext", spec := "fnEncodeNumNext", unfollowed := true, recurses := true, apart := false, narrowed := true }
def FnEncodeNumNextUptoSaid : Prop := fnEncodeNumNextUptoRow.holds Try.pinned (OpenSpec.upto fnEncodeNumNextSpec)

/-- 'laws.FnDecodeNum', WHERE WHAT IT READS IS OF BULK AT MOST 1048576: true; the input reads as it did. -/
def fnDecodeNumUptoRow : OpenClaim := { program := "ytgflgjocnglmjaa", sum := "f7cc14c021f4e4fcd148f36de852046433266aea5c39c3aebb6e1f94586a6213", func := "loop.example/arraylanguage/laws.FnDecodeNum", spec := "fnDecodeNum", unfollowed := true, recurses := true, apart := false, narrowed := true }
def FnDecodeNumUptoSaid : Prop := fnDecodeNumUptoRow.holds Try.pinned (OpenSpec.upto fnDecodeNumSpec)

/-- 'laws.FnEncodeNumLast', WHERE WHAT IT READS IS OF BULK AT MOST 1048576: true; the input reads as it did. -/
def fnEncodeNumLastUptoRow : OpenClaim := { program := "ytgflgjocnglmjaa", sum := "f7cc14c021f4e4fcd148f36de852046433266aea5c39c3aebb6e1f94586a6213", func := "loop.example/arraylanguage/laws.FnEncodeNumLast", spec := "fnEncodeNumLast", unfollowed := true, recurses := true, apart := false, narrowed := true }
def FnEncodeNumLastUptoSaid : Prop := fnEncodeNumLastUptoRow.holds Try.pinned (OpenSpec.upto fnEncodeNumLastSpec)

/-- 'laws.FnBitsOf', WHERE WHAT IT READS IS OF BULK AT MOST 1048576: true; the input reads as it did. -/
def fnBitsOfUptoRow : OpenClaim := { program := "ytgflgjocnglmjaa", sum := "f7cc14c021f4e4fcd148f36de852046433266aea5c39c3aebb6e1f94586a6213", func := "loop.example/arraylanguage/laws.FnBitsOf", spec := "fnBitsOf", unfollowed := true, recurses := true, apart := false, narrowed := true }
def FnBitsOfUptoSaid : Prop := fnBitsOfUptoRow.holds Try.pinned (OpenSpec.upto fnBitsOfSpec)

/-- 'laws.FnBitsOfDouble', WHERE WHAT IT READS IS OF BULK AT MOST 1048576: true; the input reads as it did. -/
def fnBitsOfDoubleUptoRow : OpenClaim := { program := "ytgflgjocnglmjaa", sum := "f7cc14c021f4e4fcd148f36de852046433266aea5c39c3aebb6e1f94586a6213", func := "loop.example/arraylanguage/laws.FnBitsOfDouble", spec := "fnBitsOfDouble", unfollowed := true, recurses := true, apart := false, narrowed := true }
def FnBitsOfDoubleUptoSaid : Prop := fnBitsOfDoubleUptoRow.holds Try.pinned (OpenSpec.upto fnBitsOfDoubleSpec)

end Rows
end Go.Proofs.Ytgflgjocnglmjaa
