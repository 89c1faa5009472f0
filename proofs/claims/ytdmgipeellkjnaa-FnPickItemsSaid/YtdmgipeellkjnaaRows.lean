/-
  No cell of these rows narrows 'for every input' (looked for: loops, veiled, ifaces, maps, wideKeys, modest, calm, conditions, laid).
  DERIVED. THE GIVEN ROWS OF THIS SEAT. 5 by the template 'for every input the law returns true; each argument reads behind the call as it read before'; 0 by the template 'total and deterministic' (their statements: YtdmgipeellkjnaaTotals.lean).
  GIVEN WITH THE SEED: the statements are not yours to turn. If you find one false, say at which input.
  Laid BY PROGRAM, IN A SANDBOX (cutbox-rows.mjs): the forced cells as the released guide's own fill.sh prints them over the translation 5992ea6ec9331ade… (all of the seat's roots in one cut). By AI agents, Wed Nov 11 2026. No macro, syntax, notation, axiom, sorry.
-/
import Derived.Test.YtdmgipeellkjnaaChecked
import GoSem.Claim
import GoSem.ClaimJoined
import GoSem.ClaimMapViews
import Derived.JoinedTies
import Derived.KernelRfl
namespace Go.Proofs.Ytdmgipeellkjnaa
/- THE CELL 'sum', in the pinned program and in every row, IS THE sha256 OF THE DUMP (.gsa) THAT YtdmgipeellkjnaaProg.lean LOADS. Nothing in Lean hashes anything: it is a label: what it is worth is what the hold of that sum in a sandbox is worth. -/
noncomputable def Try.pinned : Pinned := { name := "ytdmgipeellkjnaa", sum := "5992ea6ec9331ade707f19fa08540978a70f10923ab91f609fa5677df95e7ae6", checked := Try.checked }
namespace Rows
def none {H : Type} : Left H := { results := [], args := [] }

/-- 'laws.FnDeterminant': WHATEVER THE INPUT: true; the input reads as it did. -/
def fnDeterminantSpec : ChangeSpec := { name := "fnDeterminant", fn := fun _ => fun
  | [d] => { results := [.lit (.bool true)], args := [d] }
  | _ => none }
def fnDeterminantRow : OpenClaim := { program := "ytdmgipeellkjnaa", sum := "5992ea6ec9331ade707f19fa08540978a70f10923ab91f609fa5677df95e7ae6", func := "loop.example/arraylanguage/laws.FnDeterminant", spec := "fnDeterminant", unfollowed := true, recurses := true, apart := false }
def FnDeterminantSaid : Prop := fnDeterminantRow.holds Try.pinned (OpenSpec.ofChange fnDeterminantSpec)

/-- ITS FALSE NEIGHBOUR: 'it returns false'. Refute it at one input. -/
def fnDeterminantWrong : ChangeSpec := { name := "fnDeterminant", fn := fun _ => fun
  | [d] => { results := [.lit (.bool false)], args := [d] }
  | _ => none }
def FnDeterminantWrongFalsely : Prop := fnDeterminantRow.holds Try.pinned (OpenSpec.ofChange fnDeterminantWrong)

/-- 'laws.FnDeterminantRows': WHATEVER THE INPUT: true; the input reads as it did. -/
def fnDeterminantRowsSpec : ChangeSpec := { name := "fnDeterminantRows", fn := fun _ => fun
  | [d] => { results := [.lit (.bool true)], args := [d] }
  | _ => none }
def fnDeterminantRowsRow : OpenClaim := { program := "ytdmgipeellkjnaa", sum := "5992ea6ec9331ade707f19fa08540978a70f10923ab91f609fa5677df95e7ae6", func := "loop.example/arraylanguage/laws.FnDeterminantRows", spec := "fnDeterminantRows", unfollowed := true, recurses := true, apart := false }
def FnDeterminantRowsSaid : Prop := fnDeterminantRowsRow.holds Try.pinned (OpenSpec.ofChange fnDeterminantRowsSpec)

/-- ITS FALSE NEIGHBOUR: 'it returns false'. Refute it at one input. -/
def fnDeterminantRowsWrong : ChangeSpec := { name := "fnDeterminantRows", fn := fun _ => fun
  | [d] => { results := [.lit (.bool false)], args := [d] }
  | _ => none }
def FnDeterminantRowsWrongFalsely : Prop := fnDeterminantRowsRow.holds Try.pinned (OpenSpec.ofChange fnDeterminantRowsWrong)

/-- 'laws.FnDeterminantSame': WHATEVER THE INPUT: true; the input reads as it did. -/
def fnDeterminantSameSpec : ChangeSpec := { name := "fnDeterminantSame", fn := fun _ => fun
  | [d] => { results := [.lit (.bool true)], args := [d] }
  | _ => none }
def fnDeterminantSameRow : OpenClaim := { program := "ytdmgipeellkjnaa", sum := "5992ea6ec9331ade707f19fa08540978a70f10923ab91f609fa5677df95e7ae6", func := "loop.example/arraylanguage/laws.FnDeterminantSame", spec := "fnDeterminantSame", unfollowed := true, recurses := true, apart := false }
def FnDeterminantSameSaid : Prop := fnDeterminantSameRow.holds Try.pinned (OpenSpec.ofChange fnDeterminantSameSpec)

/-- ITS FALSE NEIGHBOUR: 'it returns false'. Refute it at one input. -/
def fnDeterminantSameWrong : ChangeSpec := { name := "fnDeterminantSame", fn := fun _ => fun
  | [d] => { results := [.lit (.bool false)], args := [d] }
  | _ => none }
def FnDeterminantSameWrongFalsely : Prop := fnDeterminantSameRow.holds Try.pinned (OpenSpec.ofChange fnDeterminantSameWrong)

/-- 'laws.FnPickItems': WHATEVER THE INPUT: true; the input reads as it did. -/
def fnPickItemsSpec : ChangeSpec := { name := "fnPickItems", fn := fun _ => fun
  | [d] => { results := [.lit (.bool true)], args := [d] }
  | _ => none }
def fnPickItemsRow : OpenClaim := { program := "ytdmgipeellkjnaa", sum := "5992ea6ec9331ade707f19fa08540978a70f10923ab91f609fa5677df95e7ae6", func := "loop.example/arraylanguage/laws.FnPickItems", spec := "fnPickItems", apart := false }
def FnPickItemsSaid : Prop := fnPickItemsRow.holds Try.pinned (OpenSpec.ofChange fnPickItemsSpec)

/-- ITS FALSE NEIGHBOUR: 'it returns false'. Refute it at one input. -/
def fnPickItemsWrong : ChangeSpec := { name := "fnPickItems", fn := fun _ => fun
  | [d] => { results := [.lit (.bool false)], args := [d] }
  | _ => none }
def FnPickItemsWrongFalsely : Prop := fnPickItemsRow.holds Try.pinned (OpenSpec.ofChange fnPickItemsWrong)

/-- 'laws.FnPickItemsTwice': WHATEVER THE INPUT: true; the input reads as it did. -/
def fnPickItemsTwiceSpec : ChangeSpec := { name := "fnPickItemsTwice", fn := fun _ => fun
  | [d] => { results := [.lit (.bool true)], args := [d] }
  | _ => none }
def fnPickItemsTwiceRow : OpenClaim := { program := "ytdmgipeellkjnaa", sum := "5992ea6ec9331ade707f19fa08540978a70f10923ab91f609fa5677df95e7ae6", func := "loop.example/arraylanguage/laws.FnPickItemsTwice", spec := "fnPickItemsTwice", unfollowed := true, recurses := true, apart := false }
def FnPickItemsTwiceSaid : Prop := fnPickItemsTwiceRow.holds Try.pinned (OpenSpec.ofChange fnPickItemsTwiceSpec)

/-- ITS FALSE NEIGHBOUR: 'it returns false'. Refute it at one input. -/
def fnPickItemsTwiceWrong : ChangeSpec := { name := "fnPickItemsTwice", fn := fun _ => fun
  | [d] => { results := [.lit (.bool false)], args := [d] }
  | _ => none }
def FnPickItemsTwiceWrongFalsely : Prop := fnPickItemsTwiceRow.holds Try.pinned (OpenSpec.ofChange fnPickItemsTwiceWrong)

/- THE SECOND FORM. 'bulk': how many values and letters a reading holds, each counted each time it is reached (what is shared counts as often as it is met; a slice's spare places count too). A statement '..UptoSaid' is the law's where the arguments, and the package variables that the reading takes, are together of bulk at most 1048576: NARROWER than '..Said'. Prove '..Said' where nothing that the law and all that it calls make is longer than what came in: it says more and counts as full. Else prove '..UptoSaid'. A law counts once. -/
mutual
def uptoBulk {H : Type} : DataW H → Nat
  | .lit (.string bytes) => bytes.length + 1
  | .lit _ => 1
  | .nil => 1
  | .ptr d => uptoBulk d + 1
  | .slice elems spare => uptoBulkAll elems + uptoBulkAll spare + 1
  | .agg parts => uptoBulkAll parts + 1
  | .iface _ d => uptoBulk d + 1
  | .map entries => uptoBulkEntries entries + 1
  | .held _ => 1
def uptoBulkAll {H : Type} : List (DataW H) → Nat
  | [] => 0
  | d :: r => uptoBulk d + uptoBulkAll r
def uptoBulkEntries {H : Type} : List (Lit × DataW H) → Nat
  | [] => 0
  | x :: r => uptoBulkEntry x + uptoBulkEntries r
def uptoBulkEntry {H : Type} : Lit × DataW H → Nat
  | (.string bytes, d) => bytes.length + uptoBulk d + 1
  | (_, d) => uptoBulk d + 1
 end
def uptoSmall : (H : Type) → List (DataW H) → Bool := fun _ ds => decide (uptoBulkAll ds ≤ 1048576)
def OpenSpec.upto (s : _root_.Go.ChangeSpec) : _root_.Go.OpenSpec := { _root_.Go.OpenSpec.ofChange s with cond := some uptoSmall }

/-- 'laws.FnDeterminant', WHERE WHAT IT READS IS OF BULK AT MOST 1048576: true; the input reads as it did. -/
def fnDeterminantUptoRow : OpenClaim := { program := "ytdmgipeellkjnaa", sum := "5992ea6ec9331ade707f19fa08540978a70f10923ab91f609fa5677df95e7ae6", func := "loop.example/arraylanguage/laws.FnDeterminant", spec := "fnDeterminant", unfollowed := true, recurses := true, apart := false, narrowed := true }
def FnDeterminantUptoSaid : Prop := fnDeterminantUptoRow.holds Try.pinned (OpenSpec.upto fnDeterminantSpec)

/-- 'laws.FnDeterminantRows', WHERE WHAT IT READS IS OF BULK AT MOST 1048576: true; the input reads as it did. -/
def fnDeterminantRowsUptoRow : OpenClaim := { program := "ytdmgipeellkjnaa", sum := "5992ea6ec9331ade707f19fa08540978a70f10923ab91f609fa5677df95e7ae6", func := "loop.example/arraylanguage/laws.FnDeterminantRows", spec := "fnDeterminantRows", unfollowed := true, recurses := true, apart := false, narrowed := true }
def FnDeterminantRowsUptoSaid : Prop := fnDeterminantRowsUptoRow.holds Try.pinned (OpenSpec.upto fnDeterminantRowsSpec)

/-- 'laws.FnDeterminantSame', WHERE WHAT IT READS IS OF BULK AT MOST 1048576: true; the input reads as it did. -/
def fnDeterminantSameUptoRow : OpenClaim := { program := "ytdmgipeellkjnaa", sum := "5992ea6ec9331ade707f19fa08540978a70f10923ab91f609fa5677df95e7ae6", func := "loop.example/arraylanguage/laws.FnDeterminantSame", spec := "fnDeterminantSame", unfollowed := true, recurses := true, apart := false, narrowed := true }
def FnDeterminantSameUptoSaid : Prop := fnDeterminantSameUptoRow.holds Try.pinned (OpenSpec.upto fnDeterminantSameSpec)

/-- 'laws.FnPickItems', WHERE WHAT IT READS IS OF BULK AT MOST 1048576: true; the input reads as it did. -/
def fnPickItemsUptoRow : OpenClaim := { program := "ytdmgipeellkjnaa", sum := "5992ea6ec9331ade707f19fa08540978a70f10923ab91f609fa5677df95e7ae6", func := "loop.example/arraylanguage/laws.FnPickItems", spec := "fnPickItems", apart := false, narrowed := true }
def FnPickItemsUptoSaid : Prop := fnPickItemsUptoRow.holds Try.pinned (OpenSpec.upto fnPickItemsSpec)

/-- 'laws.FnPickItemsTwice', WHERE WHAT IT READS IS OF BULK AT MOST 1048576: true; the input reads as it did. -/
def fnPickItemsTwiceUptoRow : OpenClaim := { program := "ytdmgipeellkjnaa", sum := "5992ea6ec9331ade707f19fa08540978a70f10923ab91f609fa5677df95e7ae6", func := "loop.example/arraylanguage/laws.FnPickItemsTwice", spec := "fnPickItemsTwice", unfollowed := true, recurses := true, apart := false, narrowed := true }
def FnPickItemsTwiceUptoSaid : Prop := fnPickItemsTwiceUptoRow.holds Try.pinned (OpenSpec.upto fnPickItemsTwiceSpec)

end Rows
end Go.Proofs.Ytdmgipeellkjnaa
