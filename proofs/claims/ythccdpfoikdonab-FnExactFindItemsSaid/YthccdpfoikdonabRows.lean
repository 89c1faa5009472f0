/-
  No cell of these rows narrows 'for every input' (looked for: loops, veiled, ifaces, maps, wideKeys, modest, calm, conditions, laid).
  DERIVED. THE GIVEN ROWS OF THIS SEAT. 6 by the template 'for every input the law returns true; each argument reads behind the call as it read before'; 0 by the template 'total and deterministic' (their statements: YthccdpfoikdonabTotals.lean).
  GIVEN WITH THE SEED: the statements are not yours to turn. If you find one false, say at which input.
  Laid BY PROGRAM, IN A SANDBOX (cutbox-rows.mjs): the forced cells as the released guide's own fill.sh prints them over the translation 8b1f9cb5a37f8a91… (all of the seat's roots in one cut). By AI agents, Wed Nov 11 2026. No macro, syntax, notation, axiom, sorry.
-/
import Derived.Test.YthccdpfoikdonabChecked
import GoSem.Claim
import GoSem.ClaimJoined
import GoSem.ClaimMapViews
import Derived.JoinedTies
import Derived.KernelRfl
namespace Go.Proofs.Ythccdpfoikdonab
/- THE CELL 'sum', in the pinned program and in every row, IS THE sha256 OF THE DUMP (.gsa) THAT YthccdpfoikdonabProg.lean LOADS. Nothing in Lean hashes anything: it is a label: what it is worth is what the hold of that sum in a sandbox is worth. -/
noncomputable def Try.pinned : Pinned := { name := "ythccdpfoikdonab", sum := "8b1f9cb5a37f8a91966a2785b31b34ff23a7c27c57f2c0b0369d9e4db35e58c2", checked := Try.checked }
namespace Rows
def none {H : Type} : Left H := { results := [], args := [] }

/-- 'laws.FnExactJoinAxis': WHATEVER THE INPUT: true; the input reads as it did. -/
def fnExactJoinAxisSpec : ChangeSpec := { name := "fnExactJoinAxis", fn := fun _ => fun
  | [d1, d2, d3] => { results := [.lit (.bool true)], args := [d1, d2, d3] }
  | _ => none }
def fnExactJoinAxisRow : OpenClaim := { program := "ythccdpfoikdonab", sum := "8b1f9cb5a37f8a91966a2785b31b34ff23a7c27c57f2c0b0369d9e4db35e58c2", func := "loop.example/arraylanguage/laws.FnExactJoinAxis", spec := "fnExactJoinAxis", apart := false }
def FnExactJoinAxisSaid : Prop := fnExactJoinAxisRow.holds Try.pinned (OpenSpec.ofChange fnExactJoinAxisSpec)

/-- ITS FALSE NEIGHBOUR: 'it returns false'. Refute it at one input. -/
def fnExactJoinAxisWrong : ChangeSpec := { name := "fnExactJoinAxis", fn := fun _ => fun
  | [d1, d2, d3] => { results := [.lit (.bool false)], args := [d1, d2, d3] }
  | _ => none }
def FnExactJoinAxisWrongFalsely : Prop := fnExactJoinAxisRow.holds Try.pinned (OpenSpec.ofChange fnExactJoinAxisWrong)

/-- 'laws.FnExactStackArrays': WHATEVER THE INPUT: true; the input reads as it did. -/
def fnExactStackArraysSpec : ChangeSpec := { name := "fnExactStackArrays", fn := fun _ => fun
  | [d1, d2] => { results := [.lit (.bool true)], args := [d1, d2] }
  | _ => none }
def fnExactStackArraysRow : OpenClaim := { program := "ythccdpfoikdonab", sum := "8b1f9cb5a37f8a91966a2785b31b34ff23a7c27c57f2c0b0369d9e4db35e58c2", func := "loop.example/arraylanguage/laws.FnExactStackArrays", spec := "fnExactStackArrays", apart := false }
def FnExactStackArraysSaid : Prop := fnExactStackArraysRow.holds Try.pinned (OpenSpec.ofChange fnExactStackArraysSpec)

/-- ITS FALSE NEIGHBOUR: 'it returns false'. Refute it at one input. -/
def fnExactStackArraysWrong : ChangeSpec := { name := "fnExactStackArrays", fn := fun _ => fun
  | [d1, d2] => { results := [.lit (.bool false)], args := [d1, d2] }
  | _ => none }
def FnExactStackArraysWrongFalsely : Prop := fnExactStackArraysRow.holds Try.pinned (OpenSpec.ofChange fnExactStackArraysWrong)

/-- 'laws.FnExactRepeatAxis': WHATEVER THE INPUT: true; the input reads as it did. -/
def fnExactRepeatAxisSpec : ChangeSpec := { name := "fnExactRepeatAxis", fn := fun _ => fun
  | [d1, d2, d3] => { results := [.lit (.bool true)], args := [d1, d2, d3] }
  | _ => none }
def fnExactRepeatAxisRow : OpenClaim := { program := "ythccdpfoikdonab", sum := "8b1f9cb5a37f8a91966a2785b31b34ff23a7c27c57f2c0b0369d9e4db35e58c2", func := "loop.example/arraylanguage/laws.FnExactRepeatAxis", spec := "fnExactRepeatAxis", unfollowed := true, recurses := true, apart := false }
def FnExactRepeatAxisSaid : Prop := fnExactRepeatAxisRow.holds Try.pinned (OpenSpec.ofChange fnExactRepeatAxisSpec)

/-- ITS FALSE NEIGHBOUR: 'it returns false'. Refute it at one input. -/
def fnExactRepeatAxisWrong : ChangeSpec := { name := "fnExactRepeatAxis", fn := fun _ => fun
  | [d1, d2, d3] => { results := [.lit (.bool false)], args := [d1, d2, d3] }
  | _ => none }
def FnExactRepeatAxisWrongFalsely : Prop := fnExactRepeatAxisRow.holds Try.pinned (OpenSpec.ofChange fnExactRepeatAxisWrong)

/-- 'laws.FnExactExpandAxis': WHATEVER THE INPUT: true; the input reads as it did. -/
def fnExactExpandAxisSpec : ChangeSpec := { name := "fnExactExpandAxis", fn := fun _ => fun
  | [d1, d2, d3] => { results := [.lit (.bool true)], args := [d1, d2, d3] }
  | _ => none }
def fnExactExpandAxisRow : OpenClaim := { program := "ythccdpfoikdonab", sum := "8b1f9cb5a37f8a91966a2785b31b34ff23a7c27c57f2c0b0369d9e4db35e58c2", func := "loop.example/arraylanguage/laws.FnExactExpandAxis", spec := "fnExactExpandAxis", unfollowed := true, recurses := true, apart := false }
def FnExactExpandAxisSaid : Prop := fnExactExpandAxisRow.holds Try.pinned (OpenSpec.ofChange fnExactExpandAxisSpec)

/-- ITS FALSE NEIGHBOUR: 'it returns false'. Refute it at one input. -/
def fnExactExpandAxisWrong : ChangeSpec := { name := "fnExactExpandAxis", fn := fun _ => fun
  | [d1, d2, d3] => { results := [.lit (.bool false)], args := [d1, d2, d3] }
  | _ => none }
def FnExactExpandAxisWrongFalsely : Prop := fnExactExpandAxisRow.holds Try.pinned (OpenSpec.ofChange fnExactExpandAxisWrong)

/-- 'laws.FnExactPickItems': WHATEVER THE INPUT: true; the input reads as it did. -/
def fnExactPickItemsSpec : ChangeSpec := { name := "fnExactPickItems", fn := fun _ => fun
  | [d1, d2] => { results := [.lit (.bool true)], args := [d1, d2] }
  | _ => none }
def fnExactPickItemsRow : OpenClaim := { program := "ythccdpfoikdonab", sum := "8b1f9cb5a37f8a91966a2785b31b34ff23a7c27c57f2c0b0369d9e4db35e58c2", func := "loop.example/arraylanguage/laws.FnExactPickItems", spec := "fnExactPickItems", apart := false }
def FnExactPickItemsSaid : Prop := fnExactPickItemsRow.holds Try.pinned (OpenSpec.ofChange fnExactPickItemsSpec)

/-- ITS FALSE NEIGHBOUR: 'it returns false'. Refute it at one input. -/
def fnExactPickItemsWrong : ChangeSpec := { name := "fnExactPickItems", fn := fun _ => fun
  | [d1, d2] => { results := [.lit (.bool false)], args := [d1, d2] }
  | _ => none }
def FnExactPickItemsWrongFalsely : Prop := fnExactPickItemsRow.holds Try.pinned (OpenSpec.ofChange fnExactPickItemsWrong)

/-- 'laws.FnExactFindItems': WHATEVER THE INPUT: true; the input reads as it did. -/
def fnExactFindItemsSpec : ChangeSpec := { name := "fnExactFindItems", fn := fun _ => fun
  | [d1, d2] => { results := [.lit (.bool true)], args := [d1, d2] }
  | _ => none }
def fnExactFindItemsRow : OpenClaim := { program := "ythccdpfoikdonab", sum := "8b1f9cb5a37f8a91966a2785b31b34ff23a7c27c57f2c0b0369d9e4db35e58c2", func := "loop.example/arraylanguage/laws.FnExactFindItems", spec := "fnExactFindItems", apart := false }
def FnExactFindItemsSaid : Prop := fnExactFindItemsRow.holds Try.pinned (OpenSpec.ofChange fnExactFindItemsSpec)

/-- ITS FALSE NEIGHBOUR: 'it returns false'. Refute it at one input. -/
def fnExactFindItemsWrong : ChangeSpec := { name := "fnExactFindItems", fn := fun _ => fun
  | [d1, d2] => { results := [.lit (.bool false)], args := [d1, d2] }
  | _ => none }
def FnExactFindItemsWrongFalsely : Prop := fnExactFindItemsRow.holds Try.pinned (OpenSpec.ofChange fnExactFindItemsWrong)

/- THE SECOND FORM. 'bulk': how many values and letters a reading holds, each counted each time it is reached (what is shared counts as often as it is met; a slice's spare places count too). A statement '..UptoSaid' is the law's where the arguments, and the package variables that the reading takes, are together of bulk at most 1048576: NARROWER than '..Said'. Prove '..Said' where nothing that the law and all that it calls make is longer than what came in: it says more and counts as full. Else prove '..UptoSaid'. A law counts once. -/
mutual
def uptoBulk {H : Type} : DataW H → Nat
  | .lit (.string bytes) => bytes.length + 1
  | .lit _ => 1
  | .nil => 1
  | .ptr d => uptoBulk d + 1
  | .slice elems spare => uptoBulkAll elems + uptoBulkAll spare + 1
  | .agg parts => uptoBulkAll parts + 1
  | .iface _ d => uptoBulk d + 1
  | .map entries => uptoBulkEntries entries + 1
  | .held _ => 1
def uptoBulkAll {H : Type} : List (DataW H) → Nat
  | [] => 0
  | d :: r => uptoBulk d + uptoBulkAll r
def uptoBulkEntries {H : Type} : List (Lit × DataW H) → Nat
  | [] => 0
  | x :: r => uptoBulkEntry x + uptoBulkEntries r
def uptoBulkEntry {H : Type} : Lit × DataW H → Nat
  | (.string bytes, d) => bytes.length + uptoBulk d + 1
  | (_, d) => uptoBulk d + 1
 end
def uptoSmall : (H : Type) → List (DataW H) → Bool := fun _ ds => decide (uptoBulkAll ds ≤ 1048576)
def OpenSpec.upto (s : _root_.Go.ChangeSpec) : _root_.Go.OpenSpec := { _root_.Go.OpenSpec.ofChange s with cond := some uptoSmall }

/-- 'laws.FnExactJoinAxis', WHERE WHAT IT READS IS OF BULK AT MOST 1048576: true; the input reads as it did. -/
def fnExactJoinAxisUptoRow : OpenClaim := { program := "ythccdpfoikdonab", sum := "8b1f9cb5a37f8a91966a2785b31b34ff23a7c27c57f2c0b0369d9e4db35e58c2", func := "loop.example/arraylanguage/laws.FnExactJoinAxis", spec := "fnExactJoinAxis", apart := false, narrowed := true }
def FnExactJoinAxisUptoSaid : Prop := fnExactJoinAxisUptoRow.holds Try.pinned (OpenSpec.upto fnExactJoinAxisSpec)

/-- 'laws.FnExactStackArrays', WHERE WHAT IT READS IS OF BULK AT MOST 1048576: true; the input reads as it did. -/
def fnExactStackArraysUptoRow : OpenClaim := { program := "ythccdpfoikdonab", sum := "8b1f9cb5a37f8a91966a2785b31b34ff23a7c27c57f2c0b0369d9e4db35e58c2", func := "loop.example/arraylanguage/laws.FnExactStackArrays", spec := "fnExactStackArrays", apart := false, narrowed := true }
def FnExactStackArraysUptoSaid : Prop := fnExactStackArraysUptoRow.holds Try.pinned (OpenSpec.upto fnExactStackArraysSpec)

/-- 'laws.FnExactRepeatAxis', WHERE WHAT IT READS IS OF BULK AT MOST 1048576: true; the input reads as it did. -/
def fnExactRepeatAxisUptoRow : OpenClaim := { program := "ythccdpfoikdonab", sum := "8b1f9cb5a37f8a91966a2785b31b34ff23a7c27c57f2c0b0369d9e4db35e58c2", func := "loop.example/arraylanguage/laws.FnExactRepeatAxis", spec := "fnExactRepeatAxis", unfollowed := true, recurses := true, apart := false, narrowed := true }
def FnExactRepeatAxisUptoSaid : Prop := fnExactRepeatAxisUptoRow.holds Try.pinned (OpenSpec.upto fnExactRepeatAxisSpec)

/-- 'laws.FnExactExpandAxis', WHERE WHAT IT READS IS OF BULK AT MOST 1048576: true; the input reads as it did. -/
def fnExactExpandAxisUptoRow : OpenClaim := { program := "ythccdpfoikdonab", sum := "8b1f9cb5a37f8a91966a2785b31b34ff23a7c27c57f2c0b0369d9e4db35e58c2", func := "loop.example/arraylanguage/laws.FnExactExpandAxis", spec := "fnExactExpandAxis", unfollowed := true, recurses := true, apart := false, narrowed := true }
def FnExactExpandAxisUptoSaid : Prop := fnExactExpandAxisUptoRow.holds Try.pinned (OpenSpec.upto fnExactExpandAxisSpec)

/-- 'laws.FnExactPickItems', WHERE WHAT IT READS IS OF BULK AT MOST 1048576: true; the input reads as it did. -/
def fnExactPickItemsUptoRow : OpenClaim := { program := "ythccdpfoikdonab", sum := "8b1f9cb5a37f8a91966a2785b31b34ff23a7c27c57f2c0b0369d9e4db35e58c2", func := "loop.example/arraylanguage/laws.FnExactPickItems", spec := "fnExactPickItems", apart := false, narrowed := true }
def FnExactPickItemsUptoSaid : Prop := fnExactPickItemsUptoRow.holds Try.pinned (OpenSpec.upto fnExactPickItemsSpec)

/-- 'laws.FnExactFindItems', WHERE WHAT IT READS IS OF BULK AT MOST 1048576: true; the input reads as it did. -/
def fnExactFindItemsUptoRow : OpenClaim := { program := "ythccdpfoikdonab", sum := "8b1f9cb5a37f8a91966a2785b31b34ff23a7c27c57f2c0b0369d9e4db35e58c2", func := "loop.example/arraylanguage/laws.FnExactFindItems", spec := "fnExactFindItems", apart := false, narrowed := true }
def FnExactFindItemsUptoSaid : Prop := fnExactFindItemsUptoRow.holds Try.pinned (OpenSpec.upto fnExactFindItemsSpec)

end Rows
end Go.Proofs.Ythccdpfoikdonab
