/-
  No cell of these rows narrows 'for every input' (looked for: loops, veiled, ifaces, maps, wideKeys, modest, calm, conditions, laid).
  DERIVED. THE GIVEN ROWS OF THIS SEAT. 6 by the template 'for every input the law returns true; each argument reads behind the call as it read before'; 0 by the template 'total and deterministic' (their statements: YtbjnfjkipnpicaaTotals.lean).
  GIVEN WITH THE SEED: the statements are not yours to turn. If you find one false, say at which input.
  Laid BY PROGRAM, IN A SANDBOX (cutbox-rows.mjs): the forced cells as the released guide's own fill.sh prints them over the translation de92e003f674c200… (all of the seat's roots in one cut). By AI agents, Wed Nov 11 2026. No macro, syntax, notation, axiom, sorry.
-/
import Derived.Test.YtbjnfjkipnpicaaChecked
import GoSem.Claim
import GoSem.ClaimJoined
import GoSem.ClaimMapViews
import Derived.JoinedTies
import Derived.KernelRfl
namespace Go.Proofs.Ytbjnfjkipnpicaa
/- THE CELL 'sum', in the pinned program and in every row, IS THE sha256 OF THE DUMP (.gsa) THAT YtbjnfjkipnpicaaProg.lean LOADS. Nothing in Lean hashes anything: it is a label: what it is worth is what the hold of that sum in a sandbox is worth. -/
noncomputable def Try.pinned : Pinned := { name := "ytbjnfjkipnpicaa", sum := "de92e003f674c200487858a552532180df25f1c6a51c199da5095d5328557c9f", checked := Try.checked }
namespace Rows
def none {H : Type} : Left H := { results := [], args := [] }

/-- 'laws.FnExpandAxis': WHATEVER THE INPUT: true; the input reads as it did. -/
def fnExpandAxisSpec : ChangeSpec := { name := "fnExpandAxis", fn := fun _ => fun
  | [d] => { results := [.lit (.bool true)], args := [d] }
  | _ => none }
def fnExpandAxisRow : OpenClaim := { program := "ytbjnfjkipnpicaa", sum := "de92e003f674c200487858a552532180df25f1c6a51c199da5095d5328557c9f", func := "loop.example/arraylanguage/laws.FnExpandAxis", spec := "fnExpandAxis", unfollowed := true, recurses := true, apart := false }
def FnExpandAxisSaid : Prop := fnExpandAxisRow.holds Try.pinned (OpenSpec.ofChange fnExpandAxisSpec)

/-- ITS FALSE NEIGHBOUR: 'it returns false'. Refute it at one input. -/
def fnExpandAxisWrong : ChangeSpec := { name := "fnExpandAxis", fn := fun _ => fun
  | [d] => { results := [.lit (.bool false)], args := [d] }
  | _ => none }
def FnExpandAxisWrongFalsely : Prop := fnExpandAxisRow.holds Try.pinned (OpenSpec.ofChange fnExpandAxisWrong)

/-- 'laws.FnExpandAxisZero': WHATEVER THE INPUT: true; the input reads as it did. -/
def fnExpandAxisZeroSpec : ChangeSpec := { name := "fnExpandAxisZero", fn := fun _ => fun
  | [d] => { results := [.lit (.bool true)], args := [d] }
  | _ => none }
def fnExpandAxisZeroRow : OpenClaim := { program := "ytbjnfjkipnpicaa", sum := "de92e003f674c200487858a552532180df25f1c6a51c199da5095d5328557c9f", func := "loop.example/arraylanguage/laws.FnExpandAxisZero", spec := "fnExpandAxisZero", unfollowed := true, recurses := true, apart := false }
def FnExpandAxisZeroSaid : Prop := fnExpandAxisZeroRow.holds Try.pinned (OpenSpec.ofChange fnExpandAxisZeroSpec)

/-- ITS FALSE NEIGHBOUR: 'it returns false'. Refute it at one input. -/
def fnExpandAxisZeroWrong : ChangeSpec := { name := "fnExpandAxisZero", fn := fun _ => fun
  | [d] => { results := [.lit (.bool false)], args := [d] }
  | _ => none }
def FnExpandAxisZeroWrongFalsely : Prop := fnExpandAxisZeroRow.holds Try.pinned (OpenSpec.ofChange fnExpandAxisZeroWrong)

/-- 'laws.FnRepeatAxisUnique': WHATEVER THE INPUT: true; the input reads as it did. -/
def fnRepeatAxisUniqueSpec : ChangeSpec := { name := "fnRepeatAxisUnique", fn := fun _ => fun
  | [d] => { results := [.lit (.bool true)], args := [d] }
  | _ => none }
def fnRepeatAxisUniqueRow : OpenClaim := { program := "ytbjnfjkipnpicaa", sum := "de92e003f674c200487858a552532180df25f1c6a51c199da5095d5328557c9f", func := "loop.example/arraylanguage/laws.FnRepeatAxisUnique", spec := "fnRepeatAxisUnique", unfollowed := true, recurses := true, apart := false }
def FnRepeatAxisUniqueSaid : Prop := fnRepeatAxisUniqueRow.holds Try.pinned (OpenSpec.ofChange fnRepeatAxisUniqueSpec)

/-- ITS FALSE NEIGHBOUR: 'it returns false'. Refute it at one input. -/
def fnRepeatAxisUniqueWrong : ChangeSpec := { name := "fnRepeatAxisUnique", fn := fun _ => fun
  | [d] => { results := [.lit (.bool false)], args := [d] }
  | _ => none }
def FnRepeatAxisUniqueWrongFalsely : Prop := fnRepeatAxisUniqueRow.holds Try.pinned (OpenSpec.ofChange fnRepeatAxisUniqueWrong)

/-- 'laws.FnUniqueItemsOrder': WHATEVER THE INPUT: true; the input reads as it did. -/
def fnUniqueItemsOrderSpec : ChangeSpec := { name := "fnUniqueItemsOrder", fn := fun _ => fun
  | [d] => { results := [.lit (.bool true)], args := [d] }
  | _ => none }
def fnUniqueItemsOrderRow : OpenClaim := { program := "ytbjnfjkipnpicaa", sum := "de92e003f674c200487858a552532180df25f1c6a51c199da5095d5328557c9f", func := "loop.example/arraylanguage/laws.FnUniqueItemsOrder", spec := "fnUniqueItemsOrder", apart := false }
def FnUniqueItemsOrderSaid : Prop := fnUniqueItemsOrderRow.holds Try.pinned (OpenSpec.ofChange fnUniqueItemsOrderSpec)

/-- ITS FALSE NEIGHBOUR: 'it returns false'. Refute it at one input. -/
def fnUniqueItemsOrderWrong : ChangeSpec := { name := "fnUniqueItemsOrder", fn := fun _ => fun
  | [d] => { results := [.lit (.bool false)], args := [d] }
  | _ => none }
def FnUniqueItemsOrderWrongFalsely : Prop := fnUniqueItemsOrderRow.holds Try.pinned (OpenSpec.ofChange fnUniqueItemsOrderWrong)

/-- 'laws.FnWhereItemsMask': WHATEVER THE INPUT: true; the input reads as it did. -/
def fnWhereItemsMaskSpec : ChangeSpec := { name := "fnWhereItemsMask", fn := fun _ => fun
  | [d] => { results := [.lit (.bool true)], args := [d] }
  | _ => none }
def fnWhereItemsMaskRow : OpenClaim := { program := "ytbjnfjkipnpicaa", sum := "de92e003f674c200487858a552532180df25f1c6a51c199da5095d5328557c9f", func := "loop.example/arraylanguage/laws.FnWhereItemsMask", spec := "fnWhereItemsMask", unfollowed := true, recurses := true, apart := false }
def FnWhereItemsMaskSaid : Prop := fnWhereItemsMaskRow.holds Try.pinned (OpenSpec.ofChange fnWhereItemsMaskSpec)

/-- ITS FALSE NEIGHBOUR: 'it returns false'. Refute it at one input. -/
def fnWhereItemsMaskWrong : ChangeSpec := { name := "fnWhereItemsMask", fn := fun _ => fun
  | [d] => { results := [.lit (.bool false)], args := [d] }
  | _ => none }
def FnWhereItemsMaskWrongFalsely : Prop := fnWhereItemsMaskRow.holds Try.pinned (OpenSpec.ofChange fnWhereItemsMaskWrong)

/-- 'laws.FnPickItemsTwice': WHATEVER THE INPUT: true; the input reads as it did. -/
def fnPickItemsTwiceSpec : ChangeSpec := { name := "fnPickItemsTwice", fn := fun _ => fun
  | [d] => { results := [.lit (.bool true)], args := [d] }
  | _ => none }
def fnPickItemsTwiceRow : OpenClaim := { program := "ytbjnfjkipnpicaa", sum := "de92e003f674c200487858a552532180df25f1c6a51c199da5095d5328557c9f", func := "loop.example/arraylanguage/laws.FnPickItemsTwice", spec := "fnPickItemsTwice", unfollowed := true, recurses := true, apart := false }
def FnPickItemsTwiceSaid : Prop := fnPickItemsTwiceRow.holds Try.pinned (OpenSpec.ofChange fnPickItemsTwiceSpec)

/-- ITS FALSE NEIGHBOUR: 'it returns false'. Refute it at one input. -/
def fnPickItemsTwiceWrong : ChangeSpec := { name := "fnPickItemsTwice", fn := fun _ => fun
  | [d] => { results := [.lit (.bool false)], args := [d] }
  | _ => none }
def FnPickItemsTwiceWrongFalsely : Prop := fnPickItemsTwiceRow.holds Try.pinned (OpenSpec.ofChange fnPickItemsTwiceWrong)

/- THE SECOND FORM. 'bulk': how many values and letters a reading holds, each counted each time it is reached (what is shared counts as often as it is met; a slice's spare places count too). A statement '..UptoSaid' is the law's where the arguments, and the package variables that the reading takes, are together of bulk at most 1048576: NARROWER than '..Said'. Prove '..Said' where nothing that the law and all that it calls make is longer than what came in: it says more and counts as full. Else prove '..UptoSaid'. A law counts once. -/
mutual
def uptoBulk {H : Type} : DataW H → Nat
  | .lit (.string bytes) => bytes.length + 1
  | .lit _ => 1
  | .nil => 1
  | .ptr d => uptoBulk d + 1
  | .slice elems spare => uptoBulkAll elems + uptoBulkAll spare + 1
  | .agg parts => uptoBulkAll parts + 1
  | .iface _ d => uptoBulk d + 1
  | .map entries => uptoBulkEntries entries + 1
  | .held _ => 1
def uptoBulkAll {H : Type} : List (DataW H) → Nat
  | [] => 0
  | d :: r => uptoBulk d + uptoBulkAll r
def uptoBulkEntries {H : Type} : List (Lit × DataW H) → Nat
  | [] => 0
  | x :: r => uptoBulkEntry x + uptoBulkEntries r
def uptoBulkEntry {H : Type} : Lit × DataW H → Nat
  | (.string bytes, d) => bytes.length + uptoBulk d + 1
  | (_, d) => uptoBulk d + 1
 end
def uptoSmall : (H : Type) → List (DataW H) → Bool := fun _ ds => decide (uptoBulkAll ds ≤ 1048576)
def OpenSpec.upto (s : _root_.Go.ChangeSpec) : _root_.Go.OpenSpec := { _root_.Go.OpenSpec.ofChange s with cond := some uptoSmall }

/-- 'laws.FnExpandAxis', WHERE WHAT IT READS IS OF BULK AT MOST 1048576: true; the input reads as it did. -/
def fnExpandAxisUptoRow : OpenClaim := { program := "ytbjnfjkipnpicaa", sum := "de92e003f674c200487858a552532180df25f1c6a51c199da5095d5328557c9f", func := "loop.example/arraylanguage/laws.FnExpandAxis", spec := "fnExpandAxis", unfollowed := true, recurses := true, apart := false, narrowed := true }
def FnExpandAxisUptoSaid : Prop := fnExpandAxisUptoRow.holds Try.pinned (OpenSpec.upto fnExpandAxisSpec)

/-- 'laws.FnExpandAxisZero', WHERE WHAT IT READS IS OF BULK AT MOST 1048576: true; the input reads as it did. -/
def fnExpandAxisZeroUptoRow : OpenClaim := { program := "ytbjnfjkipnpicaa", sum := "de92e003f674c200487858a552532180df25f1c6a51c199da5095d5328557c9f", func := "loop.example/arraylanguage/laws.FnExpandAxisZero", spec := "fnExpandAxisZero", unfollowed := true, recurses := true, apart := false, narrowed := true }
def FnExpandAxisZeroUptoSaid : Prop := fnExpandAxisZeroUptoRow.holds Try.pinned (OpenSpec.upto fnExpandAxisZeroSpec)

/-- 'laws.FnRepeatAxisUnique', WHERE WHAT IT READS IS OF BULK AT MOST 1048576: true; the input reads as it did. -/
def fnRepeatAxisUniqueUptoRow : OpenClaim := { program := "ytbjnfjkipnpicaa", sum := "de92e003f674c200487858a552532180df25f1c6a51c199da5095d5328557c9f", func := "loop.example/arraylanguage/laws.FnRepeatAxisUnique", spec := "fnRepeatAxisUnique", unfollowed := true, recurses := true, apart := false, narrowed := true }
def FnRepeatAxisUniqueUptoSaid : Prop := fnRepeatAxisUniqueUptoRow.holds Try.pinned (OpenSpec.upto fnRepeatAxisUniqueSpec)

/-- 'laws.FnUniqueItemsOrder', WHERE WHAT IT READS IS OF BULK AT MOST 1048576: true; the input reads as it did. -/
def fnUniqueItemsOrderUptoRow : OpenClaim := { program := "ytbjnfjkipnpicaa", sum := "de92e003f674c200487858a552532180df25f1c6a51c199da5095d5328557c9f", func := "loop.example/arraylanguage/laws.FnUniqueItemsOrder", spec := "fnUniqueItemsOrder", apart := false, narrowed := true }
def FnUniqueItemsOrderUptoSaid : Prop := fnUniqueItemsOrderUptoRow.holds Try.pinned (OpenSpec.upto fnUniqueItemsOrderSpec)

/-- 'laws.FnWhereItemsMask', WHERE WHAT IT READS IS OF BULK AT MOST 1048576: true; the input reads as it did. -/
def fnWhereItemsMaskUptoRow : OpenClaim := { program := "ytbjnfjkipnpicaa", sum := "de92e003f674c200487858a552532180df25f1c6a51c199da5095d5328557c9f", func := "loop.example/arraylanguage/laws.FnWhereItemsMask", spec := "fnWhereItemsMask", unfollowed := true, recurses := true, apart := false, narrowed := true }
def FnWhereItemsMaskUptoSaid : Prop := fnWhereItemsMaskUptoRow.holds Try.pinned (OpenSpec.upto fnWhereItemsMaskSpec)

/-- 'laws.FnPickItemsTwice', WHERE WHAT IT READS IS OF BULK AT MOST 1048576: true; the input reads as it did. -/
def fnPickItemsTwiceUptoRow : OpenClaim := { program := "ytbjnfjkipnpicaa", sum := "de92e003f674c200487858a552532180df25f1c6a51c199da5095d5328557c9f", func := "loop.example/arraylanguage/laws.FnPickItemsTwice", spec := "fnPickItemsTwice", unfollowed := true, recurses := true, apart := false, narrowed := true }
def FnPickItemsTwiceUptoSaid : Prop := fnPickItemsTwiceUptoRow.holds Try.pinned (OpenSpec.upto fnPickItemsTwiceSpec)

end Rows
end Go.Proofs.Ytbjnfjkipnpicaa
