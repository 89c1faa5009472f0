/-
  No cell of these rows narrows 'for every input' (looked for: loops, veiled, ifaces, maps, wideKeys, modest, calm, conditions, laid).
  DERIVED. THE GIVEN ROWS OF THIS SEAT. 6 by the template 'for every input the law returns true; each argument reads behind the call as it read before'; 0 by the template 'total and deterministic' (their statements: YtmonjjdcebboiacTotals.lean).
  GIVEN WITH THE SEED: the statements are not yours to turn. If you find one false, say at which input.
  Laid BY PROGRAM, IN A SANDBOX (cutbox-rows.mjs): the forced cells as the released guide's own fill.sh prints them over the translation 5b29dd6b00d2bc75… (all of the seat's roots in one cut). By AI agents, Wed Nov 11 2026. No macro, syntax, notation, axiom, sorry.
-/
import Derived.Test.YtmonjjdcebboiacChecked
import GoSem.Claim
import GoSem.ClaimJoined
import GoSem.ClaimMapViews
import Derived.JoinedTies
import Derived.KernelRfl
namespace Go.Proofs.Ytmonjjdcebboiac
/- THE CELL 'sum', in the pinned program and in every row, IS THE sha256 OF THE DUMP (.gsa) THAT YtmonjjdcebboiacProg.lean LOADS. Nothing in Lean hashes anything: it is a label: what it is worth is what the hold of that sum in a sandbox is worth. -/
noncomputable def Try.pinned : Pinned := { name := "ytmonjjdcebboiac", sum := "5b29dd6b00d2bc755adf8189251070fe042f32618394e54b47421d6f85ff5969", checked := Try.checked }
namespace Rows
def none {H : Type} : Left H := { results := [], args := [] }

/-- 'laws.FnPowerOf': WHATEVER THE INPUT: true; the input reads as it did. -/
def fnPowerOfSpec : ChangeSpec := { name := "fnPowerOf", fn := fun _ => fun
  | [d] => { results := [.lit (.bool true)], args := [d] }
  | _ => none }
def fnPowerOfRow : OpenClaim := { program := "ytmonjjdcebboiac", sum := "5b29dd6b00d2bc755adf8189251070fe042f32618394e54b47421d6f85ff5969", func := "loop.example/arraylanguage/laws.FnPowerOf", spec := "fnPowerOf", unfollowed := true, recurses := true, apart := false }
def FnPowerOfSaid : Prop := fnPowerOfRow.holds Try.pinned (OpenSpec.ofChange fnPowerOfSpec)

/-- ITS FALSE NEIGHBOUR: 'it returns false'. Refute it at one input. -/
def fnPowerOfWrong : ChangeSpec := { name := "fnPowerOf", fn := fun _ => fun
  | [d] => { results := [.lit (.bool false)], args := [d] }
  | _ => none }
def FnPowerOfWrongFalsely : Prop := fnPowerOfRow.holds Try.pinned (OpenSpec.ofChange fnPowerOfWrong)

/-- 'laws.FnWindowsOf': WHATEVER THE INPUT: true; the input reads as it did. -/
def fnWindowsOfSpec : ChangeSpec := { name := "fnWindowsOf", fn := fun _ => fun
  | [d] => { results := [.lit (.bool true)], args := [d] }
  | _ => none }
def fnWindowsOfRow : OpenClaim := { program := "ytmonjjdcebboiac", sum := "5b29dd6b00d2bc755adf8189251070fe042f32618394e54b47421d6f85ff5969", func := "loop.example/arraylanguage/laws.FnWindowsOf", spec := "fnWindowsOf", unfollowed := true, recurses := true, apart := false }
def FnWindowsOfSaid : Prop := fnWindowsOfRow.holds Try.pinned (OpenSpec.ofChange fnWindowsOfSpec)

/-- ITS FALSE NEIGHBOUR: 'it returns false'. Refute it at one input. -/
def fnWindowsOfWrong : ChangeSpec := { name := "fnWindowsOf", fn := fun _ => fun
  | [d] => { results := [.lit (.bool false)], args := [d] }
  | _ => none }
def FnWindowsOfWrongFalsely : Prop := fnWindowsOfRow.holds Try.pinned (OpenSpec.ofChange fnWindowsOfWrong)

/-- 'laws.FnWindowsOfWhole': WHATEVER THE INPUT: true; the input reads as it did. -/
def fnWindowsOfWholeSpec : ChangeSpec := { name := "fnWindowsOfWhole", fn := fun _ => fun
  | [d] => { results := [.lit (.bool true)], args := [d] }
  | _ => none }
def fnWindowsOfWholeRow : OpenClaim := { program := "ytmonjjdcebboiac", sum := "5b29dd6b00d2bc755adf8189251070fe042f32618394e54b47421d6f85ff5969", func := "loop.example/arraylanguage/laws.FnWindowsOfWhole", spec := "fnWindowsOfWhole", unfollowed := true, recurses := true, apart := false }
def FnWindowsOfWholeSaid : Prop := fnWindowsOfWholeRow.holds Try.pinned (OpenSpec.ofChange fnWindowsOfWholeSpec)

/-- ITS FALSE NEIGHBOUR: 'it returns false'. Refute it at one input. -/
def fnWindowsOfWholeWrong : ChangeSpec := { name := "fnWindowsOfWhole", fn := fun _ => fun
  | [d] => { results := [.lit (.bool false)], args := [d] }
  | _ => none }
def FnWindowsOfWholeWrongFalsely : Prop := fnWindowsOfWholeRow.holds Try.pinned (OpenSpec.ofChange fnWindowsOfWholeWrong)

/-- 'laws.FnNeighboursOf': WHATEVER THE INPUT: true; the input reads as it did. -/
def fnNeighboursOfSpec : ChangeSpec := { name := "fnNeighboursOf", fn := fun _ => fun
  | [d] => { results := [.lit (.bool true)], args := [d] }
  | _ => none }
def fnNeighboursOfRow : OpenClaim := { program := "ytmonjjdcebboiac", sum := "5b29dd6b00d2bc755adf8189251070fe042f32618394e54b47421d6f85ff5969", func := "loop.example/arraylanguage/laws.FnNeighboursOf", spec := "fnNeighboursOf", unfollowed := true, recurses := true, apart := false }
def FnNeighboursOfSaid : Prop := fnNeighboursOfRow.holds Try.pinned (OpenSpec.ofChange fnNeighboursOfSpec)

/-- ITS FALSE NEIGHBOUR: 'it returns false'. Refute it at one input. -/
def fnNeighboursOfWrong : ChangeSpec := { name := "fnNeighboursOf", fn := fun _ => fun
  | [d] => { results := [.lit (.bool false)], args := [d] }
  | _ => none }
def FnNeighboursOfWrongFalsely : Prop := fnNeighboursOfRow.holds Try.pinned (OpenSpec.ofChange fnNeighboursOfWrong)

/-- 'laws.FnNeighboursOfScan': WHATEVER THE INPUT: true; the input reads as it did. -/
def fnNeighboursOfScanSpec : ChangeSpec := { name := "fnNeighboursOfScan", fn := fun _ => fun
  | [d] => { results := [.lit (.bool true)], args := [d] }
  | _ => none }
def fnNeighboursOfScanRow : OpenClaim := { program := "ytmonjjdcebboiac", sum := "5b29dd6b00d2bc755adf8189251070fe042f32618394e54b47421d6f85ff5969", func := "loop.example/arraylanguage/laws.FnNeighboursOfScan", spec := "fnNeighboursOfScan", unfollowed := true, recurses := true, apart := false }
def FnNeighboursOfScanSaid : Prop := fnNeighboursOfScanRow.holds Try.pinned (OpenSpec.ofChange fnNeighboursOfScanSpec)

/-- ITS FALSE NEIGHBOUR: 'it returns false'. Refute it at one input. -/
def fnNeighboursOfScanWrong : ChangeSpec := { name := "fnNeighboursOfScan", fn := fun _ => fun
  | [d] => { results := [.lit (.bool false)], args := [d] }
  | _ => none }
def FnNeighboursOfScanWrongFalsely : Prop := fnNeighboursOfScanRow.holds Try.pinned (OpenSpec.ofChange fnNeighboursOfScanWrong)

/-- 'laws.FnWindowsOfNeighbours': WHATEVER THE INPUT: true; the input reads as it did. -/
def fnWindowsOfNeighboursSpec : ChangeSpec := { name := "fnWindowsOfNeighbours", fn := fun _ => fun
  | [d] => { results := [.lit (.bool true)], args := [d] }
  | _ => none }
def fnWindowsOfNeighboursRow : OpenClaim := { program := "ytmonjjdcebboiac", sum := "5b29dd6b00d2bc755adf8189251070fe042f32618394e54b47421d6f85ff5969", func := "loop.example/arraylanguage/laws.FnWindowsOfNeighbours", spec := "fnWindowsOfNeighbours", unfollowed := true, recurses := true, apart := false }
def FnWindowsOfNeighboursSaid : Prop := fnWindowsOfNeighboursRow.holds Try.pinned (OpenSpec.ofChange fnWindowsOfNeighboursSpec)

/-- ITS FALSE NEIGHBOUR: 'it returns false'. Refute it at one input. -/
def fnWindowsOfNeighboursWrong : ChangeSpec := { name := "fnWindowsOfNeighbours", fn := fun _ => fun
  | [d] => { results := [.lit (.bool false)], args := [d] }
  | _ => none }
def FnWindowsOfNeighboursWrongFalsely : Prop := fnWindowsOfNeighboursRow.holds Try.pinned (OpenSpec.ofChange fnWindowsOfNeighboursWrong)

/- THE SECOND FORM. 'bulk': how many values and letters a reading holds, each counted each time it is reached (what is shared counts as often as it is met; a slice's spare places count too). A statement '..UptoSaid' is the law's where the arguments, and the package variables that the reading takes, are together of bulk at most 1048576: NARROWER than '..Said'. Prove '..Said' where nothing that the law and all that it calls make is longer than what came in: it says more and counts as full. Else prove '..UptoSaid'. A law counts once. -/
mutual
def uptoBulk {H : Type} : DataW H → Nat
  | .lit (.string bytes) => bytes.length + 1
  | .lit _ => 1
  | .nil => 1
  | .ptr d => uptoBulk d + 1
  | .slice elems spare => uptoBulkAll elems + uptoBulkAll spare + 1
  | .agg parts => uptoBulkAll parts + 1
  | .iface _ d => uptoBulk d + 1
  | .map entries => uptoBulkEntries entries + 1
  | .held _ => 1
def uptoBulkAll {H : Type} : List (DataW H) → Nat
  | [] => 0
  | d :: r => uptoBulk d + uptoBulkAll r
def uptoBulkEntries {H : Type} : List (Lit × DataW H) → Nat
  | [] => 0
  | x :: r => uptoBulkEntry x + uptoBulkEntries r
def uptoBulkEntry {H : Type} : Lit × DataW H → Nat
  | (.string bytes, d) => bytes.length + uptoBulk d + 1
  | (_, d) => uptoBulk d + 1
 end
def uptoSmall : (H : Type) → List (DataW H) → Bool := fun _ ds => decide (uptoBulkAll ds ≤ 1048576)
def OpenSpec.upto (s : _root_.Go.ChangeSpec) : _root_.Go.OpenSpec := { _root_.Go.OpenSpec.ofChange s with cond := some uptoSmall }

/-- 'laws.FnPowerOf', WHERE WHAT IT READS IS OF BULK AT MOST 1048576: true; the input reads as it did. -/
def fnPowerOfUptoRow : OpenClaim := { program := "ytmonjjdcebboiac", sum := "5b29dd6b00d2bc755adf8189251070fe042f32618394e54b47421d6f85ff5969", func := "loop.example/arraylanguage/laws.FnPowerOf", spec := "fnPowerOf", unfollowed := true, recurses := true, apart := false, narrowed := true }
def FnPowerOfUptoSaid : Prop := fnPowerOfUptoRow.holds Try.pinned (OpenSpec.upto fnPowerOfSpec)

/-- 'laws.FnWindowsOf', WHERE WHAT IT READS IS OF BULK AT MOST 1048576: true; the input reads as it did. -/
def fnWindowsOfUptoRow : OpenClaim := { program := "ytmonjjdcebboiac", sum := "5b29dd6b00d2bc755adf8189251070fe042f32618394e54b47421d6f85ff5969", func := "loop.example/arraylanguage/laws.FnWindowsOf", spec := "fnWindowsOf", unfollowed := true, recurses := true, apart := false, narrowed := true }
def FnWindowsOfUptoSaid : Prop := fnWindowsOfUptoRow.holds Try.pinned (OpenSpec.upto fnWindowsOfSpec)

/-- 'laws.FnWindowsOfWhole', WHERE WHAT IT READS IS OF BULK AT MOST 1048576: true; the input reads as it did. -/
def fnWindowsOfWholeUptoRow : OpenClaim := { program := "ytmonjjdcebboiac", sum := "5b29dd6b00d2bc755adf8189251070fe042f32618394e54b47421d6f85ff5969", func := "loop.example/arraylanguage/laws.FnWindowsOfWhole", spec := "fnWindowsOfWhole", unfollowed := true, recurses := true, apart := false, narrowed := true }
def FnWindowsOfWholeUptoSaid : Prop := fnWindowsOfWholeUptoRow.holds Try.pinned (OpenSpec.upto fnWindowsOfWholeSpec)

/-- 'laws.FnNeighboursOf', WHERE WHAT IT READS IS OF BULK AT MOST 1048576: true; the input reads as it did. -/
def fnNeighboursOfUptoRow : OpenClaim := { program := "ytmonjjdcebboiac", sum := "5b29dd6b00d2bc755adf8189251070fe042f32618394e54b47421d6f85ff5969", func := "loop.example/arraylanguage/laws.FnNeighboursOf", spec := "fnNeighboursOf", unfollowed := true, recurses := true, apart := false, narrowed := true }
def FnNeighboursOfUptoSaid : Prop := fnNeighboursOfUptoRow.holds Try.pinned (OpenSpec.upto fnNeighboursOfSpec)

/-- 'laws.FnNeighboursOfScan', WHERE WHAT IT READS IS OF BULK AT MOST 1048576: true; the input reads as it did. -/
def fnNeighboursOfScanUptoRow : OpenClaim := { program := "ytmonjjdcebboiac", sum := "5b29dd6b00d2bc755adf8189251070fe042f32618394e54b47421d6f85ff5969", func := "loop.example/arraylanguage/laws.FnNeighboursOfScan", spec := "fnNeighboursOfScan", unfollowed := true, recurses := true, apart := false, narrowed := true }
def FnNeighboursOfScanUptoSaid : Prop := fnNeighboursOfScanUptoRow.holds Try.pinned (OpenSpec.upto fnNeighboursOfScanSpec)

/-- 'laws.FnWindowsOfNeighbours', WHERE WHAT IT READS IS OF BULK AT MOST 1048576: true; the input reads as it did. -/
def fnWindowsOfNeighboursUptoRow : OpenClaim := { program := "ytmonjjdcebboiac", sum := "5b29dd6b00d2bc755adf8189251070fe042f32618394e54b47421d6f85ff5969", func := "loop.example/arraylanguage/laws.FnWindowsOfNeighbours", spec := "fnWindowsOfNeighbours", unfollowed := true, recurses := true, apart := false, narrowed := true }
def FnWindowsOfNeighboursUptoSaid : Prop := fnWindowsOfNeighboursUptoRow.holds Try.pinned (OpenSpec.upto fnWindowsOfNeighboursSpec)

end Rows
end Go.Proofs.Ytmonjjdcebboiac
