/-
  No cell of these rows narrows 'for every input' (looked for: loops, veiled, ifaces, maps, wideKeys, modest, calm, conditions, laid).
  DERIVED. THE GIVEN ROWS OF THIS SEAT. 6 by the template 'for every input the law returns true; each argument reads behind the call as it read before'; 0 by the template 'total and deterministic' (their statements: YtpafnakefbnofadTotals.lean).
  GIVEN WITH THE SEED: the statements are not yours to turn. If you find one false, say at which input.
  Laid BY PROGRAM, IN A SANDBOX (cutbox-rows.mjs): the forced cells as the released guide's own fill.sh prints them over the translation 6ada7622a2874013… (all of the seat's roots in one cut). By AI agents, Wed Nov 11 2026. No macro, syntax, notation, axiom, sorry.
-/
import Derived.Test.YtpafnakefbnofadChecked
import GoSem.Claim
import GoSem.ClaimJoined
import GoSem.ClaimMapViews
import Derived.JoinedTies
import Derived.KernelRfl
namespace Go.Proofs.Ytpafnakefbnofad
/- THE CELL 'sum', in the pinned program and in every row, IS THE sha256 OF THE DUMP (.gsa) THAT YtpafnakefbnofadProg.lean LOADS. Nothing in Lean hashes anything: it is a label: what it is worth is what the hold of that sum in a sandbox is worth. -/
noncomputable def Try.pinned : Pinned := { name := "ytpafnakefbnofad", sum := "6ada7622a2874013582de4f1749b7261694030b4dc9f3f0836f992303f2c3a47", checked := Try.checked }
namespace Rows
def none {H : Type} : Left H := { results := [], args := [] }

/-- 'laws.FnReduceAxis': WHATEVER THE INPUT: true; the input reads as it did. -/
def fnReduceAxisSpec : ChangeSpec := { name := "fnReduceAxis", fn := fun _ => fun
  | [d] => { results := [.lit (.bool true)], args := [d] }
  | _ => none }
def fnReduceAxisRow : OpenClaim := { program := "ytpafnakefbnofad", sum := "6ada7622a2874013582de4f1749b7261694030b4dc9f3f0836f992303f2c3a47", func := "loop.example/arraylanguage/laws.FnReduceAxis", spec := "fnReduceAxis", unfollowed := true, recurses := true, apart := false }
def FnReduceAxisSaid : Prop := fnReduceAxisRow.holds Try.pinned (OpenSpec.ofChange fnReduceAxisSpec)

/-- ITS FALSE NEIGHBOUR: 'it returns false'. Refute it at one input. -/
def fnReduceAxisWrong : ChangeSpec := { name := "fnReduceAxis", fn := fun _ => fun
  | [d] => { results := [.lit (.bool false)], args := [d] }
  | _ => none }
def FnReduceAxisWrongFalsely : Prop := fnReduceAxisRow.holds Try.pinned (OpenSpec.ofChange fnReduceAxisWrong)

/-- 'laws.FnReduceAxisReverse': WHATEVER THE INPUT: true; the input reads as it did. -/
def fnReduceAxisReverseSpec : ChangeSpec := { name := "fnReduceAxisReverse", fn := fun _ => fun
  | [d] => { results := [.lit (.bool true)], args := [d] }
  | _ => none }
def fnReduceAxisReverseRow : OpenClaim := { program := "ytpafnakefbnofad", sum := "6ada7622a2874013582de4f1749b7261694030b4dc9f3f0836f992303f2c3a47", func := "loop.example/arraylanguage/laws.FnReduceAxisReverse", spec := "fnReduceAxisReverse", unfollowed := true, recurses := true, apart := false }
def FnReduceAxisReverseSaid : Prop := fnReduceAxisReverseRow.holds Try.pinned (OpenSpec.ofChange fnReduceAxisReverseSpec)

/-- ITS FALSE NEIGHBOUR: 'it returns false'. Refute it at one input. -/
def fnReduceAxisReverseWrong : ChangeSpec := { name := "fnReduceAxisReverse", fn := fun _ => fun
  | [d] => { results := [.lit (.bool false)], args := [d] }
  | _ => none }
def FnReduceAxisReverseWrongFalsely : Prop := fnReduceAxisReverseRow.holds Try.pinned (OpenSpec.ofChange fnReduceAxisReverseWrong)

/-- 'laws.FnScanAxis': WHATEVER THE INPUT: true; the input reads as it did. -/
def fnScanAxisSpec : ChangeSpec := { name := "fnScanAxis", fn := fun _ => fun
  | [d] => { results := [.lit (.bool true)], args := [d] }
  | _ => none }
def fnScanAxisRow : OpenClaim := { program := "ytpafnakefbnofad", sum := "6ada7622a2874013582de4f1749b7261694030b4dc9f3f0836f992303f2c3a47", func := "loop.example/arraylanguage/laws.FnScanAxis", spec := "fnScanAxis", unfollowed := true, recurses := true, apart := false }
def FnScanAxisSaid : Prop := fnScanAxisRow.holds Try.pinned (OpenSpec.ofChange fnScanAxisSpec)

/-- ITS FALSE NEIGHBOUR: 'it returns false'. Refute it at one input. -/
def fnScanAxisWrong : ChangeSpec := { name := "fnScanAxis", fn := fun _ => fun
  | [d] => { results := [.lit (.bool false)], args := [d] }
  | _ => none }
def FnScanAxisWrongFalsely : Prop := fnScanAxisRow.holds Try.pinned (OpenSpec.ofChange fnScanAxisWrong)

/-- 'laws.FnScanAxisPart': WHATEVER THE INPUT: true; the input reads as it did. -/
def fnScanAxisPartSpec : ChangeSpec := { name := "fnScanAxisPart", fn := fun _ => fun
  | [d] => { results := [.lit (.bool true)], args := [d] }
  | _ => none }
def fnScanAxisPartRow : OpenClaim := { program := "ytpafnakefbnofad", sum := "6ada7622a2874013582de4f1749b7261694030b4dc9f3f0836f992303f2c3a47", func := "loop.example/arraylanguage/laws.FnScanAxisPart", spec := "fnScanAxisPart", unfollowed := true, recurses := true, apart := false }
def FnScanAxisPartSaid : Prop := fnScanAxisPartRow.holds Try.pinned (OpenSpec.ofChange fnScanAxisPartSpec)

/-- ITS FALSE NEIGHBOUR: 'it returns false'. Refute it at one input. -/
def fnScanAxisPartWrong : ChangeSpec := { name := "fnScanAxisPart", fn := fun _ => fun
  | [d] => { results := [.lit (.bool false)], args := [d] }
  | _ => none }
def FnScanAxisPartWrongFalsely : Prop := fnScanAxisPartRow.holds Try.pinned (OpenSpec.ofChange fnScanAxisPartWrong)

/-- 'laws.FnReduceAll': WHATEVER THE INPUT: true; the input reads as it did. -/
def fnReduceAllSpec : ChangeSpec := { name := "fnReduceAll", fn := fun _ => fun
  | [d] => { results := [.lit (.bool true)], args := [d] }
  | _ => none }
def fnReduceAllRow : OpenClaim := { program := "ytpafnakefbnofad", sum := "6ada7622a2874013582de4f1749b7261694030b4dc9f3f0836f992303f2c3a47", func := "loop.example/arraylanguage/laws.FnReduceAll", spec := "fnReduceAll", unfollowed := true, recurses := true, apart := false }
def FnReduceAllSaid : Prop := fnReduceAllRow.holds Try.pinned (OpenSpec.ofChange fnReduceAllSpec)

/-- ITS FALSE NEIGHBOUR: 'it returns false'. Refute it at one input. -/
def fnReduceAllWrong : ChangeSpec := { name := "fnReduceAll", fn := fun _ => fun
  | [d] => { results := [.lit (.bool false)], args := [d] }
  | _ => none }
def FnReduceAllWrongFalsely : Prop := fnReduceAllRow.holds Try.pinned (OpenSpec.ofChange fnReduceAllWrong)

/-- 'laws.FnReduceAllOrder': WHATEVER THE INPUT: true; the input reads as it did. -/
def fnReduceAllOrderSpec : ChangeSpec := { name := "fnReduceAllOrder", fn := fun _ => fun
  | [d] => { results := [.lit (.bool true)], args := [d] }
  | _ => none }
def fnReduceAllOrderRow : OpenClaim := { program := "ytpafnakefbnofad", sum := "6ada7622a2874013582de4f1749b7261694030b4dc9f3f0836f992303f2c3a47", func := "loop.example/arraylanguage/laws.FnReduceAllOrder", spec := "fnReduceAllOrder", unfollowed := true, recurses := true, apart := false }
def FnReduceAllOrderSaid : Prop := fnReduceAllOrderRow.holds Try.pinned (OpenSpec.ofChange fnReduceAllOrderSpec)

/-- ITS FALSE NEIGHBOUR: 'it returns false'. Refute it at one input. -/
def fnReduceAllOrderWrong : ChangeSpec := { name := "fnReduceAllOrder", fn := fun _ => fun
  | [d] => { results := [.lit (.bool false)], args := [d] }
  | _ => none }
def FnReduceAllOrderWrongFalsely : Prop := fnReduceAllOrderRow.holds Try.pinned (OpenSpec.ofChange fnReduceAllOrderWrong)

/- THE SECOND FORM. 'bulk': how many values and letters a reading holds, each counted each time it is reached (what is shared counts as often as it is met; a slice's spare places count too). A statement '..UptoSaid' is the law's where the arguments, and the package variables that the reading takes, are together of bulk at most 1048576: NARROWER than '..Said'. Prove '..Said' where nothing that the law and all that it calls make is longer than what came in: it says more and counts as full. Else prove '..UptoSaid'. A law counts once. -/
mutual
def uptoBulk {H : Type} : DataW H → Nat
  | .lit (.string bytes) => bytes.length + 1
  | .lit _ => 1
  | .nil => 1
  | .ptr d => uptoBulk d + 1
  | .slice elems spare => uptoBulkAll elems + uptoBulkAll spare + 1
  | .agg parts => uptoBulkAll parts + 1
  | .iface _ d => uptoBulk d + 1
  | .map entries => uptoBulkEntries entries + 1
  | .held _ => 1
def uptoBulkAll {H : Type} : List (DataW H) → Nat
  | [] => 0
  | d :: r => uptoBulk d + uptoBulkAll r
def uptoBulkEntries {H : Type} : List (Lit × DataW H) → Nat
  | [] => 0
  | x :: r => uptoBulkEntry x + uptoBulkEntries r
def uptoBulkEntry {H : Type} : Lit × DataW H → Nat
  | (.string bytes, d) => bytes.length + uptoBulk d + 1
  | (_, d) => uptoBulk d + 1
 end
def uptoSmall : (H : Type) → List (DataW H) → Bool := fun _ ds => decide (uptoBulkAll ds ≤ 1048576)
def OpenSpec.upto (s : _root_.Go.ChangeSpec) : _root_.Go.OpenSpec := { _root_.Go.OpenSpec.ofChange s with cond := some uptoSmall }

/-- 'laws.FnReduceAxis', WHERE WHAT IT READS IS OF BULK AT MOST 1048576: true; the input reads as it did. -/
def fnReduceAxisUptoRow : OpenClaim := { program := "ytpafnakefbnofad", sum := "6ada7622a2874013582de4f1749b7261694030b4dc9f3f0836f992303f2c3a47", func := "loop.example/arraylanguage/laws.FnReduceAxis", spec := "fnReduceAxis", unfollowed := true, recurses := true, apart := false, narrowed := true }
def FnReduceAxisUptoSaid : Prop := fnReduceAxisUptoRow.holds Try.pinned (OpenSpec.upto fnReduceAxisSpec)

/-- 'laws.FnReduceAxisReverse', WHERE WHAT IT READS IS OF BULK AT MOST 1048576: true; the input reads as it did. -/
def fnReduceAxisReverseUptoRow : OpenClaim := { program := "ytpafnakefbnofad", sum := "6ada7622a2874013582de4f1749b7261694030b4dc9f3f0836f992303f2c3a47", func := "loop.example/arraylanguage/laws.FnReduceAxisReverse", spec := "fnReduceAxisReverse", unfollowed := true, recurses := true, apart := false, narrowed := true }
def FnReduceAxisReverseUptoSaid : Prop := fnReduceAxisReverseUptoRow.holds Try.pinned (OpenSpec.upto fnReduceAxisReverseSpec)

/-- 'laws.FnScanAxis', WHERE WHAT IT READS IS OF BULK AT MOST 1048576: true; the input reads as it did. -/
def fnScanAxisUptoRow : OpenClaim := { program := "ytpafnakefbnofad", sum := "6ada7622a2874013582de4f1749b7261694030b4dc9f3f0836f992303f2c3a47", func := "loop.example/arraylanguage/laws.FnScanAxis", spec := "fnScanAxis", unfollowed := true, recurses := true, apart := false, narrowed := true }
def FnScanAxisUptoSaid : Prop := fnScanAxisUptoRow.holds Try.pinned (OpenSpec.upto fnScanAxisSpec)

/-- 'laws.FnScanAxisPart', WHERE WHAT IT READS IS OF BULK AT MOST 1048576: true; the input reads as it did. -/
def fnScanAxisPartUptoRow : OpenClaim := { program := "ytpafnakefbnofad", sum := "6ada7622a2874013582de4f1749b7261694030b4dc9f3f0836f992303f2c3a47", func := "loop.example/arraylanguage/laws.FnScanAxisPart", spec := "fnScanAxisPart", unfollowed := true, recurses := true, apart := false, narrowed := true }
def FnScanAxisPartUptoSaid : Prop := fnScanAxisPartUptoRow.holds Try.pinned (OpenSpec.upto fnScanAxisPartSpec)

/-- 'laws.FnReduceAll', WHERE WHAT IT READS IS OF BULK AT MOST 1048576: true; the input reads as it did. -/
def fnReduceAllUptoRow : OpenClaim := { program := "ytpafnakefbnofad", sum := "6ada7622a2874013582de4f1749b7261694030b4dc9f3f0836f992303f2c3a47", func := "loop.example/arraylanguage/laws.FnReduceAll", spec := "fnReduceAll", unfollowed := true, recurses := true, apart := false, narrowed := true }
def FnReduceAllUptoSaid : Prop := fnReduceAllUptoRow.holds Try.pinned (OpenSpec.upto fnReduceAllSpec)

/-- 'laws.FnReduceAllOrder', WHERE WHAT IT READS IS OF BULK AT MOST 1048576: true; the input reads as it did. -/
def fnReduceAllOrderUptoRow : OpenClaim := { program := "ytpafnakefbnofad", sum := "6ada7622a2874013582de4f1749b7261694030b4dc9f3f0836f992303f2c3a47", func := "loop.example/arraylanguage/laws.FnReduceAllOrder", spec := "fnReduceAllOrder", unfollowed := true, recurses := true, apart := false, narrowed := true }
def FnReduceAllOrderUptoSaid : Prop := fnReduceAllOrderUptoRow.holds Try.pinned (OpenSpec.upto fnReduceAllOrderSpec)

end Rows
end Go.Proofs.Ytpafnakefbnofad
