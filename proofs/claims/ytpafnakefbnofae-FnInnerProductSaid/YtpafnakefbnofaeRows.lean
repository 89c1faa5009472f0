/-
  No cell of these rows narrows 'for every input' (looked for: loops, veiled, ifaces, maps, wideKeys, modest, calm, conditions, laid).
  DERIVED. THE GIVEN ROWS OF THIS SEAT. 6 by the template 'for every input the law returns true; each argument reads behind the call as it read before'; 0 by the template 'total and deterministic' (their statements: YtpafnakefbnofaeTotals.lean).
  GIVEN WITH THE SEED: the statements are not yours to turn. If you find one false, say at which input.
  Laid BY PROGRAM, IN A SANDBOX (cutbox-rows.mjs): the forced cells as the released guide's own fill.sh prints them over the translation dd613acd00e41dcb… (all of the seat's roots in one cut). By AI agents, Wed Nov 11 2026. No macro, syntax, notation, axiom, sorry.
-/
import Derived.Test.YtpafnakefbnofaeChecked
import GoSem.Claim
import GoSem.ClaimJoined
import GoSem.ClaimMapViews
import Derived.JoinedTies
import Derived.KernelRfl
namespace Go.Proofs.Ytpafnakefbnofae
/- THE CELL 'sum', in the pinned program and in every row, IS THE sha256 OF THE DUMP (.gsa) THAT YtpafnakefbnofaeProg.lean LOADS. Nothing in Lean hashes anything: it is a label: what it is worth is what the hold of that sum in a sandbox is worth. -/
noncomputable def Try.pinned : Pinned := { name := "ytpafnakefbnofae", sum := "dd613acd00e41dcbd25e803d3236c17ac8da2899518d637ea5a4cf261d11919c", checked := Try.checked }
namespace Rows
def none {H : Type} : Left H := { results := [], args := [] }

/-- 'laws.FnNeutralOfReduce': WHATEVER THE INPUT: true; the input reads as it did. -/
def fnNeutralOfReduceSpec : ChangeSpec := { name := "fnNeutralOfReduce", fn := fun _ => fun
  | [d] => { results := [.lit (.bool true)], args := [d] }
  | _ => none }
def fnNeutralOfReduceRow : OpenClaim := { program := "ytpafnakefbnofae", sum := "dd613acd00e41dcbd25e803d3236c17ac8da2899518d637ea5a4cf261d11919c", func := "loop.example/arraylanguage/laws.FnNeutralOfReduce", spec := "fnNeutralOfReduce", unfollowed := true, recurses := true, apart := false }
def FnNeutralOfReduceSaid : Prop := fnNeutralOfReduceRow.holds Try.pinned (OpenSpec.ofChange fnNeutralOfReduceSpec)

/-- ITS FALSE NEIGHBOUR: 'it returns false'. Refute it at one input. -/
def fnNeutralOfReduceWrong : ChangeSpec := { name := "fnNeutralOfReduce", fn := fun _ => fun
  | [d] => { results := [.lit (.bool false)], args := [d] }
  | _ => none }
def FnNeutralOfReduceWrongFalsely : Prop := fnNeutralOfReduceRow.holds Try.pinned (OpenSpec.ofChange fnNeutralOfReduceWrong)

/-- 'laws.FnScanAxisAdd': WHATEVER THE INPUT: true; the input reads as it did. -/
def fnScanAxisAddSpec : ChangeSpec := { name := "fnScanAxisAdd", fn := fun _ => fun
  | [d] => { results := [.lit (.bool true)], args := [d] }
  | _ => none }
def fnScanAxisAddRow : OpenClaim := { program := "ytpafnakefbnofae", sum := "dd613acd00e41dcbd25e803d3236c17ac8da2899518d637ea5a4cf261d11919c", func := "loop.example/arraylanguage/laws.FnScanAxisAdd", spec := "fnScanAxisAdd", unfollowed := true, recurses := true, apart := false }
def FnScanAxisAddSaid : Prop := fnScanAxisAddRow.holds Try.pinned (OpenSpec.ofChange fnScanAxisAddSpec)

/-- ITS FALSE NEIGHBOUR: 'it returns false'. Refute it at one input. -/
def fnScanAxisAddWrong : ChangeSpec := { name := "fnScanAxisAdd", fn := fun _ => fun
  | [d] => { results := [.lit (.bool false)], args := [d] }
  | _ => none }
def FnScanAxisAddWrongFalsely : Prop := fnScanAxisAddRow.holds Try.pinned (OpenSpec.ofChange fnScanAxisAddWrong)

/-- 'laws.FnOuterProduct': WHATEVER THE INPUT: true; the input reads as it did. -/
def fnOuterProductSpec : ChangeSpec := { name := "fnOuterProduct", fn := fun _ => fun
  | [d] => { results := [.lit (.bool true)], args := [d] }
  | _ => none }
def fnOuterProductRow : OpenClaim := { program := "ytpafnakefbnofae", sum := "dd613acd00e41dcbd25e803d3236c17ac8da2899518d637ea5a4cf261d11919c", func := "loop.example/arraylanguage/laws.FnOuterProduct", spec := "fnOuterProduct", unfollowed := true, recurses := true, apart := false }
def FnOuterProductSaid : Prop := fnOuterProductRow.holds Try.pinned (OpenSpec.ofChange fnOuterProductSpec)

/-- ITS FALSE NEIGHBOUR: 'it returns false'. Refute it at one input. -/
def fnOuterProductWrong : ChangeSpec := { name := "fnOuterProduct", fn := fun _ => fun
  | [d] => { results := [.lit (.bool false)], args := [d] }
  | _ => none }
def FnOuterProductWrongFalsely : Prop := fnOuterProductRow.holds Try.pinned (OpenSpec.ofChange fnOuterProductWrong)

/-- 'laws.FnOuterProductTurn': WHATEVER THE INPUT: true; the input reads as it did. -/
def fnOuterProductTurnSpec : ChangeSpec := { name := "fnOuterProductTurn", fn := fun _ => fun
  | [d] => { results := [.lit (.bool true)], args := [d] }
  | _ => none }
def fnOuterProductTurnRow : OpenClaim := { program := "ytpafnakefbnofae", sum := "dd613acd00e41dcbd25e803d3236c17ac8da2899518d637ea5a4cf261d11919c", func := "loop.example/arraylanguage/laws.FnOuterProductTurn", spec := "fnOuterProductTurn", unfollowed := true, recurses := true, apart := false }
def FnOuterProductTurnSaid : Prop := fnOuterProductTurnRow.holds Try.pinned (OpenSpec.ofChange fnOuterProductTurnSpec)

/-- ITS FALSE NEIGHBOUR: 'it returns false'. Refute it at one input. -/
def fnOuterProductTurnWrong : ChangeSpec := { name := "fnOuterProductTurn", fn := fun _ => fun
  | [d] => { results := [.lit (.bool false)], args := [d] }
  | _ => none }
def FnOuterProductTurnWrongFalsely : Prop := fnOuterProductTurnRow.holds Try.pinned (OpenSpec.ofChange fnOuterProductTurnWrong)

/-- 'laws.FnOuterProductOne': WHATEVER THE INPUT: true; the input reads as it did. -/
def fnOuterProductOneSpec : ChangeSpec := { name := "fnOuterProductOne", fn := fun _ => fun
  | [d] => { results := [.lit (.bool true)], args := [d] }
  | _ => none }
def fnOuterProductOneRow : OpenClaim := { program := "ytpafnakefbnofae", sum := "dd613acd00e41dcbd25e803d3236c17ac8da2899518d637ea5a4cf261d11919c", func := "loop.example/arraylanguage/laws.FnOuterProductOne", spec := "fnOuterProductOne", unfollowed := true, recurses := true, apart := false }
def FnOuterProductOneSaid : Prop := fnOuterProductOneRow.holds Try.pinned (OpenSpec.ofChange fnOuterProductOneSpec)

/-- ITS FALSE NEIGHBOUR: 'it returns false'. Refute it at one input. -/
def fnOuterProductOneWrong : ChangeSpec := { name := "fnOuterProductOne", fn := fun _ => fun
  | [d] => { results := [.lit (.bool false)], args := [d] }
  | _ => none }
def FnOuterProductOneWrongFalsely : Prop := fnOuterProductOneRow.holds Try.pinned (OpenSpec.ofChange fnOuterProductOneWrong)

/-- 'laws.FnInnerProduct': WHATEVER THE INPUT: true; the input reads as it did. -/
def fnInnerProductSpec : ChangeSpec := { name := "fnInnerProduct", fn := fun _ => fun
  | [d] => { results := [.lit (.bool true)], args := [d] }
  | _ => none }
def fnInnerProductRow : OpenClaim := { program := "ytpafnakefbnofae", sum := "dd613acd00e41dcbd25e803d3236c17ac8da2899518d637ea5a4cf261d11919c", func := "loop.example/arraylanguage/laws.FnInnerProduct", spec := "fnInnerProduct", unfollowed := true, recurses := true, apart := false }
def FnInnerProductSaid : Prop := fnInnerProductRow.holds Try.pinned (OpenSpec.ofChange fnInnerProductSpec)

/-- ITS FALSE NEIGHBOUR: 'it returns false'. Refute it at one input. -/
def fnInnerProductWrong : ChangeSpec := { name := "fnInnerProduct", fn := fun _ => fun
  | [d] => { results := [.lit (.bool false)], args := [d] }
  | _ => none }
def FnInnerProductWrongFalsely : Prop := fnInnerProductRow.holds Try.pinned (OpenSpec.ofChange fnInnerProductWrong)

/- THE SECOND FORM. 'bulk': how many values and letters a reading holds, each counted each time it is reached (what is shared counts as often as it is met; a slice's spare places count too). A statement '..UptoSaid' is the law's where the arguments, and the package variables that the reading takes, are together of bulk at most 1048576: NARROWER than '..Said'. Prove '..Said' where nothing that the law and all that it calls make is longer than what came in: it says more and counts as full. Else prove '..UptoSaid'. A law counts once. -/
mutual
def uptoBulk {H : Type} : DataW H → Nat
  | .lit (.string bytes) => bytes.length + 1
  | .lit _ => 1
  | .nil => 1
  | .ptr d => uptoBulk d + 1
  | .slice elems spare => uptoBulkAll elems + uptoBulkAll spare + 1
  | .agg parts => uptoBulkAll parts + 1
  | .iface _ d => uptoBulk d + 1
  | .map entries => uptoBulkEntries entries + 1
  | .held _ => 1
def uptoBulkAll {H : Type} : List (DataW H) → Nat
  | [] => 0
  | d :: r => uptoBulk d + uptoBulkAll r
def uptoBulkEntries {H : Type} : List (Lit × DataW H) → Nat
  | [] => 0
  | x :: r => uptoBulkEntry x + uptoBulkEntries r
def uptoBulkEntry {H : Type} : Lit × DataW H → Nat
  | (.string bytes, d) => bytes.length + uptoBulk d + 1
  | (_, d) => uptoBulk d + 1
 end
def uptoSmall : (H : Type) → List (DataW H) → Bool := fun _ ds => decide (uptoBulkAll ds ≤ 1048576)
def OpenSpec.upto (s : _root_.Go.ChangeSpec) : _root_.Go.OpenSpec := { _root_.Go.OpenSpec.ofChange s with cond := some uptoSmall }

/-- 'laws.FnNeutralOfReduce', WHERE WHAT IT READS IS OF BULK AT MOST 1048576: true; the input reads as it did. -/
def fnNeutralOfReduceUptoRow : OpenClaim := { program := "ytpafnakefbnofae", sum := "dd613acd00e41dcbd25e803d3236c17ac8da2899518d637ea5a4cf261d11919c", func := "loop.example/arraylanguage/laws.FnNeutralOfReduce", spec := "fnNeutralOfReduce", unfollowed := true, recurses := true, apart := false, narrowed := true }
def FnNeutralOfReduceUptoSaid : Prop := fnNeutralOfReduceUptoRow.holds Try.pinned (OpenSpec.upto fnNeutralOfReduceSpec)

/-- 'laws.FnScanAxisAdd', WHERE WHAT IT READS IS OF BULK AT MOST 1048576: true; the input reads as it did. -/
def fnScanAxisAddUptoRow : OpenClaim := { program := "ytpafnakefbnofae", sum := "dd613acd00e41dcbd25e803d3236c17ac8da2899518d637ea5a4cf261d11919c", func := "loop.example/arraylanguage/laws.FnScanAxisAdd", spec := "fnScanAxisAdd", unfollowed := true, recurses := true, apart := false, narrowed := true }
def FnScanAxisAddUptoSaid : Prop := fnScanAxisAddUptoRow.holds Try.pinned (OpenSpec.upto fnScanAxisAddSpec)

/-- 'laws.FnOuterProduct', WHERE WHAT IT READS IS OF BULK AT MOST 1048576: true; the input reads as it did. -/
def fnOuterProductUptoRow : OpenClaim := { program := "ytpafnakefbnofae", sum := "dd613acd00e41dcbd25e803d3236c17ac8da2899518d637ea5a4cf261d11919c", func := "loop.example/arraylanguage/laws.FnOuterProduct", spec := "fnOuterProduct", unfollowed := true, recurses := true, apart := false, narrowed := true }
def FnOuterProductUptoSaid : Prop := fnOuterProductUptoRow.holds Try.pinned (OpenSpec.upto fnOuterProductSpec)

/-- 'laws.FnOuterProductTurn', WHERE WHAT IT READS IS OF BULK AT MOST 1048576: true; the input reads as it did. -/
def fnOuterProductTurnUptoRow : OpenClaim := { program := "ytpafnakefbnofae", sum := "dd613acd00e41dcbd25e803d3236c17ac8da2899518d637ea5a4cf261d11919c", func := "loop.example/arraylanguage/laws.FnOuterProductTurn", spec := "fnOuterProductTurn", unfollowed := true, recurses := true, apart := false, narrowed := true }
def FnOuterProductTurnUptoSaid : Prop := fnOuterProductTurnUptoRow.holds Try.pinned (OpenSpec.upto fnOuterProductTurnSpec)

/-- 'laws.FnOuterProductOne', WHERE WHAT IT READS IS OF BULK AT MOST 1048576: true; the input reads as it did. -/
def fnOuterProductOneUptoRow : OpenClaim := { program := "ytpafnakefbnofae", sum := "dd613acd00e41dcbd25e803d3236c17ac8da2899518d637ea5a4cf261d11919c", func := "loop.example/arraylanguage/laws.FnOuterProductOne", spec := "fnOuterProductOne", unfollowed := true, recurses := true, apart := false, narrowed := true }
def FnOuterProductOneUptoSaid : Prop := fnOuterProductOneUptoRow.holds Try.pinned (OpenSpec.upto fnOuterProductOneSpec)

/-- 'laws.FnInnerProduct', WHERE WHAT IT READS IS OF BULK AT MOST 1048576: true; the input reads as it did. -/
def fnInnerProductUptoRow : OpenClaim := { program := "ytpafnakefbnofae", sum := "dd613acd00e41dcbd25e803d3236c17ac8da2899518d637ea5a4cf261d11919c", func := "loop.example/arraylanguage/laws.FnInnerProduct", spec := "fnInnerProduct", unfollowed := true, recurses := true, apart := false, narrowed := true }
def FnInnerProductUptoSaid : Prop := fnInnerProductUptoRow.holds Try.pinned (OpenSpec.upto fnInnerProductSpec)

end Rows
end Go.Proofs.Ytpafnakefbnofae
