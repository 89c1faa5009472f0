/-
  NARROWER THAN 'FOR EVERY INPUT', by the rows' own cells (each row's printed sentence says how): FnExactValidTree: loops · FnExactTreeTokens: loops.
  DERIVED. THE GIVEN ROWS OF THIS SEAT. 5 by the template 'for every input the law returns true; each argument reads behind the call as it read before'; 0 by the template 'total and deterministic' (their statements: YtfdcmbjkapcbcabTotals.lean).
  GIVEN WITH THE SEED: the statements are not yours to turn. If you find one false, say at which input.
  Laid BY PROGRAM, IN A SANDBOX (cutbox-rows.mjs): the forced cells as the released guide's own fill.sh prints them over the translation deee7fe043588dc2… (all of the seat's roots in one cut). By AI agents, Wed Nov 11 2026. No macro, syntax, notation, axiom, sorry.
-/
import Derived.Test.YtfdcmbjkapcbcabChecked
import GoSem.Claim
import GoSem.ClaimJoined
import GoSem.ClaimMapViews
import Derived.JoinedTies
import Derived.KernelRfl
namespace Go.Proofs.Ytfdcmbjkapcbcab
/- THE CELL 'sum', in the pinned program and in every row, IS THE sha256 OF THE DUMP (.gsa) THAT YtfdcmbjkapcbcabProg.lean LOADS. Nothing in Lean hashes anything: it is a label: what it is worth is what the hold of that sum in a sandbox is worth. -/
noncomputable def Try.pinned : Pinned := { name := "ytfdcmbjkapcbcab", sum := "deee7fe043588dc2f40541833f7285709507c2dd49cd2f5e9cf0fe41c1d3ac23", checked := Try.checked }
namespace Rows
def none {H : Type} : Left H := { results := [], args := [] }

/-- 'laws.FnTokensOfSpaces': WHATEVER THE INPUT: true; the input reads as it did. -/
def fnTokensOfSpacesSpec : ChangeSpec := { name := "fnTokensOfSpaces", fn := fun _ => fun
  | [d] => { results := [.lit (.bool true)], args := [d] }
  | _ => none }
def fnTokensOfSpacesRow : OpenClaim := { program := "ytfdcmbjkapcbcab", sum := "deee7fe043588dc2f40541833f7285709507c2dd49cd2f5e9cf0fe41c1d3ac23", func := "loop.example/arraylanguage/laws.FnTokensOfSpaces", spec := "fnTokensOfSpaces", inPlace := ["internal/bytealg.IndexByteString"], recurses := true, apart := false }
def FnTokensOfSpacesSaid : Prop := fnTokensOfSpacesRow.holds Try.pinned (OpenSpec.ofChange fnTokensOfSpacesSpec)

/-- ITS FALSE NEIGHBOUR: 'it returns false'. Refute it at one input. -/
def fnTokensOfSpacesWrong : ChangeSpec := { name := "fnTokensOfSpaces", fn := fun _ => fun
  | [d] => { results := [.lit (.bool false)], args := [d] }
  | _ => none }
def FnTokensOfSpacesWrongFalsely : Prop := fnTokensOfSpacesRow.holds Try.pinned (OpenSpec.ofChange fnTokensOfSpacesWrong)

/-- 'laws.FnTokensOfJoin': WHATEVER THE INPUT: true; the input reads as it did. -/
def fnTokensOfJoinSpec : ChangeSpec := { name := "fnTokensOfJoin", fn := fun _ => fun
  | [d] => { results := [.lit (.bool true)], args := [d] }
  | _ => none }
def fnTokensOfJoinRow : OpenClaim := { program := "ytfdcmbjkapcbcab", sum := "deee7fe043588dc2f40541833f7285709507c2dd49cd2f5e9cf0fe41c1d3ac23", func := "loop.example/arraylanguage/laws.FnTokensOfJoin", spec := "fnTokensOfJoin", inPlace := ["internal/bytealg.IndexByteString"], recurses := true, apart := false }
def FnTokensOfJoinSaid : Prop := fnTokensOfJoinRow.holds Try.pinned (OpenSpec.ofChange fnTokensOfJoinSpec)

/-- ITS FALSE NEIGHBOUR: 'it returns false'. Refute it at one input. -/
def fnTokensOfJoinWrong : ChangeSpec := { name := "fnTokensOfJoin", fn := fun _ => fun
  | [d] => { results := [.lit (.bool false)], args := [d] }
  | _ => none }
def FnTokensOfJoinWrongFalsely : Prop := fnTokensOfJoinRow.holds Try.pinned (OpenSpec.ofChange fnTokensOfJoinWrong)

/-- 'laws.FnExactValidTree': WHATEVER THE INPUT: true; the input reads as it did. -/
def fnExactValidTreeSpec : ChangeSpec := { name := "fnExactValidTree", fn := fun _ => fun
  | [d] => { results := [.lit (.bool true)], args := [d] }
  | _ => none }
def fnExactValidTreeRow : OpenClaim := { program := "ytfdcmbjkapcbcab", sum := "deee7fe043588dc2f40541833f7285709507c2dd49cd2f5e9cf0fe41c1d3ac23", func := "loop.example/arraylanguage/laws.FnExactValidTree", spec := "fnExactValidTree", unfollowed := true, recurses := true, loops := true, apart := false }
def FnExactValidTreeSaid : Prop := fnExactValidTreeRow.holds Try.pinned (OpenSpec.ofChange fnExactValidTreeSpec)

/-- ITS FALSE NEIGHBOUR: 'it returns false'. Refute it at one input. -/
def fnExactValidTreeWrong : ChangeSpec := { name := "fnExactValidTree", fn := fun _ => fun
  | [d] => { results := [.lit (.bool false)], args := [d] }
  | _ => none }
def FnExactValidTreeWrongFalsely : Prop := fnExactValidTreeRow.holds Try.pinned (OpenSpec.ofChange fnExactValidTreeWrong)

/-- 'laws.FnExactParseTokens': WHATEVER THE INPUT: true; the input reads as it did. -/
def fnExactParseTokensSpec : ChangeSpec := { name := "fnExactParseTokens", fn := fun _ => fun
  | [d] => { results := [.lit (.bool true)], args := [d] }
  | _ => none }
def fnExactParseTokensRow : OpenClaim := { program := "ytfdcmbjkapcbcab", sum := "deee7fe043588dc2f40541833f7285709507c2dd49cd2f5e9cf0fe41c1d3ac23", func := "loop.example/arraylanguage/laws.FnExactParseTokens", spec := "fnExactParseTokens", unfollowed := true, recurses := true, apart := false }
def FnExactParseTokensSaid : Prop := fnExactParseTokensRow.holds Try.pinned (OpenSpec.ofChange fnExactParseTokensSpec)

/-- ITS FALSE NEIGHBOUR: 'it returns false'. Refute it at one input. -/
def fnExactParseTokensWrong : ChangeSpec := { name := "fnExactParseTokens", fn := fun _ => fun
  | [d] => { results := [.lit (.bool false)], args := [d] }
  | _ => none }
def FnExactParseTokensWrongFalsely : Prop := fnExactParseTokensRow.holds Try.pinned (OpenSpec.ofChange fnExactParseTokensWrong)

/-- 'laws.FnExactTreeTokens': WHATEVER THE INPUT: true; the input reads as it did. -/
def fnExactTreeTokensSpec : ChangeSpec := { name := "fnExactTreeTokens", fn := fun _ => fun
  | [d] => { results := [.lit (.bool true)], args := [d] }
  | _ => none }
def fnExactTreeTokensRow : OpenClaim := { program := "ytfdcmbjkapcbcab", sum := "deee7fe043588dc2f40541833f7285709507c2dd49cd2f5e9cf0fe41c1d3ac23", func := "loop.example/arraylanguage/laws.FnExactTreeTokens", spec := "fnExactTreeTokens", unfollowed := true, recurses := true, loops := true, apart := false }
def FnExactTreeTokensSaid : Prop := fnExactTreeTokensRow.holds Try.pinned (OpenSpec.ofChange fnExactTreeTokensSpec)

/-- ITS FALSE NEIGHBOUR: 'it returns false'. Refute it at one input. -/
def fnExactTreeTokensWrong : ChangeSpec := { name := "fnExactTreeTokens", fn := fun _ => fun
  | [d] => { results := [.lit (.bool false)], args := [d] }
  | _ => none }
def FnExactTreeTokensWrongFalsely : Prop := fnExactTreeTokensRow.holds Try.pinned (OpenSpec.ofChange fnExactTreeTokensWrong)

/- THE SECOND FORM. 'bulk': how many values and letters a reading holds, each counted each time it is reached (what is shared counts as often as it is met; a slice's spare places count too). A statement '..UptoSaid' is the law's where the arguments, and the package variables that the reading takes, are together of bulk at most 1048576: NARROWER than '..Said'. Prove '..Said' where nothing that the law and all that it calls make is longer than what came in: it says more and counts as full. Else prove '..UptoSaid'. A law counts once. -/
mutual
def uptoBulk {H : Type} : DataW H → Nat
  | .lit (.string bytes) => bytes.length + 1
  | .lit _ => 1
  | .nil => 1
  | .ptr d => uptoBulk d + 1
  | .slice elems spare => uptoBulkAll elems + uptoBulkAll spare + 1
  | .agg parts => uptoBulkAll parts + 1
  | .iface _ d => uptoBulk d + 1
  | .map entries => uptoBulkEntries entries + 1
  | .held _ => 1
def uptoBulkAll {H : Type} : List (DataW H) → Nat
  | [] => 0
  | d :: r => uptoBulk d + uptoBulkAll r
def uptoBulkEntries {H : Type} : List (Lit × DataW H) → Nat
  | [] => 0
  | x :: r => uptoBulkEntry x + uptoBulkEntries r
def uptoBulkEntry {H : Type} : Lit × DataW H → Nat
  | (.string bytes, d) => bytes.length + uptoBulk d + 1
  | (_, d) => uptoBulk d + 1
 end
def uptoSmall : (H : Type) → List (DataW H) → Bool := fun _ ds => decide (uptoBulkAll ds ≤ 1048576)
def OpenSpec.upto (s : _root_.Go.ChangeSpec) : _root_.Go.OpenSpec := { _root_.Go.OpenSpec.ofChange s with cond := some uptoSmall }

/-- 'laws.FnTokensOfSpaces', WHERE WHAT IT READS IS OF BULK AT MOST 1048576: true; the input reads as it did. -/
def fnTokensOfSpacesUptoRow : OpenClaim := { program := "ytfdcmbjkapcbcab", sum := "deee7fe043588dc2f40541833f7285709507c2dd49cd2f5e9cf0fe41c1d3ac23", func := "loop.example/arraylanguage/laws.FnTokensOfSpaces", spec := "fnTokensOfSpaces", inPlace := ["internal/bytealg.IndexByteString"], recurses := true, apart := false, narrowed := true }
def FnTokensOfSpacesUptoSaid : Prop := fnTokensOfSpacesUptoRow.holds Try.pinned (OpenSpec.upto fnTokensOfSpacesSpec)

/-- 'laws.FnTokensOfJoin', WHERE WHAT IT READS IS OF BULK AT MOST 1048576: true; the input reads as it did. -/
def fnTokensOfJoinUptoRow : OpenClaim := { program := "ytfdcmbjkapcbcab", sum := "deee7fe043588dc2f40541833f7285709507c2dd49cd2f5e9cf0fe41c1d3ac23", func := "loop.example/arraylanguage/laws.FnTokensOfJoin", spec := "fnTokensOfJoin", inPlace := ["internal/bytealg.IndexByteString"], recurses := true, apart := false, narrowed := true }
def FnTokensOfJoinUptoSaid : Prop := fnTokensOfJoinUptoRow.holds Try.pinned (OpenSpec.upto fnTokensOfJoinSpec)

/-- 'laws.FnExactValidTree', WHERE WHAT IT READS IS OF BULK AT MOST 1048576: true; the input reads as it did. -/
def fnExactValidTreeUptoRow : OpenClaim := { program := "ytfdcmbjkapcbcab", sum := "deee7fe043588dc2f40541833f7285709507c2dd49cd2f5e9cf0fe41c1d3ac23", func := "loop.example/arraylanguage/laws.FnExactValidTree", spec := "fnExactValidTree", unfollowed := true, recurses := true, loops := true, apart := false, narrowed := true }
def FnExactValidTreeUptoSaid : Prop := fnExactValidTreeUptoRow.holds Try.pinned (OpenSpec.upto fnExactValidTreeSpec)

/-- 'laws.FnExactParseTokens', WHERE WHAT IT READS IS OF BULK AT MOST 1048576: true; the input reads as it did. -/
def fnExactParseTokensUptoRow : OpenClaim := { program := "ytfdcmbjkapcbcab", sum := "deee7fe043588dc2f40541833f7285709507c2dd49cd2f5e9cf0fe41c1d3ac23", func := "loop.example/arraylanguage/laws.FnExactParseTokens", spec := "fnExactParseTokens", unfollowed := true, recurses := true, apart := false, narrowed := true }
def FnExactParseTokensUptoSaid : Prop := fnExactParseTokensUptoRow.holds Try.pinned (OpenSpec.upto fnExactParseTokensSpec)

/-- 'laws.FnExactTreeTokens', WHERE WHAT IT READS IS OF BULK AT MOST 1048576: true; the input reads as it did. -/
def fnExactTreeTokensUptoRow : OpenClaim := { program := "ytfdcmbjkapcbcab", sum := "deee7fe043588dc2f40541833f7285709507c2dd49cd2f5e9cf0fe41c1d3ac23", func := "loop.example/arraylanguage/laws.FnExactTreeTokens", spec := "fnExactTreeTokens", unfollowed := true, recurses := true, loops := true, apart := false, narrowed := true }
def FnExactTreeTokensUptoSaid : Prop := fnExactTreeTokensUptoRow.holds Try.pinned (OpenSpec.upto fnExactTreeTokensSpec)

end Rows
end Go.Proofs.Ytfdcmbjkapcbcab
