/-
  AN ABSTRACT LAYER, 23: from a function's meaning to a law's walk: it answers true and turns nothing that was there.
-/
import Derived.Test.YtkokedeomdkoeaaAbPath
import Derived.Below
namespace Go.Ab
open Go.RowKit

theorem ResRep.true_inv {w : World} {N : Nat → Prop} {base : Nat} {us : List Value} {bs : List Nat} (h : ResRep w N base [.one (.bool true, false)] us bs) : us = [.bool true] := by
  cases h with
  | @one c v rs vs bs bs' hc hd t =>
    cases t
    cases hc with
    | none h _ =>
      cases h.1
      rfl
    | some h _ _ => exact absurd h.2 (by simp)

/-- A law that its meaning calls true. -/
theorem law_walk {P : Program} {E : Entry} {xs : List XA} {vs : List Value} {w : World} {N : Nat → Prop} (hE : CallSpec P E) (hm : E.m xs = some ([.one (.bool true, false)], [])) (hN : ∀ b, N b → b < w.heap.size) (ha : ArgsRep w N xs vs [] []) :
    Calls P E.f vs.toArray w fun e w' => e = .returned (.bool true) ∧ Below w.heap.size w w' := by
  refine (hE.calls w N xs vs [] [] _ _ hN ha hm).mono ?_
  rintro e w' ⟨us, N', obs, rfl, hk, _, _, hr, _⟩
  obtain rfl := hr.true_inv
  exact ⟨rfl, hk.os, hk.tape, hk.output, hk.size, fun k hlt => hk.block k hlt (by simp)⟩
end Go.Ab
