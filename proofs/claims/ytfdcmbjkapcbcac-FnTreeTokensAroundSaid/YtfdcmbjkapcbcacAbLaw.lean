/-
  AN ABSTRACT LAYER, 23: from a function's meaning to a law's walk: it answers true and turns nothing that was there.
-/
import Derived.Test.YtfdcmbjkapcbcacAbPath
import Derived.Below
import Derived.OpenShut
import Derived.ChangeOld
namespace Go.Ab
variable {P : Program}
open Go.RowKit

theorem ResRep.true_inv {w : World} {N : Nat → Prop} {base : Nat} {us : List Value} {bs : List Nat} (h : ResRep P w N base [.one (.bool true, false)] us bs) : us = [.bool true] := by
  cases h with
  | @one c v rs vs bs bs' hc hd t =>
    cases t
    cases hc with
    | none h _ =>
      cases h.1
      rfl
    | some h _ _ => exact absurd h.2 (by simp)

/-- A law that its meaning calls true. -/
theorem law_walk {P : Program} {E : Entry} {xs : List XA} {vs : List Value} {w : World} {N : Nat → Prop} (hE : CallSpec P E) (hm : E.m xs = some ([.one (.bool true, false)], [])) (hN : ∀ b, N b → b < w.heap.size) (ha : ArgsRep P w N xs vs [] []) (hmt : E.meth = none := by rfl) :
    Calls P E.f vs.toArray w fun e w' => e = .returned (.bool true) ∧ Below w.heap.size w w' := by
  refine ((hE.calls w N xs vs [] [] _ _ hN ha hm).plain hmt).mono ?_
  rintro e w' ⟨us, N', obs, rfl, hk, _, _, hr, _⟩
  obtain rfl := hr.true_inv
  exact ⟨rfl, hk.os, hk.tape, hk.output, hk.size, fun k hlt => hk.block k hlt (by simp)⟩

theorem m_true {E : Entry} {xs : List XA} (h : E.pre xs = true) (hr : E.r xs = ([.one (.bool true, false)], [])) : E.m xs = some ([.one (.bool true, false)], []) := by
  unfold Entry.m
  rw [h, hr]
  rfl

section
open Go.ChangeShapes Go.WideShapes
variable {H : Type} {enc : TypeId × Value → H} {P : Program} {W : World} {r : Reach} {b0 : Nat}

theorem ints_rep' {t e : TypeId} {k : IntKind} {fuel : Nat} {v : Value} {x : DataW H × List MemPlace} (ht : P.underlying t = some (.slice e)) (he : P.underlying e = some (.int k)) (hc : P.cellsOf e = 1)
    (h : DataW.trod enc P W 0 (fun _ => true) true fuel t [v] = some x) : ∃ xs : List Int, RepD P W (fun b => b < W.heap.size) (.ints k xs) v ∧ xs.length < 9223372036854775808 ∧ ∀ n ∈ xs, (Lit.int k n).wf = true := by
  rcases open_ints ht he hc h with ⟨hcs, _⟩ | ⟨a, len, cap, zs, hcs, _, hl, hm, hz, _, hcell, hwf⟩
  · cases hcs
    exact ⟨[], .ints0 _ _ _, by simp, by simp⟩
  · cases hcs
    simp only [if_true] at hz
    by_cases h0 : len = 0
    · subst h0
      exact ⟨[], .ints0 _ _ _, by simp, by simp⟩
    · obtain ⟨b, off, rfl, hc2⟩ := ints_at hcell (by omega)
      have hlen : (zs.take len).length = len := by simp; omega
      have hb : b < W.heap.size := by
        rcases Nat.lt_or_ge b W.heap.size with h | h
        · exact h
        · have h5 := hc2 0 (by omega)
          simp [World.cell?, Array.getElem?_eq_none h] at h5
      have hml : len < 9223372036854775808 := by unfold maxLen at hm; omega
      refine ⟨zs.take len, ?_, by rw [hlen]; exact hml, fun n hn => hwf n (List.mem_of_mem_take hn)⟩
      have := RepD.ints (P := P) (w := W) (N := fun b => b < W.heap.size) k (zs.take len) b off cap hb (by omega) (fun i hi => by
        rw [hc2 i (by omega)]
        have hi2 : i < zs.length := by omega
        simp [hi2])
      rw [hlen] at this
      exact this

theorem ints_rep {t e : TypeId} {k : IntKind} {fuel : Nat} {v : Value} {x : DataW H × List MemPlace} (ht : P.underlying t = some (.slice e)) (he : P.underlying e = some (.int k)) (hc : P.cellsOf e = 1)
    (h : DataW.trod enc P W 0 (fun _ => true) true fuel t [v] = some x) : ∃ xs : List Int, RepD P W (fun b => b < W.heap.size) (.ints k xs) v ∧ xs.length < 9223372036854775808 := by
  obtain ⟨xs, h1, h2, _⟩ := ints_rep' ht he hc h
  exact ⟨xs, h1, h2⟩

theorem open_bytes_rep {t e : TypeId} {v : Value} {d : DataW H} {p : List MemPlace} (ht : P.underlying t = some (.slice e)) (he : P.underlying e = some (.int .u8)) (hc : P.cellsOf e = 1)
    (hval : Value.okWide P W r b0 t v) (h : DataW.Trod enc P W 0 (fun _ => true) true t v d p) : ∃ xs : List Int, RepD P W (fun b => b < W.heap.size) (.ints .u8 xs) v ∧ ∀ n ∈ xs, 0 ≤ n ∧ n ≤ 255 := by
  obtain ⟨a0, len, cap, rfl⟩ := okWide_slice ht hval
  obtain ⟨fuel, hf⟩ := h
  obtain ⟨xs, h1, _, h3⟩ := ints_rep' ht he hc (by simpa [Value.cells] using hf)
  exact ⟨xs, h1, fun n hn => bounds_u8 (h3 n hn)⟩

theorem open_ints_rep {t e : TypeId} {k : IntKind} {v : Value} {d : DataW H} {p : List MemPlace} (ht : P.underlying t = some (.slice e)) (he : P.underlying e = some (.int k)) (hc : P.cellsOf e = 1)
    (hval : Value.okWide P W r b0 t v) (h : DataW.Trod enc P W 0 (fun _ => true) true t v d p) : ∃ xs : List Int, RepD P W (fun b => b < W.heap.size) (.ints k xs) v ∧ xs.length < 9223372036854775808 := by
  obtain ⟨a0, len, cap, rfl⟩ := okWide_slice ht hval
  obtain ⟨fuel, hf⟩ := h
  exact ints_rep ht he hc (by simpa [Value.cells] using hf)

/-- A struct of two slices of integers. -/
theorem open_array_rep {t s e : TypeId} {k : IntKind} {f0 f1 : Field} {v : Value} {d : DataW H} {p : List MemPlace} (hu : P.underlying t = some (.struct #[f0, f1])) (h0 : f0.type = s ∧ f0.offset = 0) (h1 : f1.type = s ∧ f1.offset = 1)
    (hn : P.cellsOf t = 2) (hs : P.cellsOf s = 1) (ht : P.underlying s = some (.slice e)) (he : P.underlying e = some (.int k)) (hc : P.cellsOf e = 1)
    (hval : Value.okWide P W r b0 t v) (h : DataW.Trod enc P W 0 (fun _ => true) true t v d p) :
    ∃ sh da : List Int, RepD P W (fun b => b < W.heap.size) (.agg [.ints k sh, .ints k da]) v ∧ sh.length < 9223372036854775808 ∧ da.length < 9223372036854775808 := by
  obtain ⟨cs, rfl, hsz⟩ := okWide_struct hu hval
  rw [hn] at hsz
  obtain ⟨c0, c1, rfl⟩ : ∃ c0 c1, cs = #[c0, c1] := by
    refine ⟨cs[0], cs[1], ?_⟩
    apply Array.ext
    · simpa using hsz
    · intro i hi hi2
      match i with
      | 0 => rfl
      | 1 => rfl
      | i + 2 => simp at hi2; omega
  obtain ⟨fuel, hf⟩ := h
  obtain ⟨xs, n, rfl, hx, hl, hxl, hfs⟩ := DataW.trod_struct hu hf
  have g0 := hfs 0 f0 rfl
  have g1 := hfs 1 f1 rfl
  rw [h0.1, h0.2, hs] at g0
  rw [h1.1, h1.2, hs] at g1
  simp only [Value.cells, List.drop_zero, List.take_succ_cons, List.take_zero, List.drop_succ_cons] at g0 g1
  simp at hxl
  rw [List.getElem?_eq_getElem (by omega)] at g0 g1
  obtain ⟨sh, r0, l0⟩ := ints_rep ht he hc g0
  obtain ⟨da, r1, l1⟩ := ints_rep ht he hc g1
  refine ⟨sh, da, .agg _ _ rfl fun i hi => ?_, l0, l1⟩
  match i with
  | 0 => exact r0
  | 1 => exact r1
  | i + 2 => simp at hi; omega
end
end Go.Ab
