/-
  AN ABSTRACT LAYER, 12: what comes back from a call, taken over cell by cell.
-/
import Derived.Test.YtfdcmbjkapcbcacAbCall
namespace Go.Ab
variable {P : Program}

section
variable {P : Program} {w : World} {w0 : World} {S N0 : Nat → Prop}

theorem CellRep.notN {N : Nat → Prop} {base : Nat} {c : Cell} {v : Value} {b : Nat} (h : CellRep P w N base c v (some b)) : ¬ N b ∧ base ≤ b := by
  obtain ⟨d, o⟩ := c
  cases o
  · exact absurd h.2 (by simp)
  · cases d with
    | ints k xs =>
      rcases h with ⟨h, _⟩ | ⟨b', arr, e, cap, h1, h2, h3, h4⟩
      · cases h
      · cases h1; exact ⟨h3, h2⟩
    | seq s xs =>
      obtain ⟨h0, ⟨h, _⟩ | ⟨b', arr, e, cap, h1, h2, h3, h4⟩⟩ := h
      · cases h
      · cases h1; exact ⟨h3, h2⟩
    | _ => exact h.elim

theorem CellsRep.notN {N : Nat → Prop} {base : Nat} {cs : List Cell} {us : List Value} {bs : List Nat} (h : CellsRep P w N base cs us bs) : ∀ b ∈ bs, ¬ N b ∧ base ≤ b := by
  induction h with
  | nil => simp
  | none _ _ ih => exact ih
  | some h hb _ ih =>
    intro b hm
    rcases List.mem_cons.1 hm with rfl | hm
    · exact h.notN
    · exact ih b hm

theorem CellsRep.step {N N' : Nat → Prop} {base : Nat} {cs : List Cell} {us : List Value} {bs : List Nat} (h : CellsRep P w N base cs us bs) (hN : ∀ b, N b → N' b) (hb : ∀ b ∈ bs, ¬ N' b) : CellsRep P w N' base cs us bs := by
  induction h with
  | nil => exact .nil
  | none h _ ih => exact .none (h.step hN (by simp)) (ih hb)
  | some h hb' _ ih => exact .some (h.step hN fun b e => by cases e; exact hb _ (by simp)) hb' (ih fun b hm => hb b (by simp [hm]))

theorem CellsRep.less {N N' : Nat → Prop} {base : Nat} {cs : List Cell} {us : List Value} {bs : List Nat} (h : CellsRep P w N base cs us bs) (hf : cs.all Cell.free = true) (hN : ∀ b, N' b → N b) : CellsRep P w N' base cs us bs := by
  induction h with
  | nil => exact .nil
  | none h _ ih => simp at hf; exact .none (h.less hf.1 hN) (ih (by simpa using hf.2))
  | some h hb' _ ih => simp at hf; exact .some (h.less hf.1 hN) hb' (ih (by simpa using hf.2))

theorem CellsRep.length {N : Nat → Prop} {base : Nat} {cs : List Cell} {us : List Value} {bs : List Nat} (h : CellsRep P w N base cs us bs) : us.length = cs.length := by
  induction h with
  | nil => rfl
  | none _ _ ih => simp [ih]
  | some _ _ _ ih => simp [ih]

theorem cellsBack_sound {base : Nat} {pol : Bool} (hbase : w0.heap.size ≤ base) : ∀ (cs : List Cell) (us : List Value) (bs : List Nat) (n : Nat) (N : Nat → Prop) (ι : Place) (H : Heap) (xs : List AV) (n' : Nat) (H' : Heap),
    Inv P w0 S N0 H w N ι → CellsRep P w N base cs us bs → (∀ b ∈ bs, ¬ Taken H ι b) → cellsBack pol cs n H = some (xs, n', H') →
    ∃ N' ι', Inv P w0 S N0 H' w N' ι' ∧ Fwd N ι H w N' ι' H' w ∧ xs.length = us.length ∧ (∀ i (hi : i < xs.length) (hu : i < us.length), RepA P w N' H' ι' xs[i] us[i]) ∧ (∀ b, N' b → N b ∨ b ∈ bs) ∧ (∀ b, Taken H' ι' b → Taken H ι b ∨ b ∈ bs) := by
  intro cs
  induction cs with
  | nil =>
    intro us bs n N ι H xs n' H' hI hc ht h
    cases hc
    simp [cellsBack] at h
    obtain ⟨rfl, rfl, rfl⟩ := h
    exact ⟨N, ι, hI, Fwd.refl _ _ _ _, rfl, by simp, fun b h => .inl h, fun b h => .inl h⟩
  | cons c cs ih =>
    intro us bs n N ι H xs n' H' hI hc ht h
    simp only [cellsBack, Option.bind_eq_some_iff, Option.map_eq_some_iff] at h
    obtain ⟨⟨x, H1⟩, h1, ⟨xs', n1, H2⟩, h2, h3⟩ := h
    simp only [Prod.mk.injEq] at h3
    obtain ⟨rfl, rfl, rfl⟩ := h3
    obtain ⟨v, us', ob, bs', hv, rfl, hbs, hob, hrest⟩ : ∃ v us' ob bs', CellRep P w N base c v ob ∧ us = v :: us' ∧ bs = ob.toList ++ bs' ∧ (∀ b, ob = some b → b ∉ bs') ∧ CellsRep P w N base cs us' bs' := by
      cases hc with
      | none h t => exact ⟨_, _, none, _, h, rfl, rfl, by simp, t⟩
      | some h hb t => exact ⟨_, _, some _, _, h, rfl, rfl, fun b e => by cases e; exact hb, t⟩
    subst hbs
    obtain ⟨N1, ι1, g1, g2, g3, g4, g5⟩ := cellBack_sound hI hbase hv (fun b e => ht b (by simp [e])) h1
    have hrest' : CellsRep P w N1 base cs us' bs' := hrest.step g2.hN fun b hb hn => by
      rcases g4 b hn with hn | he
      · exact (hrest.notN b hb).1 hn
      · exact hob b he hb
    obtain ⟨N2, ι2, q1, q2, q3, q4, q5, q6⟩ := ih us' bs' (n + 1) N1 ι1 H1 xs' _ _ g1 hrest' (fun b hb htk => by
      rcases g5 b htk with h | he
      · exact ht b (by simp [hb]) h
      · exact hob b he hb) h2
    refine ⟨N2, ι2, q1, g2.trans q2, by simp [q3], fun i hi hu => ?_, fun b hb => ?_, fun b hb => ?_⟩
    · cases i with
      | zero => exact g3.fwd q2
      | succ i => simpa using q4 i (by simpa using hi) (by simpa using hu)
    · rcases q5 b hb with hb | hb
      · rcases g4 b hb with hb | hb
        · exact .inl hb
        · exact .inr (by simp [hb])
      · exact .inr (by simp [hb])
    · rcases q6 b hb with hb | hb
      · rcases g5 b hb with hb | hb
        · exact .inl hb
        · exact .inr (by simp [hb])
      · exact .inr (by simp [hb])

theorem ResRep.notN {N : Nat → Prop} {base : Nat} {rs : List XR} {us : List Value} {bs : List Nat} (h : ResRep P w N base rs us bs) : ∀ b ∈ bs, ¬ N b ∧ base ≤ b := by
  induction h with
  | nil => simp
  | one h _ _ ih => intro b hb; rcases List.mem_append.1 hb with hb | hb; exact h.notN b hb; exact ih b hb
  | agg h _ _ ih => intro b hb; rcases List.mem_append.1 hb with hb | hb; exact h.notN b hb; exact ih b hb
  | box hg hb hN _ _ h _ _ ih =>
    intro b hm
    rcases List.mem_cons.1 hm with rfl | hm
    · exact ⟨hN, hb⟩
    · rcases List.mem_append.1 hm with hm | hm
      · exact h.notN b hm
      · exact ih b hm

theorem ResRep.step {N N' : Nat → Prop} {base : Nat} {rs : List XR} {us : List Value} {bs : List Nat} (h : ResRep P w N base rs us bs) (hN : ∀ b, N b → N' b) (hb : ∀ b ∈ bs, ¬ N' b) : ResRep P w N' base rs us bs := by
  induction h with
  | nil => exact .nil
  | one h hd _ ih => exact .one (h.step hN fun b hm => hb b (by simp [hm])) hd (ih fun b hm => hb b (by simp [hm]))
  | agg h hd _ ih => exact .agg (h.step hN fun b hm => hb b (by simp [hm])) hd (ih fun b hm => hb b (by simp [hm]))
  | box hg h1 h2 h3 h4 h5 h6 _ ih => exact .box hg h1 (hb _ (by simp)) h3 h4 (h5.step hN fun b hm => hb b (by simp [hm])) h6 (ih fun b hm => hb b (by simp [hm]))

theorem ResRep.less {N N' : Nat → Prop} {base : Nat} {rs : List XR} {us : List Value} {bs : List Nat} (h : ResRep P w N base rs us bs) (hf : (rs.all fun r => r.cells.all Cell.free) = true) (hN : ∀ b, N' b → N b) : ResRep P w N' base rs us bs := by
  induction h with
  | nil => exact .nil
  | one h hd _ ih => simp only [List.all_cons, Bool.and_eq_true] at hf; exact .one (h.less hf.1 hN) hd (ih hf.2)
  | agg h hd _ ih => simp only [List.all_cons, Bool.and_eq_true] at hf; exact .agg (h.less hf.1 hN) hd (ih hf.2)
  | box hg h1 h2 h3 h4 h5 h6 _ ih => simp only [List.all_cons, Bool.and_eq_true] at hf; exact .box hg h1 (fun h => h2 (hN _ h)) h3 h4 (h5.less hf.1 hN) h6 (ih hf.2)

theorem resBack_sound {base : Nat} {pol : Bool} (hbase : w0.heap.size ≤ base) : ∀ (rs : List XR) (us : List Value) (bs : List Nat) (n : Nat) (N : Nat → Prop) (ι : Place) (H : Heap) (xs : List AV) (H' : Heap),
    Inv P w0 S N0 H w N ι → ResRep P w N base rs us bs → (∀ b ∈ bs, ¬ Taken H ι b) → resBack pol rs n H = some (xs, H') →
    ∃ N' ι', Inv P w0 S N0 H' w N' ι' ∧ Fwd N ι H w N' ι' H' w ∧ xs.length = us.length ∧ (∀ i (hi : i < xs.length) (hu : i < us.length), RepA P w N' H' ι' xs[i] us[i]) := by
  intro rs
  induction rs with
  | nil =>
    intro us bs n N ι H xs H' hI hc ht h
    cases hc
    simp [resBack] at h
    obtain ⟨rfl, rfl⟩ := h
    exact ⟨N, ι, hI, Fwd.refl _ _ _ _, rfl, by simp⟩
  | cons r rs ih =>
    intro us bs n N ι H xs H' hI hc ht h
    -- what is behind the first
    have fin : ∀ {v : Value} {us' : List Value} {bs1 bs' : List Nat} {N1 : Nat → Prop} {ι1 : Place} {H1 : Heap} {x : AV} {xs' : List AV} {n1 : Nat}, Inv P w0 S N0 H1 w N1 ι1 → Fwd N ι H w N1 ι1 H1 w → RepA P w N1 H1 ι1 x v →
        (∀ b, N1 b → N b ∨ b ∈ bs1) → (∀ b, Taken H1 ι1 b → Taken H ι b ∨ b ∈ bs1) → (∀ b ∈ bs1, b ∉ bs') → (∀ b ∈ bs', ¬ Taken H ι b) → ResRep P w N base rs us' bs' → resBack pol rs n1 H1 = some (xs', H') →
        ∃ N' ι', Inv P w0 S N0 H' w N' ι' ∧ Fwd N ι H w N' ι' H' w ∧ (x :: xs').length = (v :: us').length ∧ (∀ i (hi : i < (x :: xs').length) (hu : i < (v :: us').length), RepA P w N' H' ι' (x :: xs')[i] (v :: us')[i]) := by
      intro v us' bs1 bs' N1 ι1 H1 x xs' n1 g1 g2 g3 g4 g5 hd ht' hrest h2
      have hrest' : ResRep P w N1 base rs us' bs' := hrest.step g2.hN fun b hb hn => by
        rcases g4 b hn with hn | he
        · exact (hrest.notN b hb).1 hn
        · exact hd b he hb
      obtain ⟨N2, ι2, q1, q2, q3, q4⟩ := ih us' bs' n1 N1 ι1 H1 xs' H' g1 hrest' (fun b hb htk => by
        rcases g5 b htk with h | he
        · exact ht' b hb h
        · exact hd b he hb) h2
      refine ⟨N2, ι2, q1, g2.trans q2, by simp [q3], fun i hi hu => ?_⟩
      cases i with
      | zero => exact g3.fwd q2
      | succ i => simpa using q4 i (by simpa using hi) (by simpa using hu)
    cases hc with
    | @one c v _ us' bs1 bs' hcs hd hrest =>
      simp only [resBack, Option.bind_eq_some_iff, Option.map_eq_some_iff] at h
      obtain ⟨⟨x, H1⟩, h1, ⟨xs', H2⟩, h2, h3⟩ := h
      simp only [Prod.mk.injEq] at h3
      obtain ⟨rfl, rfl⟩ := h3
      obtain ⟨ob, hv, hbs⟩ : ∃ ob, CellRep P w N base c v ob ∧ bs1 = ob.toList := by
        cases hcs with
        | none h t => cases t; exact ⟨none, h, rfl⟩
        | some h hb t => cases t; exact ⟨some _, h, rfl⟩
      subst hbs
      obtain ⟨N1, ι1, g1, g2, g3, g4, g5⟩ := cellBack_sound hI hbase hv (fun b e => ht b (by simp [e])) h1
      exact fin g1 g2 g3 (fun b hb => (g4 b hb).imp id fun e => by simp [e]) (fun b hb => (g5 b hb).imp id fun e => by simp [e]) hd (fun b hb => ht b (by simp [hb])) hrest h2
    | @agg cs vs _ us' bs1 bs' hcs hd hrest =>
      simp only [resBack, Option.bind_eq_some_iff, Option.map_eq_some_iff] at h
      obtain ⟨⟨ys, n1, H1⟩, h1, ⟨xs', H2⟩, h2, h3⟩ := h
      simp only [Prod.mk.injEq] at h3
      obtain ⟨rfl, rfl⟩ := h3
      obtain ⟨N1, ι1, g1, g2, g3, g4, g5, g6⟩ := cellsBack_sound hbase cs vs bs1 n N ι H ys n1 H1 hI hcs (fun b hb => ht b (by simp [hb])) h1
      exact fin g1 g2 (.agg (by simpa using g3.symm) fun i hi => by
        have := g4 i hi (by omega)
        simpa [show i < vs.length by omega] using this) g5 g6 hd (fun b hb => ht b (by simp [hb])) hrest h2
    | @box cs arr e b _ us' bs1 bs' hg hb hN hb1 hb2 hcs hd hrest =>
      simp only [resBack, Option.bind_eq_some_iff] at h
      obtain ⟨⟨ys, n1, H1⟩, h1, h2⟩ := h
      split at h2
      case h_2 => simp at h2
      rename_i hn
      simp only [Option.map_eq_some_iff] at h2
      obtain ⟨⟨xs', H2⟩, h2, h3⟩ := h2
      simp only [Prod.mk.injEq] at h3
      obtain ⟨rfl, rfl⟩ := h3
      obtain ⟨N1, ι1, g1, g2, g3, g4, g5, g6⟩ := cellsBack_sound hbase cs arr.toList bs1 n N ι H ys n1 H1 hI hcs (fun b hb => ht b (by simp [hb])) h1
      simp at hn
      have htb : ¬ Taken H1 ι1 b := fun h => by
        rcases g6 b h with h | h
        · exact ht b (by simp) h
        · exact hb1 h
      have hNb : ¬ N1 b := fun h => by
        rcases g5 b h with h | h
        · exact hN h
        · exact hb1 h
      simp at g3
      obtain ⟨ι2, k0, k1, k2, k3⟩ := g1.adopt (c := arr.size) (r := .box ys) hn htb (.inr (by omega)) hNb (fun H' ι' hι hf => ⟨b, arr.size, arr, e, hι, hg, rfl, g3, fun i => arr.getD i undef, fun i hi => ⟨getD_some (by omega), by
        have := g4 i hi (by simp; omega)
        have h2 := this.fwd hf
        simpa [show i < arr.size by omega] using h2⟩⟩)
      refine fin (bs1 := b :: bs1) k1 (g2.trans k2) (.ptr (by simp [Heap.set]) fun r hr hl => ?_) (fun x hx => (g5 x hx).imp id fun e => by simp [e]) (fun x hx => ?_) (fun x hx => ?_) (fun x hx => ht x (by simp [hx])) hrest h2
      · simp [Heap.set] at hr
        subst hr
        exact ⟨b, arr.size, k0, by simp⟩
      · rcases k3 x hx with hx | hx
        · exact (g6 x hx).imp id fun e => by simp [e]
        · exact .inr (by simp [hx])
      · rcases List.mem_cons.1 hx with rfl | hx
        · exact hb2
        · exact hd x hx
end
end Go.Ab
