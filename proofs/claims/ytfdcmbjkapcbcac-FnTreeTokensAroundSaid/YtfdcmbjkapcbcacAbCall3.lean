/-
  AN ABSTRACT LAYER, 13: a call, from the caller's side.
-/
import Derived.Test.YtfdcmbjkapcbcacAbCall2
namespace Go.Ab
variable {P : Program}


section
variable {P : Program} {w : World} {w0 : World} {S N0 : Nat → Prop} {N : Nat → Prop} {H : Heap} {ι : Place}

/-- Blocks of data, and of rows that may be lent. -/
def Lent (N : Nat → Prop) (H : Heap) (ι : Place) (lent : Bool) (ids : List Nat) (b : Nat) : Prop :=
  N b ∨ (lent = true ∧ ∃ id r c, H id = some r ∧ r.live = true ∧ id ∉ ids ∧ ι id = some (b, c))

theorem RepD.recap {d : D} {a : Option Addr} {n cap cap' : Nat} (h : RepD P w N d (.slice a n cap)) (hd : d ≠ .nils) (hc : n ≤ cap') : RepD P w N d (.slice a n cap') := by
  cases h with
  | nils => exact absurd rfl hd
  | ints0 => exact .ints0 _ _ _
  | ints k xs b off _ hN _ hr => exact .ints k xs b off cap' hN hc hr
  | junk => exact .junk _ rfl
  | fn _ _ _ _ h1 => obtain ⟨_, _, _, h2, _⟩ := h1; cases h2
  | seq0 => exact .seq0 _ _ _
  | seq s xs b off _ f hN _ hs hr hf => exact .seq s xs b off cap' f hN hc hs hr hf

theorem lendCell_sound {x : AV} {v : Value} {d : D} {l l' : Bool} {ids : List Nat} (hI : Inv P w0 S N0 H w N ι) (hids : ∀ id ∈ ids, ∃ cs, H id = some (.box cs)) (h : lendCell H x = some (d, l)) (hx : RepA P w N H ι x v) (hl : l = true → l' = true) :
    RepD P w (Lent N H ι l' ids) d v := by
  unfold lendCell at h
  split at h
  · simp at h
    obtain ⟨rfl, rfl⟩ := h
    cases hx with
    | imm hx => exact hx.mono (fun b h => .inl h) fun _ _ _ => rfl
  · simp at h
    obtain ⟨rfl, rfl⟩ := h
    cases hx with
    | dptr hx hv => subst hv; exact hx.mono (fun b h => .inl h) fun _ _ _ => rfl
  · rename_i id s off len
    split at h
    · rename_i k xs hH
      split at h <;> simp at h
      obtain ⟨rfl, rfl⟩ := h
      rename_i hle
      have hnid : id ∉ ids := fun hm => by
        obtain ⟨cs, hc⟩ := hids id hm
        rw [hH] at hc; cases hc
      have hlen : ((xs.drop off).take len).length = len := by simp; omega
      cases hx with
      | @row _ _ _ _ a cap hid hs hcp hp =>
      obtain ⟨hsz, hp⟩ := hp _ hH rfl
      simp only [Row.sz] at hsz
      subst hsz
      by_cases h0 : len = 0
      · subst h0
        simp only [List.take_zero]
        exact .ints0 _ _ _
      · rcases hp with ⟨h1, _⟩ | ⟨b, c, h1, rfl, h3, h4⟩
        · omega
        · rcases hI.rows id _ hH with ⟨h5, _⟩ | ⟨b', c', arr, e, h5, h6, h7, h8, h9⟩
          · rw [h1] at h5; cases h5
          · rw [h1] at h5
            cases h5
            have := RepD.ints (P := P) (w := w) (N := Lent N H ι l' ids) k ((xs.drop off).take len) b (off * 1) cap (.inr ⟨hl rfl, id, _, c, hH, rfl, hnid, h1⟩) (by omega) (fun i hi => by
              rw [cell_of_blk h6, Nat.mul_one]
              simp
              exact h9 _ (by omega))
            rw [hlen] at this
            exact this
    · rename_i s' xs hH
      split at h <;> simp at h
      obtain ⟨rfl, rfl⟩ := h
      rename_i hle
      obtain ⟨rfl, hle⟩ := hle
      have hnid : id ∉ ids := fun hm => by
        obtain ⟨cs, hc⟩ := hids id hm
        rw [hH] at hc; cases hc
      have hlen : ((xs.drop off).take len).length = len := by simp; omega
      cases hx with
      | @row _ _ _ _ a cap hid hs hcp hp =>
      obtain ⟨hsz, hp⟩ := hp _ hH rfl
      by_cases h0 : len = 0
      · subst h0
        simp only [List.take_zero]
        exact .seq0 _ _ _
      · rcases hp with ⟨h1, _⟩ | ⟨b, c, h1, rfl, h3, h4⟩
        · omega
        · obtain ⟨hel, h5 | ⟨b', c', arr, e, h5, h6, h7, h8, f, h9⟩⟩ := hI.rows id _ hH
          · rw [h1] at h5; cases h5.1
          · rw [h1] at h5
            cases h5
            have hN : Lent N H ι l' ids b := .inr ⟨hl rfl, id, _, c, hH, rfl, hnid, h1⟩
            have whole := RepD.seq (P := P) (w := w) (N := Lent N H ι l' ids) s' xs b 0 (max xs.length (off + cap)) f hN (by omega) hel (fun i hi => by rw [cell_of_blk h6, Nat.zero_add]; exact (h9 i hi).1) (fun i hi => (h9 i hi).2.mono (fun b h => .inl h) fun _ _ _ => rfl)
            have cut := cutD_sound (l := off) (h := off + len) whole rfl (by omega) hle
            simp only [cutD, D.sz, Addr.add_lit, Nat.zero_add, Option.map_some] at cut
            rw [if_neg (by omega)] at cut
            rw [show off + len - off = len by omega] at cut
            exact cut.recap (by simp) hcp
    · simp at h
  · rename_i id s
    split at h
    · rename_i k xs hH
      simp at h
      obtain ⟨rfl, rfl⟩ := h
      have hnid : id ∉ ids := fun hm => by
        obtain ⟨cs, hc⟩ := hids id hm
        rw [hH] at hc; cases hc
      cases hx with
      | @all _ _ a len cap hid hs hcp hp =>
      obtain ⟨hdim, hp⟩ := hp _ hH rfl
      obtain rfl : len = xs.length := (congrArg Prod.snd hdim).symm
      obtain rfl : s = 1 := (congrArg Prod.fst hdim).symm
      by_cases h0 : xs = []
      · subst h0
        exact .ints0 _ _ _
      · rcases hp with ⟨h1, _⟩ | ⟨b, c, h1, rfl, h3, h4⟩
        · exact absurd (List.eq_nil_of_length_eq_zero h1) h0
        · rcases hI.rows id _ hH with ⟨h5, _⟩ | ⟨b', c', arr, e, h5, h6, h7, h8, h9⟩
          · rw [h1] at h5; cases h5
          · rw [h1] at h5
            cases h5
            exact .ints k xs b (0 * 1) cap (.inr ⟨hl rfl, id, _, c, hH, rfl, hnid, h1⟩) hcp (fun i hi => by
              rw [cell_of_blk h6, Nat.mul_one, Nat.zero_add]
              exact h9 _ hi)
    · rename_i s' xs hH
      split at h <;> simp at h
      obtain ⟨rfl, rfl⟩ := h
      rename_i hss
      subst hss
      have hnid : id ∉ ids := fun hm => by
        obtain ⟨cs, hc⟩ := hids id hm
        rw [hH] at hc; cases hc
      cases hx with
      | @all _ _ a len cap hid hs hcp hp =>
      obtain ⟨hdim, hp⟩ := hp _ hH rfl
      obtain rfl : len = xs.length := (congrArg Prod.snd hdim).symm
      by_cases h0 : xs = []
      · subst h0
        exact .seq0 _ _ _
      · rcases hp with ⟨h1, _⟩ | ⟨b, c, h1, rfl, h3, h4⟩
        · exact absurd (List.eq_nil_of_length_eq_zero h1) h0
        · obtain ⟨hel, h5 | ⟨b', c', arr, e, h5, h6, h7, h8, f, h9⟩⟩ := hI.rows id _ hH
          · rw [h1] at h5; cases h5.1
          · rw [h1] at h5
            cases h5
            have hN : Lent N H ι l' ids b := .inr ⟨hl rfl, id, _, c, hH, rfl, hnid, h1⟩
            rw [Nat.zero_mul]
            exact RepD.seq (P := P) (w := w) (N := Lent N H ι l' ids) s' xs b 0 cap f hN hcp hel (fun i hi => by rw [cell_of_blk h6, Nat.zero_add]; exact (h9 i hi).1) (fun i hi => (h9 i hi).2.mono (fun b h => .inl h) fun _ _ _ => rfl)
    · simp at h
  · simp at h

theorem unImm_spec {x : AV} {d : D} (h : unImm x = some d) : x = .imm d := by
  unfold unImm at h
  split at h <;> simp at h
  subst h
  rfl

/-- The arguments, as the callee is to see them. -/
theorem argsX_sound (hI : Inv P w0 S N0 H w N ι) (lent : Bool) (ids : List Nat) (hids : ∀ id ∈ ids, ∃ cs, H id = some (.box cs)) : ∀ (xs : List AV) (vs : List Value) (as : List (XA × Bool × Option Nat)),
    xs.length = vs.length → (∀ i (hi : i < xs.length) (hv : i < vs.length), RepA P w N H ι xs[i] vs[i]) → xs.mapM (argX H) = some as → (as.any (·.2.1) = true → lent = true) →
    (∀ id ∈ as.filterMap (·.2.2), id ∈ ids) → (as.filterMap (·.2.2)).Nodup →
    ∃ bs, ArgsRep P w (Lent N H ι lent ids) (as.map (·.1)) vs bs (bs.map ptrOf) ∧ bs.length = (as.filterMap (·.2.2)).length ∧ ∀ i (hi : i < bs.length) (hj : i < (as.filterMap (·.2.2)).length), ∃ c, ι (as.filterMap (·.2.2))[i] = some (bs[i], c)
  | [], [], as, _, _, h, _, _, _ => by simp at h; subst h; exact ⟨[], .nil, rfl, by simp⟩
  | [], _ :: _, _, h, _, _, _, _, _ => by simp at h
  | _ :: _, [], _, h, _, _, _, _, _ => by simp at h
  | x :: xs, v :: vs, as, hl, hr, h, hlent, hsub, hnd => by
    simp only [List.mapM_cons, Option.bind_eq_bind, Option.bind_eq_some_iff, Option.pure_def, Option.some.injEq] at h
    obtain ⟨⟨xa, l, o⟩, h1, as', h2, rfl⟩ := h
    simp only [List.any_cons, Bool.or_eq_true] at hlent
    have hx := hr 0 (by simp) (by simp)
    simp only [List.getElem_cons_zero] at hx
    have hd : ∀ {d : D}, RepD P w (Lent N H ι lent ids) d v → xa = .d d → o = none →
        ∃ bs, ArgsRep P w (Lent N H ι lent ids) (((xa, l, o) :: as').map (·.1)) (v :: vs) bs (bs.map ptrOf) ∧ bs.length = (((xa, l, o) :: as').filterMap (·.2.2)).length ∧
          ∀ i (hi : i < bs.length) (hj : i < (((xa, l, o) :: as').filterMap (·.2.2)).length), ∃ c, ι (((xa, l, o) :: as').filterMap (·.2.2))[i] = some (bs[i], c) := by
      intro d hd e1 e2
      subst e1 e2
      simp only [List.filterMap_cons] at hsub hnd ⊢
      obtain ⟨bs, g1, g2, g3⟩ := argsX_sound hI lent ids hids xs vs as' (by simpa using hl) (fun i hi hv => hr (i + 1) (Nat.succ_lt_succ hi) (Nat.succ_lt_succ hv)) h2 (fun h => hlent (.inr h)) hsub hnd
      exact ⟨bs, .d hd g1, g2, g3⟩
    unfold argX at h1
    split at h1
    · rename_i cs
      simp only [Option.map_eq_some_iff, Prod.mk.injEq] at h1
      obtain ⟨ds, h3, rfl, rfl, rfl⟩ := h1
      cases hx with
      | @agg _ us hul hur =>
      obtain ⟨m1, m2⟩ := mapM_some h3
      refine hd (d := .agg (ds.map (·.1))) (.agg _ _ (by simp [hul, m1]) fun i hi => ?_) rfl rfl
      simp at hi
      have e1 := m2 i (by omega) hi
      simp only [List.getElem_map]
      exact lendCell_sound (l := ds[i].2) hI hids (by rw [e1]) (hur i (by omega)) fun e => hlent (.inl (by simp only [List.any_eq_true]; exact ⟨ds[i], List.getElem_mem _, e⟩))
    · rename_i id
      split at h1
      · rename_i cs hH
        simp only [Option.map_eq_some_iff, Prod.mk.injEq] at h1
        obtain ⟨ds, h3, rfl, rfl, rfl⟩ := h1
        simp only [List.filterMap_cons, List.nodup_cons] at hsub hnd ⊢
        obtain ⟨bs, g1, g2, g3⟩ := argsX_sound hI lent ids hids xs vs as' (by simpa using hl) (fun i hi hv => hr (i + 1) (Nat.succ_lt_succ hi) (Nat.succ_lt_succ hv)) h2 (fun h => hlent (.inr h)) (fun x hx => hsub x (by simp [hx])) hnd.2
        cases hx with
        | @ptr _ _ _ pa hid hp =>
        obtain ⟨b, c, q1, rfl⟩ := hp _ hH rfl
        obtain ⟨b', c', arr, e, q2, q3, q4, q5, f, q6⟩ := hI.rows id _ hH
        rw [q1] at q2
        cases q2
        obtain ⟨m1, m2⟩ := mapM_some h3
        refine ⟨b :: bs, ?_, by simp [g2], fun i hi hj => ?_⟩
        · simp only [Nat.zero_mul, Nat.zero_add, List.map_cons]
          refine .box q3 (by omega) (fun i hi => ?_) ?_ ?_ g1
          · have e1 := m2 i (by omega) hi
            have e2 := q6 i (by omega)
            rw [unImm_spec e1] at e2
            have e3 : arr.getD i undef = f i := by simp [e2.1]
            rw [e3]
            cases e2.2 with
            | imm h => exact h.mono (fun b h => .inl h) fun _ _ _ => rfl
          · rintro (hn | ⟨_, id2, r2, c2, hr2, hl2, hni, hι2⟩)
            · exact (hI.own id _ b c hH rfl q1).2 hn
            · have := hI.inj id2 id r2 _ b c2 c hr2 hH hl2 rfl hι2 q1
              subst this
              exact hni (hsub _ (by simp))
          · intro hb
            obtain ⟨i, hi, hbi⟩ := List.getElem_of_mem hb
            obtain ⟨c2, hc2⟩ := g3 i hi (by omega)
            rw [hbi] at hc2
            have hm : (as'.filterMap (·.2.2))[i]'(by omega) ∈ as'.filterMap (·.2.2) := List.getElem_mem _
            obtain ⟨cs2, hcs2⟩ := hids _ (hsub _ (by simp only [List.mem_cons]; exact .inr hm))
            have := hI.inj _ id _ _ b c2 c hcs2 hH rfl rfl hc2 q1
            rw [this] at hm
            exact hnd.1 hm
        · cases i with
          | zero => exact ⟨c, q1⟩
          | succ i => simpa using g3 i (by simpa using hi) (by simpa using hj)
      · simp at h1
    · simp only [Option.map_eq_some_iff, Prod.mk.injEq] at h1
      obtain ⟨⟨d, l'⟩, h3, rfl, rfl, rfl⟩ := h1
      exact hd (lendCell_sound hI hids h3 hx fun e => hlent (.inl e)) rfl rfl
end
end Go.Ab
