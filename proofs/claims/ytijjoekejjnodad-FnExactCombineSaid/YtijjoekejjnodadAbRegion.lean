/-
  AN ABSTRACT LAYER, 16: a region: operation by operation, in the order of the text.
-/
import Derived.Test.YtijjoekejjnodadAbStep
namespace Go.Ab

/-- Is the operation to be carried out? -/
def wantedA (ops : Array Oper) (o : Oper) (t : List AV) : Option Bool :=
  match o.guard with
  | none => some true
  | some (j, want) => match (ops[j]?).bind (·.dst) with
    | none => some false
    | some d => match t[d]? with
      | none => some false
      | some (.imm (.bool b)) => some (b == want)
      | some .undef => some false
      | _ => none

def putA (t : List AV) (dst : Option Tmp) (x : AV) : List AV :=
  match dst with
  | some d => t.set d x
  | none => t

def stepF (P : Program) (X : List Entry) (A : Ann) (ops : Array Oper) (o : Oper) (s : St) : Option St :=
  match wantedA ops o s.t with
  | some true => (opF P X A o s.t s.H).map fun r => ⟨putA s.t o.dst r.1, r.2, s.p⟩
  | some false => some ⟨putA s.t o.dst .undef, s.H, s.p⟩
  | none => none

def opsF (P : Program) (X : List Entry) (A : Ann) (ops : Array Oper) : List Oper → St → Option St
  | [], s => some s
  | o :: rest, s => (stepF P X A ops o s).bind (opsF P X A ops rest)

section
variable {P : Program} {w0 : World} {S N0 : Nat → Prop} {pv : List Value} {X : List Entry} {A : Ann} {ops : Array Oper}

theorem wantedA_sound {w : World} {N : Nat → Prop} {H : Heap} {ι : Place} {o : Oper} {t : List AV} {a : Act} {b : Bool} (hs : a.tmps.size = t.length) (ht : ∀ i (hi : i < t.length), RepA w N H ι t[i] (a.tmps.getD i Go.undef))
    (h : wantedA ops o t = some b) : Region.wanted o (yielded ops a.tmps) = b := by
  unfold wantedA at h
  unfold Region.wanted
  split at h
  · rename_i hg
    simp at h
    subst h
    simp [hg]
  · rename_i j want hg
    simp only [hg]
    split at h
    · rename_i hd
      simp at h
      subst h
      simp [yielded, hd]
    · rename_i d hd
      have key : ∀ (hd2 : d < t.length), yielded ops a.tmps j = match a.tmps.getD d Go.undef with | .bool b => some b | _ => none := by
        intro hd2
        unfold yielded
        rw [hd]
        have hlt : d < a.tmps.size := by rw [hs]; exact hd2
        simp [hlt]
        split <;> split <;> simp_all
      split at h
      · rename_i hn
        simp at h
        subst h
        have : a.tmps[d]? = none := by
          rw [List.getElem?_eq_none_iff] at hn
          simp; omega
        simp [yielded, hd, this]
      · rename_i b' hb
        simp at h
        subst h
        obtain ⟨hlt, he⟩ := List.getElem?_eq_some_iff.1 hb
        have hr := ht d hlt
        rw [he] at hr
        rw [key hlt]
        generalize a.tmps.getD d Go.undef = v at hr
        cases hr with
        | imm hr =>
        cases hr
        rfl
      · rename_i hb
        simp at h
        subst h
        obtain ⟨hlt, he⟩ := List.getElem?_eq_some_iff.1 hb
        have hr := ht d hlt
        rw [he] at hr
        rw [key hlt]
        generalize a.tmps.getD d Go.undef = v at hr
        cases hr
        rfl
      · simp at h

theorem putA_length (t : List AV) (dst : Option Tmp) (x : AV) : (putA t dst x).length = t.length := by
  cases dst <;> simp [putA]

/-- A temporary is written. -/
theorem put_rel {w : World} {N : Nat → Prop} {H : Heap} {ι : Place} {t : List AV} {a : Act} {dst : Option Tmp} {x : AV} {v : Value} (hs : a.tmps.size = t.length) (ht : ∀ i (hi : i < t.length), RepA w N H ι t[i] (a.tmps.getD i Go.undef))
    (hx : RepA w N H ι x v) : (a.put dst v).tmps.size = (putA t dst x).length ∧ ∀ i (hi : i < (putA t dst x).length), RepA w N H ι (putA t dst x)[i] ((a.put dst v).tmps.getD i Go.undef) := by
  cases dst with
  | none => exact ⟨hs, ht⟩
  | some d =>
    refine ⟨by simp [Act.put, putA, hs], fun i hi => ?_⟩
    simp only [putA, List.length_set] at hi
    simp only [putA, Act.put, List.getElem_set]
    by_cases hd : d = i
    · subst hd
      have hlt : d < a.tmps.size := by rw [hs]; exact hi
      simp [hlt]
      exact hx
    · simp only [hd, if_false]
      have := ht i hi
      simpa [Array.getElem?_setIfInBounds_ne hd] using this

theorem stepF_sound (hX : ∀ E ∈ X, CallSpec P E) {o : Oper} {s s' : St} {a : Act} {w : World} {Q : Exit → Act → World → Prop} (hR : Rel w0 S N0 pv s a w) (h : stepF P X A ops o s = some s') :
    if Region.wanted o (yielded ops a.tmps) then o.wp P a w (Rel w0 S N0 pv s') Q else Rel w0 S N0 pv s' (a.put o.dst Go.undef) w := by
  obtain ⟨N, ι, hI, hd, hs, ht, hpl, hp⟩ := hR
  unfold stepF at h
  split at h
  · rename_i hw
    rw [wantedA_sound hs ht hw, if_pos rfl]
    simp only [Option.map_eq_some_iff] at h
    obtain ⟨⟨x, H'⟩, h, rfl⟩ := h
    have fin : ∀ v w', (∃ N' ι', Inv w0 S N0 H' w' N' ι' ∧ Fwd N ι s.H w N' ι' H' w' ∧ RepA w' N' H' ι' x v) → Rel w0 S N0 pv ⟨putA s.t o.dst x, H', s.p⟩ (a.put o.dst v) w' := by
      rintro v w' ⟨N', ι', g1, g2, g3⟩
      obtain ⟨q1, q2⟩ := put_rel (dst := o.dst) hs (fun i hi => (ht i hi).fwd g2) g3
      exact ⟨N', ι', g1, by cases hdst : o.dst <;> simpa [Act.put] using hd, q1, q2, hpl, fun i hi hv => (hp i hi hv).fwd g2⟩
    rcases opF_sound hX hI (rep_evalA ht) (fun f => rfl) h with ⟨v, w', h1, h2⟩ | ⟨w', h1, h2⟩ | ⟨f, args, h1, h2⟩
    · simp only [Oper.wp, h1, Oper.upon]; exact fin v w' h2
    · simp only [Oper.wp, h1, Oper.upon]; exact fin _ w' h2
    · simp only [Oper.wp, h1, Oper.upon]
      exact h2.mono fun e w' ⟨v, he, hr⟩ => by subst he; exact fin v w' hr
  · rename_i hw
    rw [wantedA_sound hs ht hw]
    simp only [Bool.false_eq_true, if_false]
    simp at h
    subst h
    obtain ⟨q1, q2⟩ := put_rel (dst := o.dst) hs ht (x := .undef) .undef
    exact ⟨N, ι, hI, by cases hdst : o.dst <;> simpa [Act.put] using hd, q1, q2, hpl, hp⟩
  · simp at h

/-- The order of the text. -/
theorem opsF_sound (hX : ∀ E ∈ X, CallSpec P E) {Q : Exit → Act → World → Prop} : ∀ (l : List Oper) (k : Nat) (s s' : St) (a : Act) (w : World), (∀ j, l[j]? = ops[k + j]?) → Rel w0 S N0 pv s a w → opsF P X A ops l s = some s' →
    (∀ a' w', Rel w0 S N0 pv s' a' w' → Q .normal a' w') → wpOps P ops Q ((List.range l.length).map (k + ·)) a w
  | [], k, s, s', a, w, _, hR, h, hQ => by
    simp [opsF] at h
    subst h
    exact hQ a w hR
  | o :: l, k, s, s', a, w, hl, hR, h, hQ => by
    simp only [opsF, Option.bind_eq_some_iff] at h
    obtain ⟨s1, h1, h2⟩ := h
    have ho : ops[k]? = some o := by simpa using (hl 0).symm
    have hr : (List.range (o :: l).length).map (k + ·) = k :: (List.range l.length).map (k + 1 + ·) := by
      simp only [List.length_cons, List.range_succ_eq_map, List.map_cons, List.map_map, Nat.add_zero]
      congr 1
      apply List.map_congr_left
      intro i _
      simp only [Function.comp]
      omega
    rw [hr]
    simp only [wpOps, ho]
    have hst := stepF_sound (Q := Q) hX hR h1
    have rest : ∀ a' w', Rel w0 S N0 pv s1 a' w' → wpOps P ops Q ((List.range l.length).map (k + 1 + ·)) a' w' := fun a' w' hR' =>
      opsF_sound hX l (k + 1) s1 s' a' w' (fun j => by have := hl (j + 1); simpa [Nat.add_assoc, Nat.add_comm 1 j] using this) hR' h2 hQ
    split
    · rename_i hw
      rw [if_pos hw] at hst
      exact .inl (Oper.wp_mono rest hst)
    · rename_i hw
      rw [if_neg hw] at hst
      exact rest _ _ hst

theorem region_plain (hX : ∀ E ∈ X, CallSpec P E) {Q : Exit → Act → World → Prop} {id : Nat} {s s' : St} {a : Act} {w : World} (hR : Rel w0 S N0 pv s a w) (h : opsF P X A ops ops.toList s = some s') (hQ : ∀ a' w', Rel w0 S N0 pv s' a' w' → Q .normal a' w') :
    (Code.region id ops false).wp P Q a w := by
  refine wp_region ?_
  have := opsF_sound (Q := Q) hX ops.toList 0 s s' a w (by simp) hR h hQ
  simpa using this
end
end Go.Ab
