/-
  AN ABSTRACT LAYER, 16: a region: operation by operation, in the order of the text.
-/
import Derived.Test.YtfdcmbjkapcbcacAbStep
import Derived.OrdersIn
namespace Go.Ab
variable {P : Program}

/-- Is the operation to be carried out? -/
def wantedA (ops : Array Oper) (o : Oper) (t : List AV) : Option Bool :=
  match o.guard with
  | none => some true
  | some (j, want) => match (ops[j]?).bind (·.dst) with
    | none => some false
    | some d => match t[d]? with
      | none => some false
      | some (.imm (.bool b)) => some (b == want)
      | some .undef => some false
      | _ => none

def putA (t : List AV) (dst : Option Tmp) (x : AV) : List AV :=
  match dst with
  | some d => t.set d x
  | none => t

def stepF (P : Program) (X : List Entry) (A : Ann) (ops : Array Oper) (o : Oper) (s : St) : Option St :=
  match wantedA ops o s.t with
  | some true => (opF P X A o s.t s.H).map fun r => ⟨putA s.t o.dst r.1, r.2, s.p, s.d⟩
  | some false => some ⟨putA s.t o.dst .undef, s.H, s.p, s.d⟩
  | none => none

def opsF (P : Program) (X : List Entry) (A : Ann) (ops : Array Oper) : List Oper → St → Option St
  | [], s => some s
  | o :: rest, s => (stepF P X A ops o s).bind (opsF P X A ops rest)

section
variable {P : Program} {w0 : World} {S N0 : Nat → Prop} {pv : List Value} {X : List Entry} {A : Ann} {ops : Array Oper}

theorem wantedA_sound {w : World} {N : Nat → Prop} {H : Heap} {ι : Place} {o : Oper} {t : List AV} {a : Act} {b : Bool} (hs : a.tmps.size = t.length) (ht : ∀ i (hi : i < t.length), RepA P w N H ι t[i] (a.tmps.getD i Go.undef))
    (h : wantedA ops o t = some b) : Region.wanted o (yielded ops a.tmps) = b := by
  unfold wantedA at h
  unfold Region.wanted
  split at h
  · rename_i hg
    simp at h
    subst h
    simp [hg]
  · rename_i j want hg
    simp only [hg]
    split at h
    · rename_i hd
      simp at h
      subst h
      simp [yielded, hd]
    · rename_i d hd
      have key : ∀ (hd2 : d < t.length), yielded ops a.tmps j = match a.tmps.getD d Go.undef with | .bool b => some b | _ => none := by
        intro hd2
        unfold yielded
        rw [hd]
        have hlt : d < a.tmps.size := by rw [hs]; exact hd2
        simp [hlt]
        split <;> split <;> simp_all
      split at h
      · rename_i hn
        simp at h
        subst h
        have : a.tmps[d]? = none := by
          rw [List.getElem?_eq_none_iff] at hn
          simp; omega
        simp [yielded, hd, this]
      · rename_i b' hb
        simp at h
        subst h
        obtain ⟨hlt, he⟩ := List.getElem?_eq_some_iff.1 hb
        have hr := ht d hlt
        rw [he] at hr
        rw [key hlt]
        generalize a.tmps.getD d Go.undef = v at hr
        cases hr with
        | imm hr =>
        cases hr
        rfl
      · rename_i hb
        simp at h
        subst h
        obtain ⟨hlt, he⟩ := List.getElem?_eq_some_iff.1 hb
        have hr := ht d hlt
        rw [he] at hr
        rw [key hlt]
        generalize a.tmps.getD d Go.undef = v at hr
        cases hr
        rfl
      · simp at h

theorem putA_length (t : List AV) (dst : Option Tmp) (x : AV) : (putA t dst x).length = t.length := by
  cases dst <;> simp [putA]

/-- A temporary is written. -/
theorem put_rel {w : World} {N : Nat → Prop} {H : Heap} {ι : Place} {t : List AV} {a : Act} {dst : Option Tmp} {x : AV} {v : Value} (hs : a.tmps.size = t.length) (ht : ∀ i (hi : i < t.length), RepA P w N H ι t[i] (a.tmps.getD i Go.undef))
    (hx : RepA P w N H ι x v) : (a.put dst v).tmps.size = (putA t dst x).length ∧ ∀ i (hi : i < (putA t dst x).length), RepA P w N H ι (putA t dst x)[i] ((a.put dst v).tmps.getD i Go.undef) := by
  cases dst with
  | none => exact ⟨hs, ht⟩
  | some d =>
    refine ⟨by simp [Act.put, putA, hs], fun i hi => ?_⟩
    simp only [putA, List.length_set] at hi
    simp only [putA, Act.put, List.getElem_set]
    by_cases hd : d = i
    · subst hd
      have hlt : d < a.tmps.size := by rw [hs]; exact hi
      simp [hlt]
      exact hx
    · simp only [hd, if_false]
      have := ht i hi
      simpa [Array.getElem?_setIfInBounds_ne hd] using this

/-- The fence of an activation, of a round. -/
def FR (rd : Option Nat) : Fence := match rd with
  | none => Fence.wide
  | some l => Fence.wide.inRound l

theorem FR_fn (rd : Option Nat) (f : FuncId) : (FR rd).fn f := by cases rd <;> trivial
theorem FR_depth (rd : Option Nat) : (FR rd).depth = none := by cases rd <;> rfl
theorem FR_round (rd : Option Nat) : (FR rd).round = rd := by cases rd <;> rfl
theorem FR_room (rd : Option Nat) (n : Nat) : (FR rd).room n := fun d h => by rw [FR_depth] at h; cases h

theorem callsFR {rd : Option Nat} {n : Nat} {f : FuncId} {args : Array Value} {w : World} {R : Ending → World → Prop} (h : Calls P f args w R) : CallsIn (FR rd) n P f args w R := by
  refine ⟨FR_fn rd f, fun cs _ => ?_⟩
  obtain ⟨e, w', fr, h1, h2, h3⟩ := (callsIn_wide (n := n)).2 h |>.2 cs (room_wide _)
  cases rd <;> exact ⟨e, w', fr, h1, h2, h3⟩

theorem FR_deep (rd : Option Nat) : (FR rd).depth.isSome = true → 1 ≤ 0 := by rw [FR_depth]; simp

/-- How an operation may end, its calls run where they stand. -/
def EndsI (P : Program) (rd : Option Nat) (ρ : Operand → Value) (o : Oper) (w : World) (R : Value → World → Prop) : Prop :=
  (∃ v w', (execOp ρ o).run P w = .ok (.value v) w' ∧ R v w') ∨ (∃ w', (execOp ρ o).run P w = .ok .skip w' ∧ R Go.undef w') ∨
  (∃ f args, (execOp ρ o).run P w = .ok (.enter f args) w ∧ Calls P f args w fun e w' => ∃ v, e = .returned v ∧ R v w') ∨
  ∃ l f tmps as bd, (execOp ρ o).run P w = .ok (.round l f tmps as bd) w ∧ RoundIn (FR rd) 0 P l f tmps as bd w fun e w' => ∃ v, e = .returned v ∧ R v w'

theorem Ends.i {rd : Option Nat} {ρ : Operand → Value} {o : Oper} {w : World} {R : Value → World → Prop} (h : Ends P ρ o w R) : EndsI P rd ρ o w R := by
  rcases h with h | h | h
  · exact .inl h
  · exact .inr (.inl h)
  · exact .inr (.inr (.inl h))

theorem EndsI.wp {rd : Option Nat} {o : Oper} {a : Act} {w : World} {R : Value → World → Prop} {next : Act → World → Prop} {Q : Exit → Act → World → Prop} (hnd : ∀ c, o.op ≠ .defer c) (h : EndsI P rd a.eval o w R)
    (hn : ∀ v w', R v w' → next (a.put o.dst v) w') : o.wpIn (FR rd) 0 P a w next Q := by
  refine ⟨fun f _ => FR_fn rd f, ?_⟩
  rw [Oper.semAt_eq _ _ _ hnd]
  rcases h with ⟨v, w', h1, h2⟩ | ⟨w', h1, h2⟩ | ⟨f, args, h1, h2⟩ | ⟨l, f, tmps, as, bd, h1, h2⟩
  · rw [h1]; exact hn v w' h2
  · rw [h1]; exact hn _ w' h2
  · rw [h1]
    exact ⟨FR_deep rd, (callsFR h2).mono fun e w' ⟨v, he, hr⟩ => by subst he; exact hn v w' hr⟩
  · rw [h1]
    exact ⟨FR_deep rd, h2.mono fun e w' ⟨v, he, hr⟩ => by subst he; exact hn v w' hr⟩

theorem opF_nodefer {o : Oper} {t : List AV} {H : Heap} {r : AV × Heap} (h : opF P X A o t H = some r) : ∀ c, o.op ≠ .defer c := by
  intro c hc
  have h := opF_is (x := r.1) (H' := r.2) h
  unfold opF1 at h
  rw [hc] at h
  simp at h

theorem put_defers' (a : Act) (dst : Option Tmp) (v : Value) : (a.put dst v).defers = a.defers := by cases dst <;> rfl

theorem stepF_sound (hX : ∀ E ∈ X, CallSpec P E) {rd : Option Nat} {o : Oper} {s s' : St} {a : Act} {w : World} {Q : Exit → Act → World → Prop} (hR : Rel P w0 S N0 pv s a w) (h : stepF P X A ops o s = some s') :
    if Region.wanted o (yielded ops a.tmps) then o.wpIn (FR rd) 0 P a w (Rel P w0 S N0 pv s') Q else Rel P w0 S N0 pv s' (a.put o.dst Go.undef) w := by
  obtain ⟨N, ι, hI, hd, hs, ht, hpl, hp⟩ := hR
  unfold stepF at h
  split at h
  · rename_i hw
    rw [wantedA_sound hs ht hw, if_pos rfl]
    simp only [Option.map_eq_some_iff] at h
    obtain ⟨⟨x, H'⟩, h, rfl⟩ := h
    refine (opF_sound hX hI (rep_evalA ht) (fun f => rfl) h).i.wp (opF_nodefer h) ?_
    rintro v w' ⟨N', ι', g1, g2, g3⟩
    obtain ⟨q1, q2⟩ := put_rel (dst := o.dst) hs (fun i hi => (ht i hi).fwd g2) g3
    exact ⟨N', ι', g1, by rw [put_defers']; exact hd.fwd g2, q1, q2, hpl, fun i hi hv => (hp i hi hv).fwd g2⟩
  · rename_i hw
    rw [wantedA_sound hs ht hw]
    simp only [Bool.false_eq_true, if_false]
    simp at h
    subst h
    obtain ⟨q1, q2⟩ := put_rel (dst := o.dst) hs ht (x := .undef) .undef
    exact ⟨N, ι, hI, by rw [put_defers']; exact hd, q1, q2, hpl, hp⟩
  · simp at h
end
end Go.Ab
