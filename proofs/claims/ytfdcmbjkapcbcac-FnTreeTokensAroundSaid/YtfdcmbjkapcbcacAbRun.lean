/-
  AN ABSTRACT LAYER, 19b: what holds of code whose calls are run where they stand.
-/
import Derived.Test.YtfdcmbjkapcbcacAbTidy
import Derived.RangeFuncRecord
namespace Go.Ab
variable {P : Program}

section
variable {w0 w : World} {S N0 N : Nat → Prop} {H : Heap} {ι : Place}

/-- What the model reads out of a result's variable. -/
def readRes (a : Act) : ResultVar → Sem Value
  | .tmp t => pure (a.tmps.getD t undef)
  | .cell x t => do loadVar t (← asAddr (a.tmps.getD x undef))

theorem results_run {s : St} {a : Act} (hI : Inv P w0 S N0 s.H w N ι) (ht : ∀ i (hi : i < s.t.length), RepA P w N s.H ι s.t[i] (a.tmps.getD i undef)) : ∀ (l : List ResultVar) (vs : List AV),
    l.mapM (resAV P s) = some vs → ∃ us : List Value, (l.mapM (readRes a)).run P w = .ok us w ∧ vs.length = us.length ∧ ∀ i (hi : i < vs.length) (hu : i < us.length), RepA P w N s.H ι vs[i] us[i]
  | [], vs, h => by simp at h; subst h; exact ⟨[], by simp, rfl, by simp⟩
  | r :: l, vs, h => by
    simp only [List.mapM_cons, Option.bind_eq_bind, Option.bind_eq_some_iff, Option.pure_def, Option.some.injEq] at h
    obtain ⟨x, h1, xs, h2, rfl⟩ := h
    obtain ⟨us, g1, g2, g3⟩ := results_run hI ht l xs h2
    obtain ⟨u, q1, q2⟩ : ∃ u, (readRes a r).run P w = .ok u w ∧ RepA P w N s.H ι x u := by
      cases r with
      | tmp t =>
        simp only [resAV] at h1
        obtain ⟨hlt, rfl⟩ := List.getElem?_eq_some_iff.1 h1
        exact ⟨_, rfl, ht t hlt⟩
      | cell c ty =>
        simp only [resAV] at h1
        have hx := rep_evalA ht (.tmp c)
        obtain ⟨z, r1, r2⟩ := loadA_sound (P := P) hI h1 hx
        refine ⟨z, ?_, r2⟩
        have hv : ∃ b, a.tmps.getD c undef = .pointer (some b) := by
          have hx' : RepA P w N s.H ι (evalA s.t (.tmp c)) (a.tmps.getD c undef) := hx
          generalize a.tmps.getD c undef = v at hx'
          generalize evalA s.t (.tmp c) = av at hx' h1
          cases hx' with
          | ptr => exact ⟨_, rfl⟩
          | eptr _ _ hv => exact ⟨_, hv⟩
          | dptr _ hv => exact ⟨_, hv⟩
          | imm hx' =>
            cases hx' with
            | pbox => exact ⟨_, rfl⟩
            | _ => simp [loadA] at h1
          | _ => simp [loadA] at h1
        obtain ⟨b, hb⟩ := hv
        simp only [Act.eval] at r1
        simp only [readRes]
        rw [hb] at r1 ⊢
        simpa [Instr.loadAt, Instr.sureAddr, asAddr] using r1
    refine ⟨u :: us, ?_, by simp [g2], fun i hi hu => ?_⟩
    · rw [List.mapM_cons]
      simp only [Sem.run_bind, q1, Result.andThen_ok, g1, Sem.run_pure]
    · cases i with
      | zero => exact q2
      | succ i => exact g3 i (Nat.lt_of_succ_lt_succ hi) (Nat.lt_of_succ_lt_succ hu)

theorem run_results {fn : Func} {a : Act} {us : List Value} (h : (fn.results.toList.mapM (readRes a)).run P w = .ok us w) : (results fn a.tmps).run P w = .ok (packed us) w := by
  have e : results fn a.tmps = (do
      let vs ← fn.results.mapM (readRes a)
      pure (if h : vs.size = 1 then vs[0] else .tuple vs)) := by
    unfold results readRes
    rfl
  rw [e, Array.mapM_eq_mapM_toList]
  simp only [Sem.run_bind, Sem.run_map, h, Result.andThen_ok, Sem.run_pure]
  congr 1
  match us with
  | [] => rfl
  | [u] => rfl
  | u :: v :: us => simp [packed]


theorem pack_rep {xs : List AV} {us : List Value} (hl : xs.length = us.length) (hr : ∀ i (hi : i < xs.length) (hu : i < us.length), RepA P w N H ι xs[i] us[i]) : RepA P w N H ι (packA xs) (packed us) := by
  match xs, us, hl, hr with
  | [x], [u], _, hr => exact hr 0 (by simp) (by simp)
  | [], [], _, _ => exact .tup rfl (by simp)
  | x :: y :: xs, u :: u2 :: us, hl, hr =>
    refine .tup (by simpa using hl.symm) fun i hi => ?_
    have hiu : i < (u :: u2 :: us).length := by omega
    have e4 : (u :: u2 :: us).toArray.getD i Go.undef = (u :: u2 :: us)[i] := by
      rw [Array.getD_eq_getD_getElem?, List.getElem?_toArray, List.getElem?_eq_getElem hiu]
      rfl
    rw [e4]
    exact hr i hi hiu

/-- The machine's state is one that the abstract state tells, and values beside it. -/
def RelA (P : Program) (w0 : World) (S N0 : Nat → Prop) (pv : List Value) (s : St) (a : Act) (w : World) (xs : List AV) (vs : List Value) : Prop :=
  ∃ N ι, Inv P w0 S N0 s.H w N ι ∧ Marks P w N s.H ι s.d a.defers ∧ a.tmps.size = s.t.length ∧ (∀ i (hi : i < s.t.length), RepA P w N s.H ι s.t[i] (a.tmps.getD i Go.undef)) ∧
    s.p.length = pv.length ∧ (∀ i (hi : i < s.p.length) (hv : i < pv.length), RepA P w N s.H ι s.p[i] pv[i]) ∧
    xs.length = vs.length ∧ ∀ i (hi : i < xs.length) (hv : i < vs.length), RepA P w N s.H ι xs[i] vs[i]

variable {pv : List Value}

theorem Rel.a {s : St} {a : Act} (h : Rel P w0 S N0 pv s a w) : RelA P w0 S N0 pv s a w [] [] := by
  obtain ⟨N, ι, h1, h2, h3, h4, h5, h6⟩ := h
  exact ⟨N, ι, h1, h2, h3, h4, h5, h6, rfl, by simp⟩

theorem RelA.rel {s : St} {a : Act} {xs : List AV} {vs : List Value} (h : RelA P w0 S N0 pv s a w xs vs) : Rel P w0 S N0 pv s a w := by
  obtain ⟨N, ι, h1, h2, h3, h4, h5, h6, _⟩ := h
  exact ⟨N, ι, h1, h2, h3, h4, h5, h6⟩

/-- The value is put into its place. -/
theorem RelA.put {s : St} {a : Act} {x : AV} {v : Value} (dst : Option Tmp) (h : RelA P w0 S N0 pv s a w [x] [v]) : Rel P w0 S N0 pv ⟨putA s.t dst x, s.H, s.p, s.d⟩ (a.put dst v) w := by
  obtain ⟨N, ι, h1, h2, h3, h4, h5, h6, h7, h8⟩ := h
  obtain ⟨q1, q2⟩ := put_rel (dst := dst) h3 h4 (h8 0 (by simp) (by simp))
  exact ⟨N, ι, h1, by rw [put_defers']; exact h2, q1, q2, h5, h6⟩

/-- What is handed over to be turned is among the values that are kept. -/
def Pins (S : Nat → Prop) (pv : List Value) : Prop := ∀ b, S b → ∃ v ∈ pv, pvBlk v = some b

theorem Pins.more {S : Nat → Prop} {pv qv : List Value} (h : Pins S pv) (hs : ∀ v ∈ pv, v ∈ qv) : Pins S qv := fun b hb => by
  obtain ⟨v, h1, h2⟩ := h b hb
  exact ⟨v, hs v h1, h2⟩

def fnOK (P : Program) (f : FuncId) : Prop := ∃ fn, P.funcs[f]? = some fn ∧ (fn.name == "runtime.NumGoroutine") = false ∧ fn.body.isNone = false

theorem run_callFunc {f : FuncId} {args : Array Value} (h : fnOK P f) : (callFunc f args).run P w = .ok (.enter f args) w := by
  obtain ⟨fn, f1, f2, f3⟩ := h
  have g2 : ¬ fn.name = "runtime.NumGoroutine" := fun h => by rw [h] at f2; exact absurd f2 (by decide)
  have g3 : ¬ fn.body = none := fun h => by rw [h] at f3; cases f3
  simp [callFunc, f1, g2, g3]

/-- Calls that are run where they stand are run rightly. -/
structure HOK (P : Program) (w0 : World) (S N0 : Nat → Prop) {R : Type} (h : Hds R) : Prop where
  fn : ∀ (pv : List Value) (f : FuncId) (as : List AV) (s : St) (k : AV → St → Option R) (r : R) (a : Act) (vs : List Value) (w : World), Pins S pv → RelA P w0 S N0 pv s a w as vs → h.fn f as s k = some r →
    fnOK P f ∧ Calls P f vs.toArray w fun e w' => ∃ v x s', e = .returned v ∧ RelA P w0 S N0 pv s' a w' [x] [v] ∧ k x s' = some r
  yl : ∀ (pv : List Value) (id : Nat) (as : List AV) (s : St) (k : AV → St → Option R) (r : R) (a : Act) (vs : List Value) (b : Nat) (w : World) (rd : Option Nat), Pins S pv → RelA P w0 S N0 pv s a w (.yld id :: as) (.func (.yield b) #[] #[] :: vs) → h.yl id as s k = some r →
    ∃ fn tmps as bd, (Instr.yield b vs.toArray).run P w = .ok (.round b fn tmps as bd) w ∧ RoundIn (FR rd) 0 P b fn tmps as bd w fun e w' => ∃ v, e = .returned v ∧ ∃ x s', RelA P w0 S N0 pv s' a w' [x] [v] ∧ k x s' = some r

theorem Hds.no_ok {R : Type} : HOK P w0 S N0 (Hds.no (R := R)) :=
  ⟨fun _ _ _ _ _ _ _ _ _ _ _ h => by simp [Hds.no] at h, fun _ _ _ _ _ _ _ _ _ _ _ _ _ h => by simp [Hds.no] at h⟩

/-- One operation. -/
theorem doOp_sound {R : Type} {X : List Entry} {A : Ann} (hX : ∀ E ∈ X, CallSpec P E) {h : Hds R} (hh : HOK P w0 S N0 h) (hpv : Pins S pv) {rd : Option Nat} {o : Oper} {s : St} {k : AV → St → Option R} {r : R} {a : Act}
    (hR : Rel P w0 S N0 pv s a w) (hd : doOp P X A h o s k = some r) :
    (∀ c, o.op ≠ .defer c) ∧ EndsI P rd a.eval o w fun v w' => ∃ x s', RelA P w0 S N0 pv s' a w' [x] [v] ∧ k x s' = some r := by
  unfold doOp at hd
  cases hdy : dynAt A o s.t with
  | false => rw [hdy] at hd; cases hd
  | true =>
  rw [hdy, cond_true] at hd
  replace hR := freeze_rel (np := false) (hookAt A o) hpv (fun h => by cases h) hR
  generalize freeze false (hookAt A o) s = s at hR hd
  have hR0 := hR
  obtain ⟨N, ι, hI, hm, hs, ht, hpl, hp⟩ := hR
  have hρ := rep_evalA (P := P) (w := w) (N := N) (H := s.H) (ι := ι) ht
  -- a list of values, in step
  have lst : ∀ {xs : List AV} {vs : List Value}, xs.length = vs.length → (∀ i (hi : i < xs.length) (hv : i < vs.length), RepA P w N s.H ι xs[i] vs[i]) → RelA P w0 S N0 pv s a w xs vs := fun h1 h2 => ⟨N, ι, hI, hm, hs, ht, hpl, hp, h1, h2⟩
  have two : ∀ {xs ys : List AV} {us vs : List Value}, xs.length = us.length → (∀ i (hi : i < xs.length) (hv : i < us.length), RepA P w N s.H ι xs[i] us[i]) → ys.length = vs.length → (∀ i (hi : i < ys.length) (hv : i < vs.length), RepA P w N s.H ι ys[i] vs[i]) →
      ∀ i (hi : i < (xs ++ ys).length) (hv : i < (us ++ vs).length), RepA P w N s.H ι (xs ++ ys)[i] (us ++ vs)[i] := by
    intro xs ys us vs h1 h2 h3 h4 i hi hv
    by_cases hlt : i < xs.length
    · rw [List.getElem_append_left hlt, List.getElem_append_left (by omega)]
      exact h2 i hlt (by omega)
    · rw [List.getElem_append_right (by omega), List.getElem_append_right (by omega)]
      have := h4 (i - xs.length) (by simp at hi; omega) (by simp at hv; omega)
      simpa only [h1] using this
  unfold doOp1 at hd
  split at hd
  · rename_i f as hi
    unfold inlOp at hi
    split at hi
    case h_2 => simp at hi
    rename_i c hop
    refine ⟨fun c' e => (by rw [hop] at e; cases e), ?_⟩
    obtain ⟨callee, args, argTypes⟩ := c
    simp only at hi
    have hm0 : ∀ i (hi : i < (args.toList.map (evalA s.t)).length) (hv : i < (args.toList.map a.eval).length), RepA P w N s.H ι (args.toList.map (evalA s.t))[i] (args.toList.map a.eval)[i] := fun i hi hv => by simpa using hρ _
    have e0 : (args.toList.map a.eval).toArray = args.map a.eval := by rw [← Array.toList_map, Array.toArray_toList]
    -- a function value with what it has taken along
    have clo : ∀ {x0 : Operand} {caps : List AV} {us : Array Value}, callee = .value x0 → a.eval x0 = .func (.func f) #[] us → caps.length = us.toList.length → (∀ i (hi : i < caps.length) (hv : i < us.toList.length), RepA P w N s.H ι caps[i] us.toList[i]) →
        as = args.toList.map (evalA s.t) ++ caps → EndsI P rd a.eval o w fun v w' => ∃ x s', RelA P w0 S N0 pv s' a w' [x] [v] ∧ k x s' = some r := by
      rintro x0 caps us hc hv hl hr rfl
      obtain ⟨g1, g2⟩ := hh.fn pv f _ s k r a (args.toList.map a.eval ++ us.toList) w hpv (lst (by simp at hl ⊢; omega) (two (by simp) hm0 hl hr)) hd
      refine .inr (.inr (.inl ⟨f, args.map a.eval ++ us, ?_, ?_⟩))
      · simp only [execOp, hop, hc, resolve, hv, Deferred.ofValue, invoke, Sem.run_bind, Sem.run_pure, Result.andThen_ok]
        simpa using run_callFunc (w := w) (args := args.map a.eval ++ us) g1
      · have e7 : (args.toList.map a.eval ++ us.toList).toArray = args.map a.eval ++ us := by simp
        rw [e7] at g2
        exact g2.mono fun e w' ⟨v, x, s', q1, q2, q3⟩ => ⟨v, q1, x, s', q2, q3⟩
    split at hi
    · rename_i f'
      split at hi <;> simp at hi
      obtain ⟨rfl, rfl⟩ := hi
      obtain ⟨g1, g2⟩ := hh.fn pv f' _ s k r a (args.toList.map a.eval) w hpv (lst (by simp) hm0) hd
      refine .inr (.inr (.inl ⟨f', args.map a.eval, ?_, ?_⟩))
      · simp only [execOp, hop, resolve, Deferred.ofValue, invoke, Sem.run_bind, Sem.run_pure, Result.andThen_ok, Act.eval]
        simpa using run_callFunc (w := w) (args := args.map a.eval) g1
      · rw [e0] at g2
        exact g2.mono fun e w' ⟨v, x, s', q1, q2, q3⟩ => ⟨v, q1, x, s', q2, q3⟩
    · rename_i x0 hnf
      have hx0 := hρ x0
      split at hi
      · rename_i f' caps heq
        simp at hi
        obtain ⟨rfl, rfl⟩ := hi
        rw [heq] at hx0
        obtain ⟨us, hv, hl, hr⟩ : ∃ us : Array Value, a.eval x0 = .func (.func f') #[] us ∧ us.size = caps.length ∧ ∀ i (hi : i < caps.length), RepA P w N s.H ι caps[i] (us.getD i Go.undef) := by
          generalize a.eval x0 = v at hx0
          cases hx0 with
          | clo hl hr => exact ⟨_, rfl, hl, hr⟩
        refine clo rfl hv (by simpa using hl.symm) (fun i hi hv => ?_) rfl
        have := hr i hi
        simpa [show i < us.size by omega] using this
      · rename_i f' ds heq
        split at hi <;> simp at hi
        obtain ⟨rfl, rfl⟩ := hi
        rw [heq] at hx0
        obtain ⟨us, hv, hl, hr⟩ : ∃ us : Array Value, a.eval x0 = .func (.func f') #[] us ∧ us.size = ds.length ∧ ∀ i (hi : i < ds.length), RepD P w N ds[i] (us.getD i Go.undef) := by
          generalize a.eval x0 = v at hx0
          cases hx0 with
          | imm hx0 =>
          cases hx0 with
          | clo _ _ us hl hr => exact ⟨us, rfl, hl, hr⟩
        refine clo rfl hv (by simpa using hl.symm) (fun i hi hv => ?_) rfl
        simp at hi
        have := RepA.imm (H := s.H) (ι := ι) (hr i hi)
        simpa [show i < us.size by omega] using this
      · simp at hi
      · simp at hi
    · simp at hi
  · rename_i id as hi
    unfold inlOp at hi
    split at hi
    case h_2 => simp at hi
    rename_i c hop
    refine ⟨fun c' e => (by rw [hop] at e; cases e), ?_⟩
    obtain ⟨callee, args, argTypes⟩ := c
    simp only at hi
    split at hi
    · split at hi <;> simp at hi
    · rename_i x0 hnf
      have hx0 := hρ x0
      split at hi
      · simp at hi
      · split at hi <;> simp at hi
      · rename_i id' heq
        simp at hi
        obtain ⟨rfl, rfl⟩ := hi
        rw [heq] at hx0
        obtain ⟨b, hv⟩ : ∃ b, a.eval x0 = .func (.yield b) #[] #[] := by
          generalize a.eval x0 = v at hx0
          cases hx0 with
          | yld _ hv _ => exact hv
        obtain ⟨fn, tmps, asg, bd, g1, g2⟩ := hh.yl pv id' _ s k r a (args.toList.map a.eval) b w rd hpv (lst (by simp) fun i hi hv' => by
          cases i with
          | zero => rw [← hv]; exact hx0
          | succ i => simpa using hρ _) hd
        refine .inr (.inr (.inr ⟨b, fn, tmps, asg, bd, ?_, g2⟩))
        have e0 : (args.toList.map a.eval).toArray = args.map a.eval := by rw [← Array.toList_map, Array.toArray_toList]
        rw [e0] at g1
        simp only [execOp, hop, resolve, hv, Deferred.ofValue, invoke, Sem.run_bind, Sem.run_pure, Result.andThen_ok]
        simpa using g1
      · simp at hi
    · simp at hi
  · have hd := splitI_spec hd
    obtain ⟨x, H', h1, h2⟩ := opK_spec hd
    refine ⟨opF_nodefer h1, (?_ : EndsI P rd a.eval o w _)⟩
    have := (opF_sound hX hI hρ (fun f => rfl) h1).i (rd := rd)
    have fin : ∀ v w', (∃ N' ι', Inv P w0 S N0 H' w' N' ι' ∧ Fwd N ι s.H w N' ι' H' w' ∧ RepA P w' N' H' ι' x v) → ∃ x s', RelA P w0 S N0 pv s' a w' [x] [v] ∧ k x s' = some r := by
      rintro v w' ⟨N', ι', g1, g2, g3⟩
      exact ⟨x, ⟨s.t, H', s.p, s.d⟩, ⟨N', ι', g1, hm.fwd g2, hs, fun i hi => (ht i hi).fwd g2, hpl, fun i hi hv => (hp i hi hv).fwd g2, rfl, fun i hi hv => by
        simp at hi
        subst hi
        exact g3⟩, h2⟩
    rcases this with ⟨v, w', q1, q2⟩ | ⟨w', q1, q2⟩ | ⟨f, args, q1, q2⟩ | ⟨l, f, tmps, as, bd, q1, q2⟩
    · exact .inl ⟨v, w', q1, fin _ _ q2⟩
    · exact .inr (.inl ⟨w', q1, fin _ _ q2⟩)
    · exact .inr (.inr (.inl ⟨f, args, q1, q2.mono fun e w' ⟨v, h1, h2⟩ => ⟨v, h1, fin _ _ h2⟩⟩))
    · exact .inr (.inr (.inr ⟨l, f, tmps, as, bd, q1, q2.mono fun e w' ⟨v, h1, h2⟩ => ⟨v, h1, fin _ _ h2⟩⟩))
end
end Go.Ab
