/-
  AN ABSTRACT LAYER, 19d: calls that are run where they stand; rounds.
-/
import Derived.Test.YtfdcmbjkapcbcacAbRun2
namespace Go.Ab
variable {P : Program}

section
variable {w0 : World} {S N0 : Nat → Prop} {R : Type} {X : List Entry}

/-- The marks are run. -/
theorem leave_sound {N : Nat → Prop} {ι : Place} {fn : Func} {tmps : Array Value} {RR : Ending → World → Prop} : ∀ (d : List AV) (ms : List Value) (H H' : Heap) (w : World), Inv P w0 S N0 H w N ι → d.length = ms.length → (∀ i (hi : i < d.length) (hm : i < ms.length), RepA P w N H ι d[i] ms[i]) → leaveD d H = some H' →
    (∀ w', Inv P w0 S N0 H' w' N ι → Fwd N ι H w N ι H' w' → LeavesInM Fence.wide 0 P fn tmps RR [] .returning w') → LeavesInM Fence.wide 0 P fn tmps RR (ms.map markOf) .returning w
  | [], ms, H, H', w, hI, hl, hr, h, hk => by
    have : ms = [] := List.eq_nil_of_length_eq_zero hl.symm
    subst this
    simp [leaveD] at h
    subst h
    exact hk w hI (Fwd.refl _ _ _ _)
  | x :: d, [], H, H', w, hI, hl, hr, h, hk => by simp at hl
  | x :: d, m :: ms, H, H', w, hI, hl, hr, h, hk => by
    unfold leaveD at h
    split at h
    · rename_i heq; cases heq
    · rename_i id d' heq
      cases heq
      split at h
      case h_2 => simp at h
      rename_i hH
      have hx := hr 0 (by simp) (by simp)
      simp only [List.getElem_cons_zero] at hx
      cases hx with
      | dfr _ _ hx =>
      obtain ⟨b, c, q1, rfl⟩ := hx _ hH rfl
      obtain ⟨b', c', q2, q3⟩ := hI.rows id _ hH
      rw [q1] at q2
      cases q2
      obtain ⟨k1, k2⟩ := hI.updO (r' := .dead) (w' := w.putObj b (.deferred none)) hH rfl q1 rfl rfl rfl rfl (by simp) (fun k hk => World.putObj_heap_other hk) q3 (by simp) fun _ => trivial
      refine ⟨by simp, .inl ⟨b, _, rfl, run_takeDeferred q3, ?_⟩⟩
      exact leave_sound d ms _ H' _ k1 (by simpa using hl) (fun i hi hm => (hr (i + 1) (Nat.succ_lt_succ hi) (Nat.succ_lt_succ hm)).fwd k2) h fun w' hi hf => hk w' hi (k2.trans hf)
    · simp at h

theorem foldl_set (ps : List Tmp) (vs : List Value) (tm : Array Value) : ps.length = vs.length → (ps.toArray.zip vs.toArray).foldl (fun tmps (t, a) => tmps.setIfInBounds t a) tm = (ps.zip vs).foldl (fun tmps p => tmps.setIfInBounds p.1 p.2) tm := by
  intro _
  rw [← Array.foldl_toList]
  simp

theorem setPs_rep {w : World} {N : Nat → Prop} {H : Heap} {ι : Place} : ∀ (ps : List Tmp) (as : List AV) (vs : List Value) (ts : List AV) (tm : Array Value), ps.length = as.length → as.length = vs.length → (∀ i (hi : i < as.length) (hv : i < vs.length), RepA P w N H ι as[i] vs[i]) →
    tm.size = ts.length → (∀ i (hi : i < ts.length), RepA P w N H ι ts[i] (tm.getD i Go.undef)) →
    ((ps.zip vs).foldl (fun tmps p => tmps.setIfInBounds p.1 p.2) tm).size = (setPs ps as ts).length ∧ ∀ i (hi : i < (setPs ps as ts).length), RepA P w N H ι (setPs ps as ts)[i] (((ps.zip vs).foldl (fun tmps p => tmps.setIfInBounds p.1 p.2) tm).getD i Go.undef)
  | [], as, vs, ts, tm, h1, h2, _, h3, h4 => by
    have : as = [] := List.eq_nil_of_length_eq_zero h1.symm
    subst this
    simp only [setPs, List.zip_nil_left, List.foldl_nil]
    exact ⟨h3, h4⟩
  | p :: ps, [], vs, ts, tm, h1, _, _, _, _ => by simp at h1
  | p :: ps, a :: as, [], ts, tm, _, h2, _, _, _ => by simp at h2
  | p :: ps, a :: as, v :: vs, ts, tm, h1, h2, hr, h3, h4 => by
    simp only [setPs, List.zip_cons_cons, List.foldl_cons]
    refine setPs_rep ps as vs (ts.set p a) (tm.setIfInBounds p v) (by simpa using h1) (by simpa using h2) (fun i hi hv => hr (i + 1) (Nat.succ_lt_succ hi) (Nat.succ_lt_succ hv)) (by simpa using h3) fun i hi => ?_
    simp only [List.length_set] at hi
    simp only [List.getElem_set]
    by_cases hpi : p = i
    · subst hpi
      have : p < tm.size := by rw [h3]; exact hi
      simp [this]
      exact hr 0 (by simp) (by simp)
    · simp only [hpi, if_false]
      have := h4 i hi
      simpa [Array.getElem?_setIfInBounds_ne hpi] using this

/-- What a frame keeps while another runs. -/
theorem keep_rep {w : World} {N : Nat → Prop} {H : Heap} {ι : Place} {s : St} {a : Act} {pv : List Value} (hm : Marks P w N H ι s.d a.defers) (hs : a.tmps.size = s.t.length) (ht : ∀ i (hi : i < s.t.length), RepA P w N H ι s.t[i] (a.tmps.getD i Go.undef))
    (hpl : s.p.length = pv.length) (hp : ∀ i (hi : i < s.p.length) (hv : i < pv.length), RepA P w N H ι s.p[i] pv[i]) :
    ∃ ms : List Value, a.defers = ms.map markOf ∧ (s.t ++ .tup s.d :: s.p).length = (a.tmps.toList ++ .tuple ms.toArray :: pv).length ∧
      ∀ i (hi : i < (s.t ++ .tup s.d :: s.p).length) (hv : i < (a.tmps.toList ++ .tuple ms.toArray :: pv).length), RepA P w N H ι (s.t ++ .tup s.d :: s.p)[i] (a.tmps.toList ++ .tuple ms.toArray :: pv)[i] := by
  obtain ⟨ms, m1, m2⟩ := hm
  refine ⟨ms, m1, by simp [hs, hpl], fun i hi hv => ?_⟩
  by_cases hlt : i < s.t.length
  · rw [List.getElem_append_left hlt, List.getElem_append_left (by simpa [hs] using hlt)]
    have := ht i hlt
    simpa [show i < a.tmps.size by omega] using this
  · rw [List.getElem_append_right (by omega), List.getElem_append_right (by simp [hs]; omega)]
    have e : i - a.tmps.toList.length = i - s.t.length := by simp [hs]
    simp only [e]
    by_cases h0 : i - s.t.length = 0
    · simp only [h0, List.getElem_cons_zero]
      exact m2
    · obtain ⟨j, hj⟩ : ∃ j, i - s.t.length = j + 1 := ⟨i - s.t.length - 1, by omega⟩
      simp only [hj, List.getElem_cons_succ]
      exact hp j (by simp at hi; omega) (by simp [hs] at hv; omega)

/-- The frame that was kept comes back. -/
theorem back_rep {w : World} {N : Nat → Prop} {H : Heap} {ι : Place} {a : Act} {ms pv : List Value} {q : List AV} {n : Nat} {d p : List AV} (hn : a.tmps.size = n) (hl : q.length = (a.tmps.toList ++ .tuple ms.toArray :: pv).length)
    (hr : ∀ i (hi : i < q.length) (hv : i < (a.tmps.toList ++ .tuple ms.toArray :: pv).length), RepA P w N H ι q[i] (a.tmps.toList ++ .tuple ms.toArray :: pv)[i]) (hq : q.drop n = .tup d :: p) (hmk : a.defers = ms.map markOf) :
    Marks P w N H ι d a.defers ∧ a.tmps.size = (q.take n).length ∧ (∀ i (hi : i < (q.take n).length), RepA P w N H ι (q.take n)[i] (a.tmps.getD i Go.undef)) ∧ p.length = pv.length ∧ ∀ i (hi : i < p.length) (hv : i < pv.length), RepA P w N H ι p[i] pv[i] := by
  have hql : q.length = n + 1 + pv.length := by simp [hn] at hl; omega
  have hpl : p.length = pv.length := by
    have := congrArg List.length hq
    simp at this
    omega
  have hd : ∀ i (hi : i < (q.drop n).length) (hv : i < (Value.tuple ms.toArray :: pv).length), RepA P w N H ι (q.drop n)[i] (Value.tuple ms.toArray :: pv)[i] := fun i hi hv => by
    have := hr (n + i) (by simp at hi; omega) (by simp [hn] at hv ⊢; omega)
    rw [List.getElem_append_right (by simp [hn])] at this
    simpa [hn] using this
  refine ⟨⟨ms, hmk, ?_⟩, by simp; omega, fun i hi => ?_, hpl, fun i hi hv => ?_⟩
  · have := hd 0 (by rw [hq]; simp) (by simp)
    simpa [hq] using this
  · have hi' : i < n := by rw [List.length_take] at hi; exact (Nat.lt_min.1 hi).1
    have := hr i (by omega) (by simp [hn]; omega)
    rw [List.getElem_append_left (by simpa [hn] using hi')] at this
    simpa [show i < a.tmps.size by omega] using this
  · have := hd (i + 1) (by rw [hq]; simpa using hi) (by simpa using hv)
    simpa [hq] using this

theorem keep_pins {a : Act} {ms pv : List Value} (h : Pins S pv) : Pins S (a.tmps.toList ++ .tuple ms.toArray :: pv) := h.more fun v hv => by simp [hv]

/-- A value and a state under new names. -/
theorem tidyV_sound {s : St} {a : Act} {w : World} {x : AV} {v : Value} {pv : List Value} {k : AV → St → Option R} {r : R} (hR : RelA P w0 S N0 pv s a w [x] [v]) (h : tidyV x s k = some r) : ∃ x' s', RelA P w0 S N0 pv s' a w [x'] [v] ∧ k x' s' = some r := by
  obtain ⟨N, ι, hI, hm, hs, ht, hpl, hp, _, hx⟩ := hR
  have hR2 : Rel P w0 S N0 (v :: pv) ⟨s.t, s.H, x :: s.p, s.d⟩ a w := ⟨N, ι, hI, hm, hs, ht, by simpa using hpl, fun i hi hv => by
    cases i with
    | zero => exact hx 0 (by simp) (by simp)
    | succ i => exact hp i (by simpa using hi) (by simpa using hv)⟩
  have hR3 := tidy_rel hR2
  unfold tidyV at h
  generalize tidy ⟨s.t, s.H, x :: s.p, s.d⟩ = s2 at h hR3
  obtain ⟨t2, H2, p2, d2⟩ := s2
  cases p2 with
  | nil => simp at h
  | cons x' p' =>
    obtain ⟨N', ι', hI', hm', hs', ht', hpl', hp'⟩ := hR3
    exact ⟨x', ⟨t2, H2, p', d2⟩, ⟨N', ι', hI', hm', hs', ht', by simpa using hpl', fun i hi hv => by
      have := hp' (i + 1) (by simpa using hi) (by simpa using hv)
      simpa using this, rfl, fun i hi hv => by
      simp at hi
      subst hi
      exact hp' 0 (by simp) (by simp)⟩, h⟩

/-- At the end of a function whose code was run where it was called. -/
theorem endFn_sound {fn : Func} {n : Nat} {k : AV → St → Option R} {r : R} {e : Ex} {s : St} {a a0 : Act} {ms pv : List Value} {w : World} (hR : Rel P w0 S N0 (a0.tmps.toList ++ .tuple ms.toArray :: pv) s a w) (hn : a0.tmps.size = n) (hmk : a0.defers = ms.map markOf) (h : endFn P fn n k e s = some r) :
    (∀ i, e ≠ .exit i) ∧ LeavesInM Fence.wide 0 P fn a.tmps (fun e w' => ∃ v x s', e = .returned v ∧ RelA P w0 S N0 pv s' a0 w' [x] [v] ∧ k x s' = some r) a.defers .returning w := by
  unfold endFn at h
  split at h
  · simp at h
  rename_i he
  refine ⟨fun i hi => he i hi, ?_⟩
  simp only [Option.bind_eq_some_iff] at h
  obtain ⟨H, h1, xs, h2, h3⟩ := h
  split at h3
  case h_2 => simp at h3
  rename_i d p hq
  obtain ⟨N, ι, hI, ⟨ms', m1, m2⟩, hs, ht, hpl, hp⟩ := hR
  rw [m1]
  cases m2 with
  | tup ml mr =>
  refine leave_sound s.d ms' s.H H w hI (by simpa using ml.symm) (fun i hi hm => ?_) h1 fun w' hI' hf => ?_
  · have := mr i hi
    simpa [hm] using this
  · obtain ⟨us, u1, u2, u3⟩ := results_run (s := ⟨s.t, H, s.p, []⟩) hI' (fun i hi => (ht i hi).fwd hf) _ _ h2
    obtain ⟨b1, b2, b3, b4, b5⟩ := back_rep hn hpl (fun i hi hv => (hp i hi hv).fwd hf) hq hmk
    obtain ⟨x', s', z1, z2⟩ := tidyV_sound (pv := pv) (a := a0) (w := w') (v := packed us) ⟨N, ι, hI', b1, b2, b3, b4, b5, rfl, fun i hi hv => by
      simp at hi
      subst hi
      exact pack_rep u2 u3⟩ h3
    exact ⟨packed us, run_results u1, packed us, x', s', rfl, z1, z2⟩

theorem start_rep {w : World} {N : Nat → Prop} {H : Heap} {ι : Place} {as : List AV} {vs : List Value} (hl : as.length = vs.length) (hr : ∀ i (hi : i < as.length) (hv : i < vs.length), RepA P w N H ι as[i] vs[i]) (n : Nat) :
    (vs.toArray ++ Array.replicate (n - vs.toArray.size) Go.undef).size = (as ++ List.replicate (n - as.length) AV.undef).length ∧
    ∀ i (hi : i < (as ++ List.replicate (n - as.length) AV.undef).length), RepA P w N H ι (as ++ List.replicate (n - as.length) AV.undef)[i] ((vs.toArray ++ Array.replicate (n - vs.toArray.size) Go.undef).getD i Go.undef) := by
  refine ⟨by simp [hl], fun i hi => ?_⟩
  by_cases hlt : i < as.length
  · rw [List.getElem_append_left hlt]
    have e : (vs.toArray ++ Array.replicate (n - vs.toArray.size) Go.undef).getD i Go.undef = vs[i]'(by omega) := by
      rw [Array.getD_eq_getD_getElem?, Array.getElem?_append_left (by simp; omega)]
      simp [show i < vs.length by omega]
    rw [e]
    exact hr i hlt (by omega)
  · rw [List.getElem_append_right (by omega)]
    have e : (vs.toArray ++ Array.replicate (n - vs.toArray.size) Go.undef).getD i Go.undef = Go.undef := by
      rw [Array.getD_eq_getD_getElem?, Array.getElem?_append_right (by simp; omega)]
      simp [Array.getElem?_replicate]
      split <;> rfl
    rw [e]
    simp only [List.getElem_replicate]
    exact .undef

/-- A call that is run where it stands. -/
theorem fnH_ok {I : List Inl} (hI0 : ∀ i ∈ I, P.funcs[i.f]? = some i.fn ∧ (i.fn.name == "runtime.NumGoroutine") = false) {run : FuncId → Code → St → (Ex → St → Option R) → Option R} (hrun : RunOK P w0 S N0 none run)
    (pv : List Value) (f : FuncId) (as : List AV) (s : St) (k : AV → St → Option R) (r : R) (a : Act) (vs : List Value) (w : World) (hpv : Pins S pv) (hR : RelA P w0 S N0 pv s a w as vs) (h : fnH P I run f as s k = some r) :
    fnOK P f ∧ Calls P f vs.toArray w fun e w' => ∃ v x s', e = .returned v ∧ RelA P w0 S N0 pv s' a w' [x] [v] ∧ k x s' = some r := by
  unfold fnH at h
  split at h
  case h_2 => simp at h
  rename_i i hi
  split at h
  case h_2 => simp at h
  rename_i c hb
  obtain rfl : i.f = f := by
    have := List.find?_some hi
    simpa using this
  obtain ⟨hf, hn⟩ := hI0 i (List.mem_of_find?_eq_some hi)
  refine ⟨⟨i.fn, hf, hn, by rw [hb]; rfl⟩, (callsIn_wide (n := 0)).1 ?_⟩
  obtain ⟨N, ι, hI, hm, hs, ht, hpl, hp, hl, hr⟩ := hR
  obtain ⟨ms, m1, m2, m3⟩ := keep_rep hm hs ht hpl hp
  obtain ⟨s1, s2⟩ := start_rep hl hr i.fn.ntmps
  refine callsIn_of_wp_marks hf hb trivial ?_ rfl
  refine hrun _ i.f c _ _ r _ w _ (keep_pins hpv) (tidy_rel (⟨N, ι, hI, ⟨[], rfl, .tup rfl (by simp)⟩, s1, s2, m2, m3⟩ : Rel P w0 S N0 (a.tmps.toList ++ .tuple ms.toArray :: pv) ⟨as ++ List.replicate (i.fn.ntmps - as.length) .undef, s.H, s.t ++ .tup s.d :: s.p, []⟩ { tmps := vs.toArray ++ Array.replicate (i.fn.ntmps - vs.toArray.size) Go.undef, defers := [] } w)) h ?_
  intro e s' a' w' hR' hk
  obtain ⟨e1, e2⟩ := endFn_sound hR' hs m1 hk
  cases e with
  | normal => exact e2
  | ret => exact e2
  | exit id => exact absurd rfl (e1 id)

/-- The end of a round. -/
theorem endRound_sound {b n : Nat} {k : AV → St → Option R} {r : R} {e : Ex} {s : St} {a a0 : Act} {ms pv : List Value} {w : World} (hR : Rel P w0 S N0 (.func (.yield b) #[] #[] :: (a0.tmps.toList ++ .tuple ms.toArray :: pv)) s a w) (hn : a0.tmps.size = n) (hmk : a0.defers = ms.map markOf)
    (h : endRound n k e s = some r) : roundPost P b (fun e w' => ∃ v, e = .returned v ∧ ∃ x s', RelA P w0 S N0 pv s' a0 w' [x] [v] ∧ k x s' = some r) e.to a w := by
  unfold endRound at h
  split at h
  case h_2 => simp at h
  rename_i id q hp0
  split at h
  case h_2 => simp at h
  rename_i me ts ps as bd hH
  split at h
  case h_2 => simp at h
  rename_i d p hq
  obtain ⟨N, ι, hI, hm, hs, ht, hpl, hp⟩ := hR
  have hy := hp 0 (by rw [hp0]; simp) (by simp)
  simp only [hp0, List.getElem_cons_zero] at hy
  have hpl' : q.length = (a0.tmps.toList ++ .tuple ms.toArray :: pv).length := by rw [hp0] at hpl; simpa using hpl
  have hp' : ∀ i (hi : i < q.length) (hv : i < (a0.tmps.toList ++ .tuple ms.toArray :: pv).length), RepA P w N s.H ι q[i] (a0.tmps.toList ++ .tuple ms.toArray :: pv)[i] := fun i hi hv => by
    have := hp (i + 1) (by rw [hp0]; simpa using hi) (by simpa using hv)
    simpa only [hp0, List.getElem_cons_succ] using this
  obtain ⟨bb, c, L, q1, q2, q3, q4, q5⟩ := hI.rows id _ hH
  cases hy with
  | yld _ _ hy =>
  obtain ⟨b', c', e1, e2⟩ := hy _ hH rfl
  rw [q1] at e1
  cases e1
  cases e2
  have fin : ∀ jump : Option Code, jump = e.jump → ∃ v w', (Instr.endRound b jump).run P w = .ok v w' ∧ ∃ v', Ending.returned v = .returned v' ∧ ∃ x s', RelA P w0 S N0 pv s' a0 w' [x] [v'] ∧ k x s' = some r := by
    rintro jump rfl
    have h1 := run_endRound (P := P) e.jump q2
    obtain ⟨k1, k2⟩ := loop_turn (st' := e.after) hI hH q1 q2 q5 (if e.jump.isNone then .ready else .done) e.jump (by cases e <;> rfl) (by cases e <;> rfl)
    obtain ⟨b1, b2, b3, b4, b5⟩ := back_rep hn hpl' (fun i hi hv => (hp' i hi hv).fwd k2) hq hmk
    obtain ⟨x', s', z1, z2⟩ := tidyV_sound (pv := pv) (a := a0) (v := .bool e.jump.isNone) ⟨N, ι, k1, b1, b2, b3, b4, b5, rfl, fun i hi hv => by
      simp at hi
      subst hi
      have : e.jump.isNone = e.isNormal := by cases e <;> rfl
      rw [this]
      exact .imm (.bool _)⟩ h
    exact ⟨_, _, h1, _, rfl, x', s', z1, z2⟩
  cases e with
  | normal => exact fin none rfl
  | ret => exact fin (some .ret) rfl
  | exit i => exact fin (some (.exit i)) rfl

/-- A call of yield. -/
theorem ylH_ok {run : FuncId → Code → St → (Ex → St → Option R) → Option R} (hrun : ∀ l, RunOK P w0 S N0 (some l) run)
    (pv : List Value) (id : Nat) (as : List AV) (s : St) (k : AV → St → Option R) (r : R) (a : Act) (vs : List Value) (b : Nat) (w : World) (rd : Option Nat) (hpv : Pins S pv) (hR : RelA P w0 S N0 pv s a w (.yld id :: as) (.func (.yield b) #[] #[] :: vs)) (h : ylH run id as s k = some r) :
    ∃ fn tmps as bd, (Instr.yield b vs.toArray).run P w = .ok (.round b fn tmps as bd) w ∧ RoundIn (FR rd) 0 P b fn tmps as bd w fun e w' => ∃ v, e = .returned v ∧ ∃ x s', RelA P w0 S N0 pv s' a w' [x] [v] ∧ k x s' = some r := by
  unfold ylH at h
  split at h
  case h_2 => simp at h
  rename_i me ts ps asg bd hH
  split at h
  case isFalse => simp at h
  rename_i hlen
  obtain ⟨N, ι, hI, hm, hs, ht, hpl, hp, hl, hr⟩ := hR
  have hy := hr 0 (by simp) (by simp)
  simp only [List.getElem_cons_zero] at hy
  have hl' : as.length = vs.length := by simpa using hl
  have hr' : ∀ i (hi : i < as.length) (hv : i < vs.length), RepA P w N s.H ι as[i] vs[i] := fun i hi hv => hr (i + 1) (Nat.succ_lt_succ hi) (Nat.succ_lt_succ hv)
  obtain ⟨bb, c, L, q1, q2, q3, q4, q5, q6, q7, q8, q9⟩ := hI.rows id _ hH
  have hyo := hy
  cases hy with
  | yld _ _ hy =>
  obtain ⟨b', c', e1, e2⟩ := hy _ hH rfl
  rw [q1] at e1
  cases e1
  cases e2
  have hyl := run_yield (P := P) (args := vs.toArray) q2 (by rw [q5]; simp; omega)
  rw [q5, foldl_set ps vs L.tmps (by omega)] at hyl
  obtain ⟨t1, t2⟩ := setPs_rep ps as vs ts L.tmps (by omega) hl' hr' q8 q9
  obtain ⟨ms, m1, m2, m3⟩ := keep_rep hm hs ht hpl hp
  have hlast : ∀ l, (FR rd).inRound l = FR (some l) := fun l => by cases rd <;> rfl
  refine ⟨_, _, _, _, hyl, roundIn_of_wpIn (FR_fn rd _) ?_⟩
  rw [hlast, q6, q7]
  have hstart : Rel P w0 S N0 (.func (.yield b) #[] #[] :: (a.tmps.toList ++ .tuple ms.toArray :: pv)) ⟨setPs ps as ts, s.H, .yld id :: (s.t ++ .tup s.d :: s.p), []⟩ { tmps := (ps.zip vs).foldl (fun tmps p => tmps.setIfInBounds p.1 p.2) L.tmps, defers := [] } w :=
    ⟨N, ι, hI, ⟨[], rfl, .tup rfl (by simp)⟩, t1, t2, by simpa using m2, fun i hi hv => by
      cases i with
      | zero => exact hyo
      | succ i => exact m3 i (by simpa using hi) (by simpa using hv)⟩
  have hpv2 : Pins S (.func (.yield b) #[] #[] :: (a.tmps.toList ++ .tuple ms.toArray :: pv)) := (keep_pins hpv).more fun v hv => List.mem_cons_of_mem _ hv
  refine hrun b _ me asg _ _ r _ w _ hpv2 (tidy_rel hstart) h ?_
  intro e s1 a1 w1 hR1 hk
  unfold midRound at hk
  split at hk
  case h_2 => simp at hk
  rename_i id1 pp hp1
  split at hk
  case h_2 => simp at hk
  rename_i me1 ts1 ps1 as1 bd1 hH1
  obtain ⟨N1, ι1, hI1, hm1, hs1, ht1, hpl1, hpp1⟩ := hR1
  have hy1 := hpp1 0 (by rw [hp1]; simp) (by simp)
  simp only [hp1, List.getElem_cons_zero] at hy1
  obtain ⟨bb1, c1, L1, z1, z2, z3, z4, z5⟩ := hI1.rows id1 _ hH1
  cases hy1 with
  | yld _ _ hy1 =>
  obtain ⟨b'', c'', e3, e4⟩ := hy1 _ hH1 rfl
  rw [z1] at e3
  cases e3
  cases e4
  have hbr := run_beginRound (P := P) z2 z3
  obtain ⟨k1, k2⟩ := loop_turn (st' := .busy) hI1 hH1 z1 z2 z5 .busy L1.pending rfl (by rw [z4]; rfl)
  refine ⟨_, hbr, ?_⟩
  refine hrun b _ me bd _ _ r a1 _ _ hpv2 (⟨N1, ι1, k1, hm1.fwd k2, hs1, fun i hi => (ht1 i hi).fwd k2, hpl1, fun i hi hv => (hpp1 i hi hv).fwd k2⟩ : Rel P w0 S N0 (.func (.yield b) #[] #[] :: (a.tmps.toList ++ .tuple ms.toArray :: pv)) ⟨s1.t, s1.H.set id1 (.loop me1 ts1 ps1 as1 bd1 .busy), s1.p, s1.d⟩ a1 _) hk ?_
  intro e2 s2 a2 w2 hR2 hk2
  exact endRound_sound hR2 hs m1 hk2

/-- Code whose calls are run where they stand. -/
theorem codeN_ok (hX : ∀ E ∈ X, CallSpec P E) (hmo : P.follows .mixedOrders = true) {I : List Inl} (hI0 : ∀ i ∈ I, P.funcs[i.f]? = some i.fn ∧ (i.fn.name == "runtime.NumGoroutine") = false) {fuel : Nat} {np : Bool} (hS : np = true → ∀ b, ¬ S b) :
    ∀ (d : Nat) (rd : Option Nat), RunOK P w0 S N0 rd (codeN (R := R) P X I fuel np d rd.isSome)
  | 0, rd => codeI_sound hX hmo hS Hds.no_ok rd
  | d + 1, rd => codeI_sound hX hmo hS ⟨fun pv f as s k r a vs w => fnH_ok hI0 (codeN_ok hX hmo hI0 hS d none) pv f as s k r a vs w, fun pv id as s k r a vs b w rd => ylH_ok (fun l => codeN_ok hX hmo hI0 hS d (some l)) pv id as s k r a vs b w rd⟩ rd
end
end Go.Ab
