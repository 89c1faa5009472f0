/-
  AN ABSTRACT LAYER, 19c: code is sound: regions, loops, ranges over functions.
-/
import Derived.Test.YtfdcmbjkapcbcacAbRun
namespace Go.Ab
variable {P : Program}

section
variable {w0 : World} {S N0 : Nat → Prop} {pv : List Value} {R : Type} {X : List Entry} {A : Ann} {ops : Array Oper}

theorem Rel.bool {s : St} {a : Act} {w : World} {d : Nat} {b : Bool} (hR : Rel P w0 S N0 pv s a w) (h : s.t[d]? = some (.imm (.bool b))) : a.eval (.tmp d) = .bool b := by
  obtain ⟨N, ι, hI, hd, hs, ht, _⟩ := hR
  have := rep_evalA ht (.tmp d)
  rw [show evalA s.t (.tmp d) = .imm (.bool b) by simp [evalA, List.getD, h]] at this
  generalize a.eval (.tmp d) = v at this
  cases this with
  | imm this =>
  cases this
  rfl

theorem Rel.wanted {s : St} {a : Act} {w : World} {o : Oper} {b : Bool} (hR : Rel P w0 S N0 pv s a w) (h : wantedA ops o s.t = some b) : Region.wanted o (yielded ops a.tmps) = b := by
  obtain ⟨N, ι, hI, hd, hs, ht, _⟩ := hR
  exact wantedA_sound hs ht h

theorem Rel.undef {s : St} {a : Act} {w : World} (hR : Rel P w0 S N0 pv s a w) (dst : Option Tmp) : Rel P w0 S N0 pv ⟨putA s.t dst .undef, s.H, s.p, s.d⟩ (a.put dst Go.undef) w := by
  obtain ⟨N, ι, hI, hd, hs, ht, hpl, hp⟩ := hR
  obtain ⟨q1, q2⟩ := put_rel (dst := dst) hs ht (x := .undef) .undef
  exact ⟨N, ι, hI, by rw [put_defers']; exact hd, q1, q2, hpl, hp⟩

/-- The first of some operations. -/
theorem opsI_first (hX : ∀ E ∈ X, CallSpec P E) {h : Oper → Hds R} {o : Oper} (hh : HOK P w0 S N0 (h o)) (hpv : Pins S pv) {rd : Option Nat} {k : St → Option R} {r : R} {Q : Exit → Act → World → Prop} {l : List Oper} {s : St} {a : Act} {w : World}
    (hR : Rel P w0 S N0 pv s a w) (hr : opsI P X A h ops (o :: l) s k = some r) {T : Act → World → Prop} (hT : ∀ s' a' w', Rel P w0 S N0 pv s' a' w' → opsI P X A h ops l s' k = some r → T a' w') :
    if Region.wanted o (yielded ops a.tmps) = true then o.wpIn (FR rd) 0 P a w T Q else (∀ f, o.about P w a.eval = some f → (FR rd).fn f) ∧ T (a.put o.dst Go.undef) w := by
  have go : ∀ s : St, Rel P w0 S N0 pv s a w → wantedA ops o s.t = some true → (doOp P X A (h o) o s fun x s' => opsI P X A h ops l ⟨putA s'.t o.dst x, s'.H, s'.p, s'.d⟩ k) = some r →
      (if Region.wanted o (yielded ops a.tmps) = true then o.wpIn (FR rd) 0 P a w T Q else (∀ f, o.about P w a.eval = some f → (FR rd).fn f) ∧ T (a.put o.dst Go.undef) w) := by
    intro s hR hw hd
    rw [hR.wanted hw, if_pos rfl]
    obtain ⟨g1, g2⟩ := doOp_sound (rd := rd) hX hh hpv hR hd
    exact g2.wp g1 fun v w' ⟨x, s', q1, q2⟩ => hT _ _ _ (q1.put o.dst) q2
  have skip : ∀ s : St, Rel P w0 S N0 pv s a w → wantedA ops o s.t = some false → opsI P X A h ops l ⟨putA s.t o.dst .undef, s.H, s.p, s.d⟩ k = some r →
      (if Region.wanted o (yielded ops a.tmps) = true then o.wpIn (FR rd) 0 P a w T Q else (∀ f, o.about P w a.eval = some f → (FR rd).fn f) ∧ T (a.put o.dst Go.undef) w) := by
    intro s hR hw hd
    rw [hR.wanted hw]
    simp only [Bool.false_eq_true, if_false]
    exact ⟨fun f _ => FR_fn rd f, hT _ _ _ (hR.undef o.dst) hd⟩
  unfold opsI at hr
  split at hr
  · rename_i hg
    exact go s hR (by simp [wantedA, hg]) hr
  · rename_i jj want hg
    split at hr
    · rename_i hd
      exact skip s hR (by simp [wantedA, hg, hd]) hr
    · rename_i d hd
      split at hr
      · rename_i ht
        exact skip s hR (by simp [wantedA, hg, hd, ht]) hr
      · rename_i ht
        exact skip s hR (by simp [wantedA, hg, hd, ht]) hr
      · rename_i b ht
        split at hr
        · rename_i b'
          rw [set_self ht] at hr
          split at hr
          · rename_i hw
            exact go s hR (by simp [wantedA, hg, hd, ht, hw]) hr
          · rename_i hw
            exact skip s hR (by simp [wantedA, hg, hd, ht, hw]) hr
        · rename_i b'
          rw [set_self ht] at hr
          split at hr
          · rename_i hw
            exact skip s hR (by simp [wantedA, hg, hd, ht, hw]) hr
          · rename_i hw
            exact go s hR (by simp [wantedA, hg, hd, ht, hw]) hr
      · simp at hr

/-- Operations in the order of the text. -/
theorem opsI_sound (hX : ∀ E ∈ X, CallSpec P E) {h : Oper → Hds R} (hh : ∀ o, HOK P w0 S N0 (h o)) (hpv : Pins S pv) {rd : Option Nat} {k : St → Option R} {r : R} {Q : Exit → Act → World → Prop} :
    ∀ (l : List Oper) (j : Nat) (s : St) (a : Act) (w : World), (∀ q, l[q]? = ops[j + q]?) → Rel P w0 S N0 pv s a w → opsI P X A h ops l s k = some r →
    (∀ s' a' w', Rel P w0 S N0 pv s' a' w' → k s' = some r → Q .normal a' w') → wpOpsIn (FR rd) 0 P ops Q ((List.range l.length).map (j + ·)) a w
  | [], j, s, a, w, _, hR, hr, hQ => hQ s a w hR hr
  | o :: l, j, s, a, w, hl, hR, hr, hQ => by
    have ho : ops[j]? = some o := by simpa using (hl 0).symm
    have hrg : (List.range (o :: l).length).map (j + ·) = j :: (List.range l.length).map (j + 1 + ·) := by
      simp only [List.length_cons, List.range_succ_eq_map, List.map_cons, List.map_map, Nat.add_zero]
      congr 1
      apply List.map_congr_left
      intro i _
      simp only [Function.comp]
      omega
    rw [hrg]
    simp only [wpOpsIn, ho]
    exact opsI_first hX (hh o) hpv hR hr fun s' a' w' hR' hr' =>
      opsI_sound hX hh hpv l (j + 1) s' a' w' (fun q => by have := hl (q + 1); simpa [Nat.add_assoc, Nat.add_comm 1 q] using this) hR' hr' hQ

/-- What a call that is run where it stands means, in a region that draws its order. -/
def SemI (P : Program) (w0 : World) (S N0 : Nat → Prop) (pv : List Value) (rd : Option Nat) (ops : Array Oper) (Q : Exit → Act → World → Prop) (o : Oper) (s : St) (T : St → Prop) : Prop :=
  ∀ a w, Rel P w0 S N0 pv s a w → if Region.wanted o (yielded ops a.tmps) = true then o.wpIn (FR rd) 0 P a w (fun a' w' => ∃ s', Rel P w0 S N0 pv s' a' w' ∧ T s') Q
    else (∀ f, o.about P w a.eval = some f → (FR rd).fn f) ∧ ∃ s', Rel P w0 S N0 pv s' (a.put o.dst Go.undef) w ∧ T s'

theorem anyF_lex (hX : ∀ E ∈ X, CallSpec P E) {h : Hds R} (hh : HOK P w0 S N0 h) (hpv : Pins S pv) {rd : Option Nat} {k : St → Option R} {r : R} {Q' : Exit → Act → World → Prop} {Q : St → Prop} (hQ : ∀ s', k s' = some r → Q s') :
    ∀ (ks : List Nat) (listed : Array Bool) (s : St), Closed ops listed → lexL X A ops ks listed = true → opsI P X A (fun o => bif inlOf A o then h else Hds.no) ops (pickOps ops ks) s k = some r →
    anyF P X A ops (SemI P w0 S N0 pv rd ops Q') Q ks.length listed s
  | [], listed, s, _, hB, hr => by
    simp [pickOps, opsI] at hr
    exact ⟨by simpa [lexL] using hB, hQ s hr⟩
  | j :: ks, listed, s, hcl, hB, hr => by
    simp only [lexL, Bool.and_eq_true] at hB
    obtain ⟨⟨hrd, hf⟩, hB'⟩ := hB
    have hr' : j ∈ Region.ready .any ops listed := by simpa using hrd
    obtain ⟨_, o, h0, hall⟩ := mem_ready.1 hr'
    simp only [pickOps, List.filterMap_cons, h0] at hr
    have hcl' := hcl.next h0 hall
    have rec_ : ∀ s1, opsI P X A (fun o => bif inlOf A o then h else Hds.no) ops (pickOps ops ks) s1 k = some r → anyF P X A ops (SemI P w0 S N0 pv rd ops Q') Q ks.length (listed.setIfInBounds j true) s1 := fun s1 h1 =>
      anyF_lex hX hh hpv hQ ks _ s1 hcl' hB' h1
    simp only [freeA, h0, List.all_eq_true, List.mem_range] at hf
    by_cases hi : inlOf A o = true
    · refine anyF_only h0 hcl (fun q oq hq hqi hun => ?_) hr' ?_
      · have := hf q (Array.getElem?_eq_some_iff.1 hq).1
        simpa [hq, hqi, hun, hi] using this
      · unfold stepC
        rw [hi]
        intro a w hR
        exact opsI_first hX (by simpa [hi] using hh) hpv hR hr fun s' a' w' hR' hk => ⟨s', hR', rec_ s' hk⟩
    · have hi : inlOf A o = false := by simpa using hi
      obtain ⟨s1, h1, h2, h3⟩ := opsI_cons (by simp [hi]) hi hr
      refine anyF_first h0 hi ks.length listed s s1 hcl (fun q oq hq hqi hun hno => ?_) hr' h1 (rec_ s1 h2)
      have := hf q (Array.getElem?_eq_some_iff.1 hq).1
      simp only [hq, hi, Bool.or_eq_true, beq_iff_eq, hqi, false_or, hun, hno, Bool.false_eq_true, Bool.and_eq_true, Bool.not_false, true_and, Bool.not_eq_true'] at this
      exact ⟨this.1.2, this.1.1, this.2.imp id fun h4 => dynPair_dy h3 h4⟩

theorem wpAny_of_anyF (hX : ∀ E ∈ X, CallSpec P E) {rd : Option Nat} {Q : St → Prop} {Q' : Exit → Act → World → Prop} (hQ : ∀ s a w, Rel P w0 S N0 pv s a w → Q s → Q' .normal a w) :
    ∀ (fuel : Nat) (listed : Array Bool) (s : St) (a : Act) (w : World), Rel P w0 S N0 pv s a w → anyF P X A ops (SemI P w0 S N0 pv rd ops Q') Q fuel listed s → wpAnyIn (FR rd) 0 P .any ops Q' fuel listed a w
  | 0, _, _, _, _, hR, h => ⟨h.1, hQ _ _ _ hR h.2⟩
  | fuel + 1, listed, s, a, w, hR, h => ⟨fun h0 => hQ _ _ _ hR (h.1 h0), fun i hi => by
      obtain ⟨_, o, ho, _⟩ := mem_ready.1 hi
      have h2 := h.2 i hi o ho
      unfold stepC at h2
      unfold wpOpIn
      simp only [ho]
      split at h2
      · have h3 := h2 a w hR
        split
        · rename_i hw
          rw [if_pos hw] at h3
          exact Oper.wpIn_mono (fun a' w' ⟨s', hR', hT⟩ => wpAny_of_anyF hX hQ fuel _ s' a' w' hR' hT) h3
        · rename_i hw
          rw [if_neg hw] at h3
          obtain ⟨h4, s', hR', hT⟩ := h3
          exact ⟨h4, wpAny_of_anyF hX hQ fuel _ s' _ _ hR' hT⟩
      · obtain ⟨s1, h1, h2⟩ := h2
        have hst := stepF_sound (rd := rd) (Q := Q') hX hR h1
        split
        · rename_i hw
          rw [if_pos hw] at hst
          exact Oper.wpIn_mono (fun a' w' hR' => wpAny_of_anyF hX hQ fuel _ s1 a' w' hR' h2) hst
        · rename_i hw
          rw [if_neg hw] at hst
          exact ⟨fun f _ => FR_fn rd f, wpAny_of_anyF hX hQ fuel _ s1 _ _ hst h2⟩⟩

theorem region_draw (hX : ∀ E ∈ X, CallSpec P E) {h : Hds R} (hh : HOK P w0 S N0 h) (hpv : Pins S pv) {rd : Option Nat} (hm : P.follows .mixedOrders = true) {Q : Exit → Act → World → Prop} {id : Nat} {s : St} {a : Act} {w : World} {ks : List Nat} {k : St → Option R} {r : R} (hB : drawOK X A ops ks = true) (hR : Rel P w0 S N0 pv s a w)
    (hr : opsI P X A (fun o => bif inlOf A o then h else Hds.no) ops (pickOps ops ks) s k = some r) (hQ : ∀ s' a' w', Rel P w0 S N0 pv s' a' w' → k s' = some r → Q .normal a' w') : (Code.region id ops true).wpIn (FR rd) 0 P Q a w := by
  refine wpIn_region_any hm ?_
  have hcl : Closed ops (Array.replicate ops.size false) := by
    intro j o hj hl
    rw [Array.getD_eq_getD_getElem?, Array.getElem?_replicate] at hl
    split at hl <;> simp at hl
  simp only [drawOK, Bool.and_eq_true, beq_iff_eq] at hB
  have := anyF_lex (P := P) (X := X) (A := A) (rd := rd) (Q' := Q) (Q := fun s' => k s' = some r) hX hh hpv (fun _ h => h) ks (Array.replicate ops.size false) s hcl hB.2 hr
  rw [hB.1] at this
  exact wpAny_of_anyF hX (fun s2 a' w' hR' e => hQ s2 a' w' hR' e) _ _ s a _ hR.drew this

/-- Rounds of a loop, so many. -/
def roundsIn (F : Fence) (n : Nat) (P : Program) (c : Code) (Q : Exit → Act → World → Prop) : Nat → Act → World → Prop
  | 0, _, _ => False
  | m + 1, a, w => c.wpIn F n P (Exit.then (roundsIn F n P c Q m) Q) a w

theorem wpIn_loop_rounds {F : Fence} {n : Nat} {Q : Exit → Act → World → Prop} {a : Act} {w : World} {c : Code} (m : Nat) (h : roundsIn F n P c Q m a w) : (Code.loop c).wpIn F n P Q a w := by
  intro b k cs hro hb hr
  have key : ∀ m a w, roundsIn F n P c Q m a w →
      ∃ e a' w', Q e a' w' ∧ ArrivesIn (Machine.fenced P F) P (lone (b.atR a (.code c :: .inLoop c :: k)) cs w) b k cs e a' w' := by
    intro m
    induction m with
    | zero => intro a w h; exact h.elim
    | succ m ih =>
      intro a w h
      obtain ⟨e, a₁, w₁, hq, harr⟩ := h b (.inLoop c :: k) cs hro hb hr
      cases e with
      | normal =>
        obtain ⟨e₂, a₂, w₂, hq₂, harr₂⟩ := ih a₁ w₁ hq
        exact ⟨e₂, a₂, w₂, hq₂, .of_steps (StepsIn.trans harr (.one (fenced_calm hb hr rfl) stepR_inLoop)) harr₂⟩
      | exit id => exact ⟨_, a₁, w₁, hq, .pass (x := .inLoop c) rfl (fun _ _ => .inl (by simp)) harr⟩
      | goto l => exact ⟨_, a₁, w₁, hq, .pass (x := .inLoop c) rfl (fun _ _ => .inl (by simp)) harr⟩
      | ret => exact ⟨_, a₁, w₁, hq, .pass (x := .inLoop c) rfl (fun _ _ => .inl (by simp)) harr⟩
      | panic ch => exact ⟨_, a₁, w₁, hq, .pass (x := .inLoop c) rfl (fun _ _ => .inl (by simp)) harr⟩
      | outgrown => exact ⟨_, a₁, w₁, hq, .pass (x := .inLoop c) rfl (fun _ _ => .inl (by simp)) harr⟩
  obtain ⟨e, a', w', hq, harr⟩ := key m a w h
  exact ⟨e, a', w', hq, .of_steps (.one (fenced_calm hb hr rfl) stepR_loop) harr⟩

/-- What is run is run rightly. -/
def RunOK (P : Program) (w0 : World) (S N0 : Nat → Prop) (rd : Option Nat) (run : FuncId → Code → St → (Ex → St → Option R) → Option R) : Prop :=
  ∀ (pv : List Value) (me : FuncId) (c : Code) (s : St) (k : Ex → St → Option R) (r : R) (a : Act) (w : World) (Q : Exit → Act → World → Prop), Pins S pv →
    Rel P w0 S N0 pv s a w → run me c s k = some r → (∀ e s' a' w', Rel P w0 S N0 pv s' a' w' → k e s' = some r → Q e.to a' w') → c.wpIn (FR rd) 0 P Q a w

/-- A record's row goes on, or ends. -/
theorem loop_turn {N : Nat → Prop} {ι : Place} {H : Heap} {w : World} (hI : Inv P w0 S N0 H w N ι) {id b c : Nat} {me : FuncId} {ts : List AV} {ps : List Tmp} {as bd : Code} {st st' : LSt} {L : Loop} (hH : H id = some (.loop me ts ps as bd st)) (hι : ι id = some (b, c))
    (hL : w.heap[b]? = some (.loop L)) (hx : L.params = ps.toArray ∧ L.assign = as ∧ L.body = bd ∧ L.tmps.size = ts.length ∧ ∀ i (hi : i < ts.length), RepA P w N H ι ts[i] (L.tmps.getD i Go.undef)) (ls : LoopState) (pe : Option Code) (h1 : ls = st'.state) (h2 : pe = st'.pending) :
    Inv P w0 S N0 (H.set id (.loop me ts ps as bd st')) (w.putObj b (.loop { L with state := ls, pending := pe })) N ι ∧ Fwd N ι H w N ι (H.set id (.loop me ts ps as bd st')) (w.putObj b (.loop { L with state := ls, pending := pe })) := by
  have hlt := (Array.getElem?_eq_some_iff.1 hL).1
  refine hI.updO hH rfl hι rfl rfl rfl rfl (by simp) (fun k hk => World.putObj_heap_other hk) hL (by simp) fun hf => ?_
  exact ⟨b, c, _, hι, World.putObj_heap_same hlt, h1, h2, hx.1, hx.2.1, hx.2.2.1, hx.2.2.2.1, fun i hi => (hx.2.2.2.2 i hi).fwd hf⟩

theorem loop_end {N : Nat → Prop} {ι : Place} {H : Heap} {w : World} (hI : Inv P w0 S N0 H w N ι) {id b c : Nat} {me : FuncId} {ts : List AV} {ps : List Tmp} {as bd : Code} {st : LSt} {L : Loop} (hH : H id = some (.loop me ts ps as bd st)) (hι : ι id = some (b, c))
    (hL : w.heap[b]? = some (.loop L)) (o : Obj) : Inv P w0 S N0 (H.set id .dead) (w.putObj b o) N ι ∧ Fwd N ι H w N ι (H.set id .dead) (w.putObj b o) :=
  hI.updO hH rfl hι rfl rfl rfl rfl (by simp) (fun k hk => World.putObj_heap_other hk) hL (by simp) fun _ => trivial

theorem Rel.push {s : St} {a : Act} {w : World} {N : Nat → Prop} {ι : Place} (hI : Inv P w0 S N0 s.H w N ι) (hm : Marks P w N s.H ι s.d a.defers) (hs : a.tmps.size = s.t.length) (ht : ∀ i (hi : i < s.t.length), RepA P w N s.H ι s.t[i] (a.tmps.getD i Go.undef))
    (hpl : s.p.length = pv.length) (hp : ∀ i (hi : i < s.p.length) (hv : i < pv.length), RepA P w N s.H ι s.p[i] pv[i]) : Rel P w0 S N0 pv s a w := ⟨N, ι, hI, hm, hs, ht, hpl, hp⟩

/-- Behind a range over a function. -/
theorem endRange_sound {l : Nat} {s : St} {a : Act} {w : World} {k : Ex → St → Option R} {r : R} {v : Value} {Q : Exit → Act → World → Prop} (hR : Rel P w0 S N0 (.func (.yield l) #[] #[] :: pv) s a w) (h : endRange k s = some r)
    (hQ : ∀ e s' a' w', Rel P w0 S N0 pv s' a' w' → k e s' = some r → Q e.to a' w') : rangePost (FR none) 0 P l Q a (.returned v) w := by
  unfold endRange at h
  split at h
  case h_2 => simp at h
  rename_i id p hp0
  obtain ⟨N, ι, hI, hm, hs, ht, hpl, hp⟩ := hR
  have hy := hp 0 (by rw [hp0]; simp) (by simp)
  simp only [hp0, List.getElem_cons_zero] at hy
  have hpl' : p.length = pv.length := by rw [hp0] at hpl; simpa using hpl
  have hp' : ∀ i (hi : i < p.length) (hv : i < pv.length), RepA P w N s.H ι p[i] pv[i] := fun i hi hv => by
    have := hp (i + 1) (by rw [hp0]; simpa using hi) (by simpa using hv)
    simpa [hp0] using this
  have main : ∀ {me ts ps as bd st}, s.H id = some (.loop me ts ps as bd st) → st.state ≠ .busy → ∃ w4, (Instr.endLoop l).run P w = .ok st.pending w4 ∧ Rel P w0 S N0 pv ⟨s.t, s.H.set id .dead, p, s.d⟩ a w4 := by
    intro me ts ps as bd st hH hb
    obtain ⟨b, c, L, q1, q2, q3, q4, q5⟩ := hI.rows id _ hH
    cases hy with
    | yld _ _ hy =>
    obtain ⟨b', c', e1, e2⟩ := hy _ hH rfl
    rw [q1] at e1
    cases e1
    cases e2
    have := run_endLoop (P := P) q2 (by rw [q3]; exact hb)
    rw [q4] at this
    obtain ⟨k1, k2⟩ := loop_end hI hH q1 q2 (.loop { L with state := .exhausted })
    rw [q4] at k1 k2
    exact ⟨_, this, N, ι, k1, hm.fwd k2, hs, fun i hi => (ht i hi).fwd k2, hpl', fun i hi hv => (hp' i hi hv).fwd k2⟩
  split at h
  · rename_i hH
    obtain ⟨w4, h1, h2⟩ := main hH (by simp [LSt.state])
    exact ⟨none, w4, h1, hQ .normal _ _ _ h2 h⟩
  · rename_i hH
    obtain ⟨w4, h1, h2⟩ := main hH (by simp [LSt.state])
    exact ⟨some .ret, w4, h1, wpIn_ret (hQ .ret _ _ _ h2 h)⟩
  · rename_i i hH
    obtain ⟨w4, h1, h2⟩ := main hH (by simp [LSt.state])
    exact ⟨some (.exit i), w4, h1, wpIn_exit (hQ (.exit i) _ _ _ h2 h)⟩
  · simp at h

/-- A function value whose code is known. -/
theorem cloOf_sound {w : World} {N : Nat → Prop} {H : Heap} {ι : Place} {x : AV} {v : Value} {f : FuncId} {caps : List AV} (h : cloOf x = some (f, caps)) (hx : RepA P w N H ι x v) :
    ∃ us : Array Value, v = .func (.func f) #[] us ∧ caps.length = us.toList.length ∧ ∀ i (hi : i < caps.length) (hv : i < us.toList.length), RepA P w N H ι caps[i] us.toList[i] := by
  unfold cloOf at h
  split at h <;> simp at h
  · obtain ⟨rfl, rfl⟩ := h
    cases hx with
    | clo hl hr =>
    refine ⟨_, rfl, by simpa using hl.symm, fun i hi hv => ?_⟩
    have := hr i hi
    simpa [show i < _ by simpa using hv] using this
  · obtain ⟨rfl, rfl⟩ := h
    cases hx with
    | imm hx =>
    cases hx with
    | clo _ _ us hl hr =>
    refine ⟨us, rfl, by simpa using hl.symm, fun i hi hv => ?_⟩
    simp at hi
    have := RepA.imm (H := H) (ι := ι) (hr i hi)
    simpa [show i < us.size by omega] using this

/-- A range over a function. -/
theorem rangeI_sound {h : Hds R} (hh : HOK P w0 S N0 h) (hpv : Pins S pv) {me : FuncId} {g : Operand} {ps : Array Tmp} {as bd : Code} {s : St} {k : Ex → St → Option R} {r : R} {a : Act} {w : World} {Q : Exit → Act → World → Prop}
    (hR : Rel P w0 S N0 pv s a w) (hr : rangeI h me g ps as bd s k = some r) (hQ : ∀ e s' a' w', Rel P w0 S N0 pv s' a' w' → k e s' = some r → Q e.to a' w') : (Code.rangeFunc g ps as bd).wpIn (FR none) 0 P Q a w := by
  obtain ⟨N, ι, hI, hm, hs, ht, hpl, hp⟩ := hR
  unfold rangeI at hr
  split at hr
  case h_2 => simp at hr
  rename_i f caps hc
  split at hr
  case h_2 => simp at hr
  rename_i hn1 hn2
  obtain ⟨us, hg, hcl, hcr⟩ := cloOf_sound hc (rep_evalA ht g)
  refine wpIn_rangeFunc fun fn _ => ?_
  -- the two objects
  obtain ⟨L, hL⟩ : ∃ L : Loop, L = { state := .ready, pending := none, fn, tmps := a.tmps, params := ps, assign := as, body := bd, defers := w.heap.size } := ⟨_, rfl⟩
  have he := run_enterLoop_outer (P := P) (w := w) fn a.tmps ps as bd
  rw [← hL] at he
  obtain ⟨ι1, i1, k1, k2⟩ := hI.allocO hn1 (.deferred (some [])) 0 .dfr (fun ι' H' w' e1 e2 e3 hf => ⟨w.heap.size, 0, by rw [e1]; simp, by rw [e3]; exact World.alloc_heap_new w _⟩)
  have hn2' : (s.H.set (loopId as bd) .dfr) (loopId as bd + 1) = none := by simp [Heap.set, hn2]
  obtain ⟨ι2, i2, k3, k4⟩ := k1.allocO hn2' (.loop L) 0 (.loop me s.t ps.toList as bd .ready) (fun ι' H' w' e1 e2 e3 hf =>
    ⟨(w.alloc (.deferred (some []))).heap.size, 0, L, by rw [e1]; simp, by rw [e3]; exact World.alloc_heap_new _ _, by rw [hL]; rfl, by rw [hL]; rfl, by rw [hL], by rw [hL], by rw [hL], by rw [hL]; exact hs, fun i hi => by rw [hL]; exact ((ht i hi).fwd k2).fwd hf⟩)
  have kk := k2.trans k4
  have hsz : (w.alloc (.deferred (some []))).heap.size = w.heap.size + 1 := by simp
  rw [hsz] at i2
  have hyld : RepA P ((w.alloc (.deferred (some []))).alloc (.loop L)) N ((s.H.set (loopId as bd) .dfr).set (loopId as bd + 1) (.loop me s.t ps.toList as bd .ready)) ι2 (.yld (loopId as bd + 1)) (.func (.yield (w.heap.size + 1)) #[] #[]) :=
    .yld (by simp [Heap.set]) ⟨_, rfl⟩ fun r _ _ => ⟨_, _, i2, rfl⟩
  have hdfr : RepA P ((w.alloc (.deferred (some []))).alloc (.loop L)) N ((s.H.set (loopId as bd) .dfr).set (loopId as bd + 1) (.loop me s.t ps.toList as bd .ready)) ι2 (.dfr (loopId as bd)) (.map (some w.heap.size)) := by
    have : RepA P (w.alloc (.deferred (some []))) N (s.H.set (loopId as bd) .dfr) ι1 (.dfr (loopId as bd)) (.map (some w.heap.size)) := .dfr (by simp [Heap.set]) ⟨_, rfl⟩ fun r _ _ => ⟨_, _, i1, rfl⟩
    exact this.fwd k4
  have hm' : Marks P ((w.alloc (.deferred (some []))).alloc (.loop L)) N ((s.H.set (loopId as bd) .dfr).set (loopId as bd + 1) (.loop me s.t ps.toList as bd .ready)) ι2 (.dfr (loopId as bd) :: s.d) ([{ target := .collected w.heap.size, args := #[] }] ++ a.defers) := by
    obtain ⟨ms, m1, m2⟩ := hm.fwd kk
    refine ⟨.map (some w.heap.size) :: ms, by simp [m1, markOf], ?_⟩
    cases m2 with
    | tup ml mr =>
    refine .tup (by simpa using ml) fun i hi => ?_
    cases i with
    | zero => exact hdfr
    | succ i =>
      have := mr i (by simpa using hi)
      have hi2 : i < ms.length := by simp at ml hi; omega
      simpa [hi2] using this
  have hR2 : RelA P w0 S N0 (.func (.yield (w.heap.size + 1)) #[] #[] :: pv) ⟨s.t, (s.H.set (loopId as bd) .dfr).set (loopId as bd + 1) (.loop me s.t ps.toList as bd .ready), .yld (loopId as bd + 1) :: s.p, .dfr (loopId as bd) :: s.d⟩ { a with defers := [{ target := .collected w.heap.size, args := #[] }] ++ a.defers } ((w.alloc (.deferred (some []))).alloc (.loop L))
      (.yld (loopId as bd + 1) :: caps) (.func (.yield (w.heap.size + 1)) #[] #[] :: us.toList) := by
    refine ⟨N, ι2, k3, hm', hs, fun i hi => (ht i hi).fwd kk, by simpa using hpl, fun i hi hv => ?_, by simpa using hcl, fun i hi hv => ?_⟩
    · cases i with
      | zero => exact hyld
      | succ i => simpa using (hp i (by simpa using hi) (by simpa using hv)).fwd kk
    · cases i with
      | zero => exact hyld
      | succ i =>
        have := (hcr i (by simpa using hi) (by simpa using hv)).fwd kk
        exact this
  obtain ⟨g1, g2⟩ := hh.fn _ f _ _ _ r _ _ _ (hpv.more fun v hv => by simp [hv]) hR2 hr
  refine ⟨w.heap.size + 1, [{ target := .collected w.heap.size, args := #[] }], (w.alloc (.deferred (some []))).alloc (.loop L), { target := .fn (.func f) us, args := #[.func (.yield (w.heap.size + 1)) #[] #[]] }, (w.alloc (.deferred (some []))).alloc (.loop L), f,
    #[.func (.yield (w.heap.size + 1)) #[] #[]] ++ us, (w.alloc (.deferred (some []))).alloc (.loop L), he, ?_, ?_, ?_, FR_deep none, ?_⟩
  · simp only [resolve, hg]
    simp [go_sem]
  · intro f' _; trivial
  · simpa [invoke] using run_callFunc (P := P) (w := (w.alloc (.deferred (some []))).alloc (.loop L)) (args := #[.func (.yield (w.heap.size + 1)) #[] #[]] ++ us) g1
  · have e7 : (Value.func (.yield (w.heap.size + 1)) #[] #[] :: us.toList).toArray = #[.func (.yield (w.heap.size + 1)) #[] #[]] ++ us := by simp
    rw [e7] at g2
    refine (callsFR g2).mono ?_
    rintro e w' ⟨v, x, s', rfl, q2, q3⟩
    exact endRange_sound q2.rel q3 hQ

/-- Code. -/
theorem codeI_sound (hX : ∀ E ∈ X, CallSpec P E) (hmo : P.follows .mixedOrders = true) {I : List Inl} {fuel : Nat} {np : Bool} (hS : np = true → ∀ b, ¬ S b) {hnd : Hds R} (hh : HOK P w0 S N0 hnd) (rd : Option Nat) :
    RunOK P w0 S N0 rd (fun me c s k => codeI P X I hnd fuel np rd.isSome me c s k) := by
  intro pv me c
  induction c with
  | skip => intro s k r a w Q hpv hR h hQ; exact wpIn_skip (hQ .normal s a w hR h)
  | label l => intro s k r a w Q hpv hR h hQ; exact wpIn_label (hQ .normal s a w hR h)
  | exit id => intro s k r a w Q hpv hR h hQ; exact wpIn_exit (hQ (.exit id) s a w hR h)
  | ret => intro s k r a w Q hpv hR h hQ; exact wpIn_ret (hQ .ret s a w hR h)
  | region id ops draw =>
    intro s k r a w Q hpv hR h hQ
    have hR' := freeze_rel (np := np) (frzAt (annOf I me) id) hpv hS (forget_rel hR (dropsAt (annOf I me) id))
    cases draw with
    | false =>
      simp only [codeI] at h
      refine wpIn_region ?_
      have := opsI_sound (rd := rd) (Q := Q) hX (fun _ => hh) hpv ops.toList 0 _ a w (by simp) hR' h fun s' a' w' hr hk => hQ .normal s' a' w' hr hk
      simpa using this
    | true =>
      simp only [codeI] at h
      split at h
      · rename_i hd
        exact region_draw hX hh hpv hmo hd hR' h fun s' a' w' hr hk => hQ .normal s' a' w' hr hk
      · simp at h
  | seq x y ihx ihy =>
    intro s k r a w Q hpv hR h hQ
    simp only [codeI] at h
    refine wpIn_seq (ihx s _ r a w _ hpv hR h fun e s' a' w' hr hk => ?_)
    cases e with
    | normal => exact ihy s' k r a' w' Q hpv hr hk hQ
    | exit id => exact hQ (.exit id) s' a' w' hr hk
    | ret => exact hQ .ret s' a' w' hr hk
  | cond c x y ihx ihy =>
    intro s k r a w Q hpv hR h hQ
    simp only [codeI] at h
    split at h
    · split at h
      · exact wpIn_cond_true rfl (ihx s k r a w Q hpv hR h hQ)
      · exact wpIn_cond_false rfl (ihy s k r a w Q hpv hR h hQ)
    · rename_i d
      split at h
      · rename_i b hb
        have hev := hR.bool hb
        split at h
        · rw [set_self hb] at h
          exact wpIn_cond_true hev (ihx s k r a w Q hpv hR h hQ)
        · rw [set_self hb] at h
          exact wpIn_cond_false hev (ihy s k r a w Q hpv hR h hQ)
      · simp at h
    · simp at h
  | block id c ih =>
    intro s k r a w Q hpv hR h hQ
    simp only [codeI] at h
    refine wpIn_block (ih s _ r a w _ hpv hR h fun e s' a' w' hr hk => ?_)
    cases e with
    | normal => exact hQ .normal s' a' w' hr hk
    | exit i =>
      simp only [Ex.to, Exit.inBlock]
      simp only at hk
      split at hk
      · rename_i hi
        rw [if_pos hi]
        exact hQ .normal s' a' w' hr hk
      · rename_i hi
        rw [if_neg hi]
        exact hQ (.exit i) s' a' w' hr hk
    | ret => exact hQ .ret s' a' w' hr hk
  | loop c ih =>
    intro s k r a w Q hpv hR h hQ
    simp only [codeI] at h
    have key : ∀ n s a w, Rel P w0 S N0 pv s a w → loopI (fun s k => codeI P X I hnd fuel np rd.isSome me c s k) (atHead (annOf I me) c) n s k = some r → roundsIn (FR rd) 0 P c Q n a w := by
      intro n
      induction n with
      | zero => intro s a w _ h; simp [loopI] at h
      | succ n ihn =>
        intro s a w hR h
        refine ih s _ r a w _ hpv hR h fun e s' a' w' hr hk => ?_
        cases e with
        | normal => exact ihn _ a' w' (atHead_rel hr) hk
        | exit id => exact hQ (.exit id) s' a' w' hr hk
        | ret => exact hQ .ret s' a' w' hr hk
    exact wpIn_loop_rounds fuel (key fuel _ a w (atHead_rel hR) h)
  | scope c ih => intro s k r a w Q hpv hR h hQ; simp [codeI] at h
  | rangeFunc f p x y ihx ihy =>
    intro s k r a w Q hpv hR h hQ
    cases rd with
    | some l => simp [codeI] at h
    | none => exact rangeI_sound hh hpv hR h hQ
  | goto l => intro s k r a w Q hpv hR h hQ; simp [codeI] at h
  | refuse why => intro s k r a w Q hpv hR h hQ; simp [codeI] at h
end
end Go.Ab
