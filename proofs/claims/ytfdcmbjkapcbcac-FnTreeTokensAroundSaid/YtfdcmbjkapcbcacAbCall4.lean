/-
  AN ABSTRACT LAYER, 14: a call, whole.
-/
import Derived.Test.YtfdcmbjkapcbcacAbCall3
namespace Go.Ab
variable {P : Program}

section
variable {P : Program} {w : World} {w0 : World} {S N0 : Nat → Prop} {N : Nat → Prop} {H : Heap} {ι : Place}

theorem postBack_spec : ∀ (ps : List (List D)) (ids : List Nat) (H H1 : Heap), ids.Nodup → postBack ps ids H = some H1 →
    ps.length = ids.length ∧ (∀ id, id ∉ ids → H1 id = H id) ∧ ∀ i (hi : i < ids.length) (hp : i < ps.length), ∃ old, H ids[i] = some (.box old) ∧ old.length = ps[i].length ∧ H1 ids[i] = some (.box (ps[i].map .imm))
  | [], [], H, H1, _, h => by simp [postBack] at h; subst h; simp
  | [], _ :: _, _, _, _, h => by simp [postBack] at h
  | _ :: _, [], _, _, _, h => by simp [postBack] at h
  | cs :: ps, id :: ids, H, H1, hnd, h => by
    simp only [postBack] at h
    split at h
    case h_2 => simp at h
    rename_i old hH
    split at h
    case isFalse => simp at h
    rename_i hl
    obtain ⟨hni, hnd⟩ := List.nodup_cons.1 hnd
    obtain ⟨g1, g2, g3⟩ := postBack_spec ps ids _ H1 hnd h
    refine ⟨by simp [g1], fun x hx => ?_, fun i hi hp => ?_⟩
    · simp only [List.mem_cons, not_or] at hx
      rw [g2 x hx.2]
      simp [Heap.set, hx.1]
    · cases i with
      | zero =>
        refine ⟨old, hH, hl, ?_⟩
        have := g2 id hni
        simpa [Heap.set] using this
      | succ i =>
        obtain ⟨old2, q1, q2, q3⟩ := g3 i (by simpa using hi) (by simpa using hp)
        have hne : ids[i]'(by simpa using hi) ≠ id := fun e => hni (e ▸ List.getElem_mem _)
        exact ⟨old2, by simpa [Heap.set, hne] using q1, by simpa using q2, by simpa using q3⟩

theorem PostRep.get {N : Nat → Prop} {ps : List (List D)} : ∀ {bs : List Nat}, PostRep P w N ps (bs.map ptrOf) → ps.length = bs.length ∧ ∀ i (hi : i < ps.length) (hb : i < bs.length), ¬ N bs[i] ∧
    ∃ arr e, w.heap[bs[i]]? = some (.cells arr e (0, 0)) ∧ arr.size = ps[i].length ∧ ∀ j (hj : j < ps[i].length), RepD P w N ps[i][j] (arr.getD j undef) := by
  intro bs h
  generalize hpv : bs.map ptrOf = pv at h
  induction h generalizing bs with
  | nil => simp at hpv; subst hpv; simp
  | @cons cs ps pv b arr e h hl hr hN t ih =>
    cases bs with
    | nil => simp at hpv
    | cons b' bs =>
    simp only [List.map_cons, List.cons.injEq] at hpv
    obtain ⟨h1, h2⟩ := hpv
    simp only [ptrOf, Value.pointer.injEq, Option.some.injEq, Addr.mk.injEq, and_true] at h1
    subst h1
    have ih := ih h2
    refine ⟨by simp [ih.1], fun i hi hb => ?_⟩
    cases i with
    | zero => exact ⟨hN, arr, e, h, hl, hr⟩
    | succ i => exact ih.2 i (Nat.lt_of_succ_lt_succ hi) (Nat.lt_of_succ_lt_succ hb)
  | @row k xs v ob ps pv h t ih =>
    cases bs with
    | nil => simp at hpv
    | cons b' bs =>
    simp only [List.map_cons, List.cons.injEq] at hpv
    obtain ⟨h1, h2⟩ := hpv
    subst h1
    rcases h with ⟨_, _, a, h⟩ | ⟨b, arr, e, cap, _, _, _, h, _⟩ <;> simp [ptrOf] at h

theorem callA_sound {E : Entry} {pol : Bool} {args : List AV} {vs : List Value} {nid : Nat} {x : AV} {H' : Heap} (hE : CallSpec P E) (hI : Inv P w0 S N0 H w N ι) (h : callA E pol args nid H = some (x, H'))
    (hl : args.length = vs.length) (hr : ∀ i (hi : i < args.length) (hv : i < vs.length), RepA P w N H ι args[i] vs[i]) :
    CallsE P E vs.toArray w fun e w' => ∃ v N' ι', e = .returned v ∧ Inv P w0 S N0 H' w' N' ι' ∧ Fwd N ι H w N' ι' H' w' ∧ RepA P w' N' H' ι' x v := by
  unfold callA at h
  simp only [Option.bind_eq_some_iff] at h
  obtain ⟨as, h1, ⟨rs, ps⟩, h2, h3⟩ := h
  split at h3
  case isFalse => simp at h3
  rename_i hc
  obtain ⟨hnd, hfree⟩ := hc
  simp only [Option.bind_eq_some_iff, Option.map_eq_some_iff] at h3
  obtain ⟨H1, h4, ⟨xs, H2⟩, h5, h6⟩ := h3
  simp only [Prod.mk.injEq] at h6
  obtain ⟨rfl, rfl⟩ := h6
  obtain ⟨p1, p2, p3⟩ := postBack_spec ps _ H H1 hnd h4
  have hids : ∀ id ∈ as.filterMap (·.2.2), ∃ cs, H id = some (.box cs) := fun id hid => by
    obtain ⟨i, hi, rfl⟩ := List.getElem_of_mem hid
    obtain ⟨old, q, _⟩ := p3 i hi (by omega)
    exact ⟨old, q⟩
  obtain ⟨bs, a1, a2, a3⟩ := argsX_sound hI (as.any (·.2.1)) (as.filterMap (·.2.2)) hids args vs as hl hr h1 (fun h => h) (fun _ h => h) hnd
  -- a block of the variables is a row's
  have hbs : ∀ b ∈ bs, ∃ id cs c, id ∈ as.filterMap (·.2.2) ∧ H id = some (.box cs) ∧ ι id = some (b, c) := fun b hb => by
    obtain ⟨i, hi, rfl⟩ := List.getElem_of_mem hb
    obtain ⟨c, hc⟩ := a3 i hi (by omega)
    obtain ⟨cs, hcs⟩ := hids _ (List.getElem_mem (by omega : i < (as.filterMap (·.2.2)).length))
    exact ⟨_, cs, c, List.getElem_mem _, hcs, hc⟩
  have hlt : ∀ b, Lent N H ι (as.any (·.2.1)) (as.filterMap (·.2.2)) b → b < w.heap.size := by
    rintro b (hb | ⟨_, id, r, c, hr, hl, _, hι⟩)
    · exact hI.lt b hb
    · exact hI.blk hr hl hι
  refine (hE.calls w _ _ vs bs _ rs ps hlt a1 h2).mono ?_
  rintro e w' ⟨us, Nc, obs, rfl, hk, hN1, hN2, hres, hpost, hrl⟩
  let N1 : Nat → Prop := fun b => N b ∨ (w.heap.size ≤ b ∧ Nc b)
  have hN1c : ∀ b, N1 b → Nc b := fun b hb => hb.elim (fun h => hN1 b (.inl h)) (·.2)
  -- what came back, seen under N1
  have hN1' : as.any (·.2.1) = false → ∀ b, Nc b → N1 b := fun hf b hb => by
    rcases (hN2 b hb).1 with (hn | ⟨hl, _⟩) | hn
    · exact .inl hn
    · rw [hf] at hl; cases hl
    · exact .inr ⟨hn, hb⟩
  have hres' : ResRep P w' N1 w.heap.size rs us obs := by
    by_cases hf : as.any (·.2.1) = true
    · exact hres.less (hfree hf).1 hN1c
    · exact hres.step (hN1' (by simpa using hf)) fun b hb hn => (hres.notN b hb).1 (hN1c b hn)
  obtain ⟨q1, q2⟩ := hpost.get
  have hpost' : ∀ i (hi : i < ps.length) (hb : i < bs.length), ∃ arr e, w'.heap[bs[i]]? = some (.cells arr e (0, 0)) ∧ arr.size = ps[i].length ∧ ∀ j (hj : j < ps[i].length), RepD P w' N1 ps[i][j] (arr.getD j undef) := fun i hi hb => by
    obtain ⟨_, arr, e, r1, r2, r3⟩ := q2 i hi hb
    refine ⟨arr, e, r1, r2, fun j hj => ?_⟩
    by_cases hf : as.any (·.2.1) = true
    · have := (hfree hf).2
      simp only [List.all_eq_true] at this
      exact (r3 j hj).nomem (by simpa using this _ (List.getElem_mem hi) _ (List.getElem_mem hj)) _ _
    · exact (r3 j hj).mono (hN1' (by simpa using hf)) fun _ _ _ => rfl
  have hbsN : ∀ b ∈ bs, ¬ N b := fun b hb hn => by
    obtain ⟨id, cs, c, _, e2, e3⟩ := hbs b hb
    exact (hI.own id _ b c e2 rfl e3).2 hn
  have hf : Fwd N ι H w N1 ι H1 w' := by
    refine ⟨fun b hb => .inl hb, fun b o hb => World.cell?_of_block (hk.block b (hI.lt b hb) fun hm => hbsN b hm hb), fun id r hid => ?_⟩
    by_cases hm : id ∈ as.filterMap (·.2.2)
    · obtain ⟨i, hi, rfl⟩ := List.getElem_of_mem hm
      obtain ⟨old, r1, r2, r3⟩ := p3 i hi (by omega)
      rw [r1] at hid
      cases hid
      exact ⟨_, r3, fun _ => ⟨rfl, by simp [Row.dim, Row.sz, Row.len, r2], rfl⟩⟩
    · exact ⟨r, by rw [p2 id hm]; exact hid, fun hl => ⟨hl, rfl, rfl⟩⟩
  -- rows that go on
  have look : ∀ id r, H1 id = some r → r.live = true → ∃ r0, H id = some r0 ∧ r0.live = true ∧ (id ∉ as.filterMap (·.2.2) → r0 = r) := fun id r hid hl => by
    by_cases hm : id ∈ as.filterMap (·.2.2)
    · obtain ⟨cs, hcs⟩ := hids id hm
      exact ⟨_, hcs, rfl, fun h => absurd hm h⟩
    · rw [p2 id hm] at hid
      exact ⟨r, hid, hl, fun _ => rfl⟩
  have hI1 : Inv P w0 S N0 H1 w' N1 ι := by
    refine ⟨⟨hk.os.trans hI.keeps.os, hk.tape.trans hI.keeps.tape, hk.output.trans hI.keeps.output, Nat.le_trans hI.keeps.size hk.size, fun b hb hS => ?_, fun b arr0 e0 hS h0 => ?_⟩, fun id r hid => ?_, fun id id' r r' b c c' h1 h2 l1 l2 e1 e2 => ?_, fun id r b c hid hl hι => ?_, ?_, ?_, fun b hb => .inl (hI.new b hb)⟩
    · rw [hk.block b (by have := hI.keeps.size; omega) fun hm => ?_]
      · exact hI.keeps.block b hb hS
      · obtain ⟨id, cs, c, _, e2, e3⟩ := hbs b hm
        rcases (hI.own id _ b c e2 rfl e3).1 with h | h
        · exact hS h
        · omega
    · obtain ⟨a1, e1, g1, g2⟩ := hI.keeps.cells b arr0 e0 hS h0
      by_cases hm : b ∈ bs
      · obtain ⟨a2, e2, g3, g4⟩ := hk.cells b a1 e1 hm g1
        exact ⟨a2, e2, g3, g4.trans g2⟩
      · exact ⟨a1, e1, by rw [hk.block b (Array.getElem?_eq_some_iff.1 g1).1 hm]; exact g1, g2⟩
    · by_cases hm : id ∈ as.filterMap (·.2.2)
      · obtain ⟨i, hi, rfl⟩ := List.getElem_of_mem hm
        obtain ⟨old, r1, r2, r3⟩ := p3 i hi (by omega)
        rw [r3] at hid
        cases hid
        obtain ⟨c, hc⟩ := a3 i (by omega) hi
        obtain ⟨arr, e, s1, s2, s3⟩ := hpost' i (by omega) (by omega)
        obtain ⟨b', c', arr0, e0, t1, t2, t3, t4, _⟩ := hI.rows _ _ r1
        rw [hc] at t1
        cases t1
        exact ⟨_, _, arr, e, hc, s1, by omega, by simp; omega, fun j => arr.getD j undef, fun j hj => ⟨getD_some (by simp at hj; omega), by simp at hj; simpa using RepA.imm (H := H1) (ι := ι) (s3 j hj)⟩⟩
      · have hid' := hid
        rw [p2 id hm] at hid'
        by_cases hl : r.live = true
        · refine (hI.rows id r hid').fwd hf rfl fun b c hb => ?_
          refine hk.block b (hI.blk hid' hl hb) fun hmb => ?_
          obtain ⟨id2, cs, c2, e1, e2, e3⟩ := hbs b hmb
          have := hI.inj id id2 r _ b c c2 hid' e2 hl rfl hb e3
          subst this
          exact hm e1
        · cases r <;> first | trivial | simp [Row.live] at hl
    · obtain ⟨r0, k1, k2, _⟩ := look id r h1 l1
      obtain ⟨r0', k1', k2', _⟩ := look id' r' h2 l2
      exact hI.inj id id' r0 r0' b c c' k1 k1' k2 k2' e1 e2
    · obtain ⟨r0, k1, k2, _⟩ := look id r hid hl
      obtain ⟨o1, o2⟩ := hI.own id r0 b c k1 k2 hι
      refine ⟨o1, ?_⟩
      rintro (hn | ⟨hn, _⟩)
      · exact o2 hn
      · have := hI.blk k1 k2 hι
        omega
    · rintro b (hb | ⟨_, hb⟩)
      · have := hI.lt b hb; have := hk.size; omega
      · exact (hN2 b hb).2
    · rintro b (hb | ⟨hb, _⟩)
      · exact hI.old b hb
      · have := hI.keeps.size; exact .inr (by omega)
  have htk : ∀ b ∈ obs, ¬ Taken H1 ι b := by
    rintro b hb ⟨id, r, c, hid, hl, hι⟩
    obtain ⟨r0, k1, k2, _⟩ := look id r hid hl
    have h1 := hI.blk k1 k2 hι
    have h2 := (hres.notN b hb).2
    omega
  obtain ⟨N', ι', z1, z2, z3, z4⟩ := resBack_sound (base := w.heap.size) hI.keeps.size rs us obs nid N1 ι H1 xs H2 hI1 hres' htk h5
  refine ⟨packed us, N', ι', rfl, z1, hf.trans z2, ?_⟩
  match xs, us, z3, z4 with
  | [x], [u], _, z4 => exact z4 0 (by simp) (by simp)
  | [], [], _, z4 => exact .tup rfl (by simp)
  | x :: y :: xs, u :: u2 :: us, z3, z4 =>
    refine .tup (by simpa using z3.symm) fun i hi => ?_
    have hiu : i < (u :: u2 :: us).length := by omega
    have e4 : (u :: u2 :: us).toArray.getD i Go.undef = (u :: u2 :: us)[i] := by
      rw [Array.getD_eq_getD_getElem?, List.getElem?_toArray, List.getElem?_eq_getElem hiu]
      rfl
    rw [e4]
    exact z4 i hi hiu
end

def resQ : XR → Option AV
  | .one (d, false) => some (.imm d)
  | _ => none

/-- A call that makes nothing for its caller. -/
def callQ (E : Entry) (args : List AV) (H : Heap) : Option AV :=
  (args.mapM (argX H)).bind fun as => (E.m (as.map (·.1))).bind fun (rs, ps) =>
    if (as.filterMap (·.2.2)).isEmpty ∧ ps.isEmpty ∧ (as.any (·.2.1) = true → (rs.all fun r => r.cells.all Cell.free) = true) then (rs.mapM resQ).map packA else none

theorem resQ_back : ∀ (rs : List XR) (xs : List AV) (n : Nat) (H : Heap), rs.mapM resQ = some xs → resBack false rs n H = some (xs, H)
  | [], xs, n, H, h => by simp at h; subst h; rfl
  | r :: rs, xs, n, H, h => by
    simp only [List.mapM_cons, Option.bind_eq_bind, Option.bind_eq_some_iff, Option.pure_def, Option.some.injEq] at h
    obtain ⟨x, h1, ys, h2, rfl⟩ := h
    have ih := resQ_back rs ys (n + 1) H h2
    unfold resQ at h1
    split at h1 <;> simp at h1
    subst h1
    simp [resBack, cellBack, ih]

theorem callQ_callA {E : Entry} {args : List AV} {nid : Nat} {H : Heap} {x : AV} (h : callQ E args H = some x) : callA E false args nid H = some (x, H) := by
  unfold callQ at h
  simp only [Option.bind_eq_some_iff] at h
  obtain ⟨as, h1, ⟨rs, ps⟩, h2, h3⟩ := h
  split at h3
  case isFalse => simp at h3
  rename_i hc
  obtain ⟨c1, c2, c3⟩ := hc
  simp only [Option.map_eq_some_iff] at h3
  obtain ⟨xs, h4, rfl⟩ := h3
  have e1 : as.filterMap (·.2.2) = [] := List.isEmpty_iff.1 c1
  have e2 : ps = [] := List.isEmpty_iff.1 c2
  subst e2
  unfold callA
  simp only [h1, h2, Option.bind_some, e1]
  rw [if_pos ⟨List.nodup_nil, fun hl => ⟨c3 hl, rfl⟩⟩]
  simp [postBack, resQ_back rs xs nid H h4]

/-- A call that makes rows, and turns none. -/
def callN (E : Entry) (pol : Bool) (args : List AV) (nid : Nat) (H : Heap) : Option (AV × Heap) :=
  (args.mapM (argX H)).bind fun as => (E.m (as.map (·.1))).bind fun (rs, ps) =>
    if (as.filterMap (·.2.2)).isEmpty ∧ ps.isEmpty ∧ (as.any (·.2.1) = true → (rs.all fun r => r.cells.all Cell.free) = true) then (resBack pol rs nid H).map fun (xs, H') => (packA xs, H') else none

theorem callN_callA {E : Entry} {pol : Bool} {args : List AV} {nid : Nat} {H : Heap} {r : AV × Heap} (h : callN E pol args nid H = some r) : callA E pol args nid H = some r := by
  unfold callN at h
  simp only [Option.bind_eq_some_iff] at h
  obtain ⟨as, h1, ⟨rs, ps⟩, h2, h3⟩ := h
  split at h3
  case isFalse => simp at h3
  rename_i hc
  obtain ⟨c1, c2, c3⟩ := hc
  have e1 : as.filterMap (·.2.2) = [] := List.isEmpty_iff.1 c1
  have e2 : ps = [] := List.isEmpty_iff.1 c2
  subst e2
  unfold callA
  simp only [h1, h2, Option.bind_some, e1]
  rw [if_pos ⟨List.nodup_nil, fun hl => ⟨c3 hl, rfl⟩⟩]
  simpa [postBack] using h3

/-- Rows that are there stay as they are. -/
def Grow (H H' : Heap) : Prop := ∀ id r, H id = some r → H' id = some r

theorem Grow.refl (H : Heap) : Grow H H := fun _ _ h => h
theorem Grow.trans {H H' H'' : Heap} (h : Grow H H') (g : Grow H' H'') : Grow H H'' := fun id r hr => g id r (h id r hr)
theorem Grow.set {H : Heap} {id : Nat} (h : H id = none) (r : Row) : Grow H (H.set id r) := fun x q hq => by
  have : x ≠ id := by rintro rfl; rw [h] at hq; cases hq
  simp [Heap.set, this, hq]

theorem cellBack_grow {pol : Bool} {c : Cell} {nid : Nat} {H H' : Heap} {x : AV} (h : cellBack pol c nid H = some (x, H')) : Grow H H' := by
  unfold cellBack at h
  split at h
  · simp at h; obtain ⟨_, rfl⟩ := h; exact Grow.refl _
  · split at h <;> simp at h
    · rename_i hn _; obtain ⟨_, rfl⟩ := h; exact Grow.set hn _
    · rename_i hn _; obtain ⟨_, rfl⟩ := h; exact Grow.set hn _

theorem cellsBack_grow {pol : Bool} : ∀ {cs : List Cell} {n n' : Nat} {H H' : Heap} {xs : List AV}, cellsBack pol cs n H = some (xs, n', H') → Grow H H'
  | [], _, _, _, _, _, h => by simp [cellsBack] at h; obtain ⟨_, _, rfl⟩ := h; exact Grow.refl _
  | c :: cs, n, n', H, H', xs, h => by
    simp only [cellsBack, Option.bind_eq_some_iff, Option.map_eq_some_iff] at h
    obtain ⟨⟨x, H1⟩, h1, ⟨ys, m, H2⟩, h2, h3⟩ := h
    simp only [Prod.mk.injEq] at h3
    obtain ⟨_, _, rfl⟩ := h3
    exact (cellBack_grow h1).trans (cellsBack_grow h2)

theorem resBack_grow {pol : Bool} : ∀ {rs : List XR} {n : Nat} {H H' : Heap} {xs : List AV}, resBack pol rs n H = some (xs, H') → Grow H H'
  | [], _, _, _, _, h => by simp [resBack] at h; obtain ⟨_, rfl⟩ := h; exact Grow.refl _
  | .one c :: rs, n, H, H', xs, h => by
    simp only [resBack, Option.bind_eq_some_iff, Option.map_eq_some_iff] at h
    obtain ⟨⟨x, H1⟩, h1, ⟨ys, H2⟩, h2, h3⟩ := h
    simp only [Prod.mk.injEq] at h3
    obtain ⟨_, rfl⟩ := h3
    exact (cellBack_grow h1).trans (resBack_grow h2)
  | .agg cs :: rs, n, H, H', xs, h => by
    simp only [resBack, Option.bind_eq_some_iff, Option.map_eq_some_iff] at h
    obtain ⟨⟨x, m, H1⟩, h1, ⟨ys, H2⟩, h2, h3⟩ := h
    simp only [Prod.mk.injEq] at h3
    obtain ⟨_, rfl⟩ := h3
    exact (cellsBack_grow h1).trans (resBack_grow h2)
  | .box cs :: rs, n, H, H', xs, h => by
    simp only [resBack, Option.bind_eq_some_iff] at h
    obtain ⟨⟨x, m, H1⟩, h1, h2⟩ := h
    simp only at h2
    split at h2
    · rename_i hn
      simp only [Option.map_eq_some_iff] at h2
      obtain ⟨⟨ys, H2⟩, h2, h3⟩ := h2
      simp only [Prod.mk.injEq] at h3
      obtain ⟨_, rfl⟩ := h3
      exact ((cellsBack_grow h1).trans (Grow.set hn _)).trans (resBack_grow h2)
    · simp at h2

theorem callN_grow {E : Entry} {pol : Bool} {args : List AV} {nid : Nat} {H H' : Heap} {x : AV} (h : callN E pol args nid H = some (x, H')) : Grow H H' := by
  unfold callN at h
  simp only [Option.bind_eq_some_iff] at h
  obtain ⟨as, _, ⟨rs, ps⟩, _, h3⟩ := h
  split at h3
  case isFalse => simp at h3
  simp only [Option.map_eq_some_iff] at h3
  obtain ⟨⟨xs, H1⟩, h4, h5⟩ := h3
  simp only [Prod.mk.injEq] at h5
  obtain ⟨_, rfl⟩ := h5
  exact resBack_grow h4

section
variable {P : Program} {H H' : Heap}

theorem loadA_mono {t : TypeId} {x y : AV} (hg : Grow H H') (h : loadA P t H x = some y) : loadA P t H' x = some y := by
  cases x with
  | ptr id i j =>
    simp only [loadA] at h ⊢
    cases hH : H id with
    | none => simp [hH] at h
    | some r => rw [hH] at h; rw [hg id r hH]; exact h
  | imm d => cases d <;> exact h
  | _ => exact h

theorem sliceA_mono {t : TypeId} {x y : AV} {lo hi : Option AV} (hg : Grow H H') (h : sliceA P t H x lo hi = some y) : sliceA P t H' x lo hi = some y := by
  cases x with
  | all id s =>
    simp only [sliceA] at h ⊢
    cases hH : H id with
    | none => simp [hH] at h
    | some r => rw [hH] at h; rw [hg id r hH]; exact h
  | imm d => cases d <;> exact h
  | _ => exact h

theorem indexAddrA_mono {t : TypeId} {x i y : AV} (hg : Grow H H') (h : indexAddrA P t H x i = some y) : indexAddrA P t H' x i = some y := by
  cases i with
  | imm d =>
    cases d with
    | int k n =>
      cases x with
      | all id s =>
        simp only [indexAddrA] at h ⊢
        cases hH : H id with
        | none => simp [hH] at h
        | some r => rw [hH] at h; rw [hg id r hH]; exact h
      | _ => exact h
    | _ => simp [indexAddrA] at h
  | _ => simp [indexAddrA] at h

theorem lenA_mono {t : TypeId} {x y : AV} (hg : Grow H H') (h : lenA P t H x = some y) : lenA P t H' x = some y := by
  unfold lenA at h ⊢
  cases hu : P.underlying t with
  | none => simp [hu] at h
  | some d =>
    rw [hu] at h
    cases d with
    | slice e =>
      cases x with
      | all id s =>
        simp only at h ⊢
        cases hH : H id with
        | none => simp [hH] at h
        | some r => rw [hH] at h; rw [hg id r hH]; exact h
      | _ => exact h
    | _ => exact h

theorem lendCell_mono {x : AV} {r : D × Bool} (hg : Grow H H') (h : lendCell H x = some r) : lendCell H' x = some r := by
  cases x with
  | row id s off len =>
    simp only [lendCell] at h ⊢
    cases hH : H id with
    | none => simp [hH] at h
    | some r => rw [hH] at h; rw [hg id r hH]; exact h
  | all id s =>
    simp only [lendCell] at h ⊢
    cases hH : H id with
    | none => simp [hH] at h
    | some r => rw [hH] at h; rw [hg id r hH]; exact h
  | dptr cs j => cases j <;> exact h
  | _ => exact h

theorem mapM_mono {α β : Type} {f g : α → Option β} : ∀ (l : List α) (r : List β), (∀ x ∈ l, ∀ y, f x = some y → g x = some y) → l.mapM f = some r → l.mapM g = some r
  | [], r, _, h => by simpa using h
  | x :: l, r, hfg, h => by
    simp only [List.mapM_cons, Option.bind_eq_bind, Option.bind_eq_some_iff, Option.pure_def, Option.some.injEq] at h ⊢
    obtain ⟨y, h1, ys, h2, rfl⟩ := h
    exact ⟨y, hfg x (by simp) y h1, ys, mapM_mono l ys (fun z hz => hfg z (by simp [hz])) h2, rfl⟩

theorem argX_mono {x : AV} {r : XA × Bool × Option Nat} (hg : Grow H H') (h : argX H x = some r) : argX H' x = some r := by
  have rest : ((lendCell H x).map fun (d, l) => (XA.d d, l, (none : Option Nat))) = some r → ((lendCell H' x).map fun (d, l) => (XA.d d, l, (none : Option Nat))) = some r := fun h => by
    simp only [Option.map_eq_some_iff] at h ⊢
    obtain ⟨a, h1, h2⟩ := h
    exact ⟨a, lendCell_mono hg h1, h2⟩
  cases x with
  | agg cs =>
    simp only [argX, Option.map_eq_some_iff] at h ⊢
    obtain ⟨ds, h1, h2⟩ := h
    exact ⟨ds, mapM_mono _ _ (fun _ _ _ => lendCell_mono hg) h1, h2⟩
  | ptr id i j =>
    cases i with
    | zero =>
      cases j with
      | zero =>
        simp only [argX] at h ⊢
        cases hH : H id with
        | none => simp [hH] at h
        | some r => rw [hH] at h; rw [hg id r hH]; exact h
      | succ j => exact rest h
    | succ i => exact rest h
  | _ => exact rest h

theorem callQ_mono {E : Entry} {args : List AV} {x : AV} (hg : Grow H H') (h : callQ E args H = some x) : callQ E args H' = some x := by
  unfold callQ at h ⊢
  simp only [Option.bind_eq_some_iff] at h ⊢
  obtain ⟨as, h1, h2⟩ := h
  exact ⟨as, mapM_mono _ _ (fun _ _ _ => argX_mono hg) h1, h2⟩
end

theorem set_comm' {H : Heap} {a b : Nat} (h : a ≠ b) (x y : Row) : (H.set a x).set b y = (H.set b y).set a x := by
  funext q
  simp only [Heap.set]
  by_cases h1 : q = b
  · rw [if_pos h1, if_neg (by omega), if_pos h1]
  · rw [if_neg h1, if_neg h1]

theorem cellBack_ext {pol : Bool} {c : Cell} {k nid : Nat} {H H' : Heap} {x : AV} {r : Row} (h : cellBack pol c k H = some (x, H')) (hn' : H' nid = none) : cellBack pol c k (H.set nid r) = some (x, H'.set nid r) := by
  obtain ⟨d, o⟩ := c
  unfold cellBack at h ⊢
  have hk : ∀ q, H' = H.set k q → k ≠ nid := by
    rintro q rfl rfl
    simp [Heap.set] at hn'
  cases hb : (o && pol) with
  | false =>
    simp only [hb] at h ⊢
    simp at h
    obtain ⟨rfl, rfl⟩ := h
    rfl
  | true =>
    simp only [hb] at h ⊢
    cases hH : H k with
    | some q => simp [hH] at h
    | none =>
      cases d with
      | ints kk xs =>
        simp [hH] at h
        obtain ⟨rfl, rfl⟩ := h
        have hne := hk _ rfl
        have : (H.set nid r) k = none := by simp [Heap.set, hne, hH]
        simp only [this, set_comm' (Ne.symm hne)]
      | seq s xs =>
        simp [hH] at h
        obtain ⟨rfl, rfl⟩ := h
        have hne := hk _ rfl
        have : (H.set nid r) k = none := by simp [Heap.set, hne, hH]
        simp only [this, set_comm' (Ne.symm hne)]
      | _ => simp [hH] at h

theorem Grow.none {H H' : Heap} {id : Nat} (h : Grow H H') (hn : H' id = none) : H id = none := by
  cases hH : H id with
  | none => rfl
  | some r => rw [h id r hH] at hn; cases hn

theorem cellsBack_ext {pol : Bool} {nid : Nat} {r : Row} : ∀ {cs : List Cell} {n n' : Nat} {H H' : Heap} {xs : List AV}, cellsBack pol cs n H = some (xs, n', H') → H' nid = none → cellsBack pol cs n (H.set nid r) = some (xs, n', H'.set nid r)
  | [], _, _, _, _, _, h, _ => by simp [cellsBack] at h ⊢; obtain ⟨rfl, rfl, rfl⟩ := h; exact ⟨rfl, rfl, rfl⟩
  | c :: cs, n, n', H, H', xs, h, hn => by
    simp only [cellsBack, Option.bind_eq_some_iff, Option.map_eq_some_iff] at h ⊢
    obtain ⟨⟨x, H1⟩, h1, ⟨ys, m, H2⟩, h2, h3⟩ := h
    simp only [Prod.mk.injEq] at h3
    obtain ⟨rfl, rfl, rfl⟩ := h3
    have hn1 := (cellsBack_grow h2).none hn
    exact ⟨(x, H1.set nid r), cellBack_ext h1 hn1, (ys, _, _), cellsBack_ext h2 hn, rfl⟩

theorem resBack_ext {pol : Bool} {nid : Nat} {r : Row} : ∀ {rs : List XR} {n : Nat} {H H' : Heap} {xs : List AV}, resBack pol rs n H = some (xs, H') → H' nid = none → resBack pol rs n (H.set nid r) = some (xs, H'.set nid r)
  | [], _, _, _, _, h, _ => by simp [resBack] at h ⊢; obtain ⟨rfl, rfl⟩ := h; exact ⟨rfl, rfl⟩
  | .one c :: rs, n, H, H', xs, h, hn => by
    simp only [resBack, Option.bind_eq_some_iff, Option.map_eq_some_iff] at h ⊢
    obtain ⟨⟨x, H1⟩, h1, ⟨ys, H2⟩, h2, h3⟩ := h
    simp only [Prod.mk.injEq] at h3
    obtain ⟨rfl, rfl⟩ := h3
    have hn1 := (resBack_grow h2).none hn
    exact ⟨(x, H1.set nid r), cellBack_ext h1 hn1, (ys, _), resBack_ext h2 hn, rfl⟩
  | .agg cs :: rs, n, H, H', xs, h, hn => by
    simp only [resBack, Option.bind_eq_some_iff, Option.map_eq_some_iff] at h ⊢
    obtain ⟨⟨x, m, H1⟩, h1, ⟨ys, H2⟩, h2, h3⟩ := h
    simp only [Prod.mk.injEq] at h3
    obtain ⟨rfl, rfl⟩ := h3
    have hn1 := (resBack_grow h2).none hn
    exact ⟨(x, m, H1.set nid r), cellsBack_ext h1 hn1, (ys, _), resBack_ext h2 hn, rfl⟩
  | .box cs :: rs, n, H, H', xs, h, hn => by
    simp only [resBack, Option.bind_eq_some_iff] at h ⊢
    obtain ⟨⟨x, m, H1⟩, h1, h2⟩ := h
    simp only at h2
    split at h2
    · rename_i hm
      simp only [Option.map_eq_some_iff] at h2
      obtain ⟨⟨ys, H2⟩, h2, h3⟩ := h2
      simp only [Prod.mk.injEq] at h3
      obtain ⟨rfl, rfl⟩ := h3
      have hn1 := (resBack_grow h2).none hn
      have hne : m ≠ nid := by rintro rfl; simp [Heap.set] at hn1
      have hn0 : H1 nid = none := (Grow.set hm _).none hn1
      refine ⟨(x, m, H1.set nid r), cellsBack_ext h1 hn0, ?_⟩
      have e1 : (H1.set nid r) m = none := by simp [Heap.set, hne, hm]
      simp only [e1, Option.map_eq_some_iff]
      refine ⟨(ys, _), ?_, rfl⟩
      rw [set_comm' (Ne.symm hne)]
      exact resBack_ext h2 hn
    · simp at h2

theorem callN_ext {E : Entry} {pol : Bool} {args : List AV} {k nid : Nat} {H H' : Heap} {x : AV} {r : Row} (h : callN E pol args k H = some (x, H')) (hn : H' nid = none) : callN E pol args k (H.set nid r) = some (x, H'.set nid r) := by
  have hg := (callN_grow h).none hn
  unfold callN at h ⊢
  simp only [Option.bind_eq_some_iff] at h ⊢
  obtain ⟨as, h1, ⟨rs, ps⟩, h2, h3⟩ := h
  refine ⟨as, mapM_mono _ _ (fun _ _ _ => argX_mono (Grow.set hg r)) h1, (rs, ps), h2, ?_⟩
  split at h3
  case isFalse => simp at h3
  rename_i hc
  rw [if_pos hc]
  simp only [Option.map_eq_some_iff] at h3 ⊢
  obtain ⟨⟨xs, H1⟩, h4, h5⟩ := h3
  simp only [Prod.mk.injEq] at h5
  obtain ⟨rfl, rfl⟩ := h5
  exact ⟨(xs, _), resBack_ext h4 hn, rfl⟩

theorem postBack_none : ∀ {ps : List (List D)} {ids : List Nat} {H H' : Heap}, postBack ps ids H = some H' → ∀ a, H' a = none → H a = none
  | [], [], H, H', h, a, ha => by simp [postBack] at h; rw [h]; exact ha
  | [], _ :: _, _, _, h, _, _ => by simp [postBack] at h
  | _ :: _, [], _, _, h, _, _ => by simp [postBack] at h
  | cs :: ps, id :: ids, H, H', h, a, ha => by
    unfold postBack at h
    split at h
    · split at h
      · have := postBack_none h a ha
        by_cases hai : a = id
        · subst hai; simp [Heap.set] at this
        · simpa [Heap.set, hai] using this
      · cases h
    · cases h

theorem set_comm4 {H : Heap} {a b : Nat} {x y : Row} (h : a ≠ b) : (H.set a x).set b y = (H.set b y).set a x := by
  funext q
  simp only [Heap.set]
  by_cases h1 : q = b <;> by_cases h2 : q = a
  · subst h1; subst h2; exact absurd rfl h
  · simp [h1, Ne.symm h]
  · simp [h2, h]
  · simp [h1, h2]

theorem postBack_ext {nid : Nat} {r : Row} : ∀ {ps : List (List D)} {ids : List Nat} {H H' : Heap}, postBack ps ids H = some H' → H nid = none → postBack ps ids (H.set nid r) = some (H'.set nid r)
  | [], [], H, H', h, _ => by simp [postBack] at h ⊢; rw [h]
  | [], _ :: _, _, _, h, _ => by simp [postBack] at h
  | _ :: _, [], _, _, h, _ => by simp [postBack] at h
  | cs :: ps, id :: ids, H, H', h, hn => by
    unfold postBack at h ⊢
    split at h
    · rename_i old hid
      split at h
      · rename_i hl
        have hne : nid ≠ id := by rintro rfl; rw [hn] at hid; cases hid
        have e1 : (H.set nid r) id = some (.box old) := by simp [Heap.set, Ne.symm hne, hid]
        simp only [e1]
        rw [if_pos hl, set_comm4 hne]
        exact postBack_ext h (by simp [Heap.set, hne, hn])
      · cases h
    · cases h

theorem callA_ext {E : Entry} {pol : Bool} {args : List AV} {k nid : Nat} {H H' : Heap} {x : AV} {r : Row} (h : callA E pol args k H = some (x, H')) (hn : H' nid = none) : H nid = none ∧ callA E pol args k (H.set nid r) = some (x, H'.set nid r) := by
  unfold callA at h ⊢
  simp only [Option.bind_eq_some_iff] at h ⊢
  obtain ⟨as, h1, ⟨rs, ps⟩, h2, h3⟩ := h
  split at h3
  case isFalse => cases h3
  rename_i hc
  simp only [Option.bind_eq_some_iff, Option.map_eq_some_iff] at h3
  obtain ⟨H1, h4, ⟨xs, H2⟩, h5, h6⟩ := h3
  simp only [Prod.mk.injEq] at h6
  obtain ⟨rfl, rfl⟩ := h6
  have n1 : H1 nid = none := (resBack_grow h5).none hn
  have n0 : H nid = none := postBack_none h4 nid n1
  refine ⟨n0, as, mapM_mono _ _ (fun _ _ _ => argX_mono (Grow.set n0 r)) h1, (rs, ps), h2, ?_⟩
  rw [if_pos hc]
  simp only [Option.bind_eq_some_iff, Option.map_eq_some_iff]
  exact ⟨_, postBack_ext h4 n0, (xs, _), resBack_ext h5 hn, rfl⟩
end Go.Ab
