/-
  AN ABSTRACT LAYER, 14b: a call that turns rows of numbers that the caller owns.
-/
import Derived.Test.YtfdcmbjkapcbcacAbCall4
namespace Go.Ab
variable {P : Program}

def rowsM (H : Heap) : List AV → Option (List (IntKind × List Int) × List Nat)
  | [] => some ([], [])
  | .all id _ :: cs => match H id with
    | some (.ints k xs) => (rowsM H cs).map fun r => ((k, xs) :: r.1, id :: r.2)
    | _ => none
  | _ => none

def argM (H : Heap) : AV → Option (XA × List Nat)
  | .agg cs => (rowsM H cs).map fun r => (.rows false r.1, r.2)
  | .all id _ => match H id with
    | some (.ints k xs) => some (.rows true [(k, xs)], [id])
    | _ => none
  | .imm d => some (.d d, [])
  | _ => none

def argsM (H : Heap) : List AV → Option (List XA × List Nat)
  | [] => some ([], [])
  | x :: xs => (argM H x).bind fun a => (argsM H xs).map fun b => (a.1 :: b.1, a.2 ++ b.2)

def postM : List (List D) → List Nat → Heap → Option Heap
  | [], [], H => some H
  | [.ints k' xs'] :: ps, id :: ids, H => match H id with
    | some (.ints k _) => if k' = k then postM ps ids (H.set id (.ints k xs')) else none
    | _ => none
  | _, _, _ => none

def resM : XR → Option AV
  | .one (d, false) => match d.mem with
    | true => none
    | false => some (.imm d)
  | _ => none

/-- What follows such a call. -/
def backM (r : List XR × List (List D)) (ids : List Nat) (H : Heap) : Option (AV × Heap) :=
  if ids.Nodup then (postM r.2 ids H).bind fun H1 => (r.1.mapM resM).map fun xs => (packA xs, H1) else none

def callM (E : Entry) (args : List AV) (H : Heap) : Option (AV × Heap) :=
  (argsM H args).bind fun a => (E.m a.1).bind fun r => backM r a.2 H

section
variable {P : Program} {w : World} {w0 : World} {S N0 : Nat → Prop} {N : Nat → Prop} {H : Heap} {ι : Place}

/-- Blocks in which rows of the list lie. -/
def Under (H : Heap) (ι : Place) (ids : List Nat) (b : Nat) : Prop := ∃ id ∈ ids, ∃ k xs c, H id = some (.ints k xs) ∧ ι id = some (b, c)

theorem Under.apart (hI : Inv P w0 S N0 H w N ι) {a b : List Nat} (hd : ∀ id ∈ a, id ∉ b) {x : Nat} (h1 : Under H ι a x) (h2 : Under H ι b x) : False := by
  obtain ⟨i, hi, k, xs, c, e1, e2⟩ := h1
  obtain ⟨j, hj, k', xs', c', e3, e4⟩ := h2
  have := hI.inj i j _ _ x c c' e1 e3 rfl rfl e2 e4
  subst this
  exact hd i hi hj

theorem rowM_sound (hI : Inv P w0 S N0 H w N ι) {id s : Nat} {k : IntKind} {xs : List Int} {v : Value} (hH : H id = some (.ints k xs)) (hx : RepA P w N H ι (.all id s) v) :
    ∃ ob, CellRep P w N 0 (.ints k xs, true) v ob ∧ (∀ b, ob = some b → Under H ι [id] b) ∧ ∀ b, ob = some b → pvBlk v = some b := by
  cases hx with
  | @all _ _ a len cap hid hs hc hp =>
  obtain ⟨hdim, hp⟩ := hp _ hH rfl
  obtain rfl : len = xs.length := (congrArg Prod.snd hdim).symm
  obtain rfl : s = 1 := (congrArg Prod.fst hdim).symm
  rcases hp with ⟨h0, rfl⟩ | ⟨b, c, h1, rfl, h3, h4⟩
  · obtain rfl : xs = [] := List.eq_nil_of_length_eq_zero h0
    exact ⟨none, .inl ⟨rfl, rfl, a, rfl⟩, by simp, by simp⟩
  · rcases hI.rows id _ hH with ⟨h5, _⟩ | ⟨b', c', arr, e, h5, h6, h7, h8, h9⟩
    · rw [h1] at h5; cases h5
    · rw [h1] at h5
      cases h5
      by_cases hc0 : cap = 0
      · obtain rfl : xs = [] := List.eq_nil_of_length_eq_zero (by omega)
        subst hc0
        exact ⟨none, .inl ⟨rfl, rfl, _, rfl⟩, by simp, by simp⟩
      exact ⟨some b, .inr ⟨b, arr, e, cap, rfl, Nat.zero_le _, (hI.own id _ b c hH rfl h1).2, by simp, h6, by omega, h4, h9⟩, fun b2 h => by
        cases h; exact ⟨id, by simp, k, xs, c, hH, h1⟩, fun b2 h => by
        cases h; simp [pvBlk, hc0]⟩

theorem rowsM_sound (hI : Inv P w0 S N0 H w N ι) : ∀ (cs : List AV) (us : List Value) (rs : List (IntKind × List Int)) (ids : List Nat), cs.length = us.length → (∀ i (hi : i < cs.length) (hu : i < us.length), RepA P w N H ι cs[i] us[i]) →
    rowsM H cs = some (rs, ids) → ids.Nodup →
    ∃ bs, CellsRep P w N 0 (rs.map fun c => (.ints c.1 c.2, true)) us bs ∧ (∀ b ∈ bs, Under H ι ids b ∧ ∃ v ∈ us, pvBlk v = some b) ∧ us.length = ids.length ∧ ∀ i (hi : i < ids.length) (hu : i < us.length), (∃ s, RepA P w N H ι (.all ids[i] s) us[i]) ∧ ∃ k xs, H ids[i] = some (.ints k xs)
  | [], us, rs, ids, hl, _, h, _ => by
    have : us = [] := List.eq_nil_of_length_eq_zero hl.symm
    subst this
    simp [rowsM] at h
    obtain ⟨rfl, rfl⟩ := h
    exact ⟨[], .nil, by simp, rfl, by simp⟩
  | c :: cs, us, rs, ids, hl, hr, h, hnd => by
    obtain ⟨u, us, rfl⟩ : ∃ u us', us = u :: us' := by cases us with | nil => simp at hl | cons u us => exact ⟨u, us, rfl⟩
    have hx := hr 0 (by simp) (by simp)
    simp only [List.getElem_cons_zero] at hx
    unfold rowsM at h
    split at h
    · rename_i heq; cases heq
    · rename_i id s cs' heq
      cases heq
      split at h
      · rename_i k xs hH
        simp only [Option.map_eq_some_iff, Prod.mk.injEq] at h
        obtain ⟨⟨rs', ids'⟩, h1, rfl, rfl⟩ := h
        obtain ⟨hni, hnd'⟩ := List.nodup_cons.1 hnd
        obtain ⟨bs, g1, g2, g3, g4⟩ := rowsM_sound hI cs us rs' ids' (by simpa using hl) (fun i hi hu => hr (i + 1) (Nat.succ_lt_succ hi) (Nat.succ_lt_succ hu)) h1 hnd'
        obtain ⟨ob, q1, q2, q5⟩ := rowM_sound hI hH hx
        have hidx : ∀ i (hi : i < (id :: ids').length) (hu : i < (u :: us).length), (∃ s, RepA P w N H ι (.all (id :: ids')[i] s) (u :: us)[i]) ∧ ∃ k xs, H (id :: ids')[i] = some (.ints k xs) := fun i hi hu => by
          cases i with
          | zero => exact ⟨⟨s, hx⟩, k, xs, hH⟩
          | succ i => exact g4 i (Nat.lt_of_succ_lt_succ hi) (Nat.lt_of_succ_lt_succ hu)
        have wide : ∀ b, Under H ι ids' b → Under H ι (id :: ids') b := fun b ⟨i, hi, r⟩ => ⟨i, by simp [hi], r⟩
        cases ob with
        | none => exact ⟨bs, .none q1 g1, fun b hb => ⟨wide b (g2 b hb).1, by obtain ⟨v, hv, e⟩ := (g2 b hb).2; exact ⟨v, List.mem_cons_of_mem _ hv, e⟩⟩, by simp [g3], hidx⟩
        | some b =>
          have hb := q2 b rfl
          refine ⟨b :: bs, .some q1 (fun hm => Under.apart hI (a := [id]) (b := ids') (fun i hi => by simp at hi; subst hi; exact hni) hb (g2 b hm).1) g1, fun x hx => ?_, by simp [g3], hidx⟩
          rcases List.mem_cons.1 hx with rfl | hx
          · obtain ⟨i, hi, r⟩ := hb
            exact ⟨⟨i, by simp at hi; simp [hi], r⟩, u, by simp, q5 _ rfl⟩
          · obtain ⟨v, hv, e⟩ := (g2 x hx).2
            exact ⟨wide x (g2 x hx).1, v, List.mem_cons_of_mem _ hv, e⟩
      · simp at h
    · simp at h

theorem argsM_sound (hI : Inv P w0 S N0 H w N ι) : ∀ (xs : List AV) (vs : List Value) (as : List XA) (ids : List Nat), xs.length = vs.length → (∀ i (hi : i < xs.length) (hv : i < vs.length), RepA P w N H ι xs[i] vs[i]) →
    argsM H xs = some (as, ids) → ids.Nodup →
    ∃ bs pv, ArgsRep P w N as vs bs pv ∧ (∀ b ∈ bs, Under H ι ids b) ∧ pv.length = ids.length ∧ ∀ i (hi : i < ids.length) (hu : i < pv.length), (∃ s, RepA P w N H ι (.all ids[i] s) pv[i]) ∧ ∃ k xs, H ids[i] = some (.ints k xs)
  | [], vs, as, ids, hl, _, h, _ => by
    have : vs = [] := List.eq_nil_of_length_eq_zero hl.symm
    subst this
    simp [argsM] at h
    obtain ⟨rfl, rfl⟩ := h
    exact ⟨[], [], .nil, by simp, rfl, by simp⟩
  | x :: xs, vs, as, ids, hl, hr, h, hnd => by
    obtain ⟨v, vs, rfl⟩ : ∃ v vs', vs = v :: vs' := by cases vs with | nil => simp at hl | cons u us => exact ⟨u, us, rfl⟩
    have hx := hr 0 (by simp) (by simp)
    simp only [List.getElem_cons_zero] at hx
    simp only [argsM, Option.bind_eq_some_iff, Option.map_eq_some_iff, Prod.mk.injEq] at h
    obtain ⟨⟨a, i1⟩, h1, ⟨as', i2⟩, h2, rfl, rfl⟩ := h
    obtain ⟨n1, n2, n3⟩ := List.nodup_append.1 hnd
    obtain ⟨bs, pv, g1, g2, g3, g4⟩ := argsM_sound hI xs vs as' i2 (by simpa using hl) (fun i hi hv => hr (i + 1) (Nat.succ_lt_succ hi) (Nat.succ_lt_succ hv)) h2 n2
    have wide : ∀ b, Under H ι i2 b → Under H ι (i1 ++ i2) b := fun b ⟨i, hi, r⟩ => ⟨i, by simp [hi], r⟩
    have wide1 : ∀ b, Under H ι i1 b → Under H ι (i1 ++ i2) b := fun b ⟨i, hi, r⟩ => ⟨i, by simp [hi], r⟩
    have hap : ∀ b, Under H ι i1 b → ¬ Under H ι i2 b := fun b q1 q2 => Under.apart hI (fun i hi hi' => n3 i hi i hi' rfl) q1 q2
    have join : ∀ {us : List Value}, us.length = i1.length → (∀ i (hi : i < i1.length) (hu : i < us.length), (∃ s, RepA P w N H ι (.all i1[i] s) us[i]) ∧ ∃ k xs, H i1[i] = some (.ints k xs)) →
        (us ++ pv).length = (i1 ++ i2).length ∧ ∀ i (hi : i < (i1 ++ i2).length) (hu : i < (us ++ pv).length), (∃ s, RepA P w N H ι (.all (i1 ++ i2)[i] s) (us ++ pv)[i]) ∧ ∃ k xs, H (i1 ++ i2)[i] = some (.ints k xs) := by
      intro us hus hu1
      refine ⟨by simp [hus, g3], fun i hi hu => ?_⟩
      by_cases hlt : i < i1.length
      · rw [List.getElem_append_left hlt, List.getElem_append_left (by omega)]
        exact hu1 i hlt (by omega)
      · rw [List.getElem_append_right (by omega), List.getElem_append_right (by omega)]
        simp only [hus]
        exact g4 _ (by simp at hi; omega) (by simp at hu; omega)
    unfold argM at h1
    split at h1
    · rename_i cs
      simp only [Option.map_eq_some_iff, Prod.mk.injEq] at h1
      obtain ⟨⟨rs, is⟩, h3, rfl, rfl⟩ := h1
      cases hx with
      | @agg _ us hul hur =>
      obtain ⟨bs1, q1, q2, q3, q4⟩ := rowsM_sound hI cs us.toList rs _ (by simpa using hul.symm) (fun i hi hu => by
        have := hur i hi
        simpa [show i < us.size by simpa using hu] using this) h3 n1
      obtain ⟨j1, j2⟩ := join q3 q4
      refine ⟨bs1 ++ bs, us.toList ++ pv, ?_, fun b hb => ?_, j1, j2⟩
      · have := ArgsRep.rows q1 (fun b hb => (q2 b hb).2) (fun b hb hb' => hap b (q2 b hb).1 (g2 b hb')) g1
        simpa using this
      · rcases List.mem_append.1 hb with hb | hb
        · exact wide1 b (q2 b hb).1
        · exact wide b (g2 b hb)
    · rename_i id s
      split at h1
      · rename_i k ys hH
        simp only [Option.some.injEq, Prod.mk.injEq] at h1
        obtain ⟨rfl, rfl⟩ := h1
        obtain ⟨ob, q1, q2, q5⟩ := rowM_sound hI hH hx
        obtain ⟨j1, j2⟩ := join (us := [v]) rfl (fun i hi hu => by
          simp at hi
          subst hi
          exact ⟨⟨s, hx⟩, k, ys, hH⟩)
        cases ob with
        | none =>
          refine ⟨[] ++ bs, v :: pv, .row (.none q1 .nil) (by simp) (by simp) g1, fun b hb => wide b (g2 b (by simpa using hb)), by simpa using j1, by simpa using j2⟩
        | some b =>
          have hb := q2 b rfl
          refine ⟨[b] ++ bs, v :: pv, .row (.some q1 (by simp) .nil) (fun x hx => by simp at hx; subst hx; exact q5 _ rfl) (fun x hx hm => ?_) g1, fun x hx => ?_, by simpa using j1, by simpa using j2⟩
          · simp at hx
            subst hx
            exact hap _ hb (g2 _ hm)
          · simp at hx
            rcases hx with rfl | hx
            · exact wide1 _ hb
            · exact wide x (g2 x hx)
      · simp at h1
    · rename_i d
      simp only [Option.some.injEq, Prod.mk.injEq] at h1
      obtain ⟨rfl, rfl⟩ := h1
      cases hx with
      | imm hx => exact ⟨bs, pv, .d hx g1, fun b hb => wide b (g2 b hb), by simpa using g3, by simpa using g4⟩
    · simp at h1

theorem postM_spec {ps : List (List D)} {pv : List Value} {N' : Nat → Prop} {w' : World} (hp : PostRep P w' N' ps pv) (hs : ∀ v ∈ pv, ∀ b, v ≠ ptrOf b) : ∀ (ids : List Nat) (H H1 : Heap), ids.Nodup → postM ps ids H = some H1 →
    pv.length = ids.length ∧ (∀ id, id ∉ ids → H1 id = H id) ∧ ∀ i (hi : i < ids.length) (hu : i < pv.length), ∃ k xs xs' ob, H ids[i] = some (.ints k xs) ∧ H1 ids[i] = some (.ints k xs') ∧ CellRep P w' N' 0 (.ints k xs', true) pv[i] ob := by
  induction hp with
  | nil =>
    intro ids H H1 _ h
    cases ids <;> simp [postM] at h
    subst h
    simp
  | @row k xs' v ob ps pv hc t ih =>
    intro ids H H1 hnd h
    cases ids with
    | nil => simp [postM] at h
    | cons id ids =>
    obtain ⟨hni, hnd⟩ := List.nodup_cons.1 hnd
    simp only [postM] at h
    split at h
    case h_2 => simp at h
    rename_i k0 xs hH
    split at h
    case isFalse => simp at h
    rename_i hk
    subst hk
    obtain ⟨g1, g2, g3⟩ := ih (fun v hv => hs v (by simp [hv])) ids _ H1 hnd h
    refine ⟨by simp [g1], fun x hx => ?_, fun i hi hu => ?_⟩
    · simp only [List.mem_cons, not_or] at hx
      rw [g2 x hx.2]
      simp [Heap.set, hx.1]
    · cases i with
      | zero =>
        refine ⟨k, xs, xs', ob, hH, ?_, hc⟩
        have := g2 id hni
        simpa [Heap.set] using this
      | succ i =>
        obtain ⟨k2, ys, ys', ob2, q1, q2, q3⟩ := g3 i (Nat.lt_of_succ_lt_succ hi) (Nat.lt_of_succ_lt_succ hu)
        have hne : ids[i]'(Nat.lt_of_succ_lt_succ hi) ≠ id := fun e => hni (e ▸ List.getElem_mem _)
        exact ⟨k2, ys, ys', ob2, by simpa [Heap.set, hne] using q1, by simpa using q2, q3⟩
  | @cons cs ps pv b arr e h hl hr hN t ih => exact absurd rfl (hs _ (by simp) b)

theorem resM_back : ∀ (rs : List XR) (xs : List AV) (us : List Value) (bs : List Nat) {w' : World} {N' : Nat → Prop} {base : Nat}, rs.mapM resM = some xs → ResRep P w' N' base rs us bs →
    xs.length = us.length ∧ ∀ (w2 : World) (N2 : Nat → Prop) (H2 : Heap) (ι2 : Place) i (hi : i < xs.length) (hu : i < us.length), RepA P w2 N2 H2 ι2 xs[i] us[i]
  | [], xs, us, bs, w', N', base, h, hr => by
    simp at h
    subst h
    cases hr
    exact ⟨rfl, by simp⟩
  | r :: rs, xs, us, bs, w', N', base, h, hr => by
    simp only [List.mapM_cons, Option.bind_eq_bind, Option.bind_eq_some_iff, Option.pure_def, Option.some.injEq] at h
    obtain ⟨x, h1, ys, h2, rfl⟩ := h
    unfold resM at h1
    split at h1
    case h_2 => simp at h1
    rename_i d
    split at h1
    · simp at h1
    · rename_i hm
      simp at h1
      subst h1
      cases hr with
      | @one _ v _ us' bs1 bs' hc hd t =>
      obtain ⟨g1, g2⟩ := resM_back rs ys us' bs' h2 t
      have hv : RepD P w' N' d v := by
        cases hc with
        | none h _ => exact h.1
        | some h _ _ => exact absurd h.2 (by simp)
      refine ⟨by simp [g1], fun w2 N2 H2 ι2 i hi hu => ?_⟩
      cases i with
      | zero => exact .imm (hv.nomem hm w2 N2)
      | succ i => exact g2 w2 N2 H2 ι2 i (Nat.lt_of_succ_lt_succ hi) (Nat.lt_of_succ_lt_succ hu)

theorem callM_sound {E : Entry} {args : List AV} {vs : List Value} {x : AV} {H' : Heap} (hE : CallSpec P E) (hI : Inv P w0 S N0 H w N ι) (h : callM E args H = some (x, H'))
    (hl : args.length = vs.length) (hr : ∀ i (hi : i < args.length) (hv : i < vs.length), RepA P w N H ι args[i] vs[i]) :
    CallsE P E vs.toArray w fun e w' => ∃ v N' ι', e = .returned v ∧ Inv P w0 S N0 H' w' N' ι' ∧ Fwd N ι H w N' ι' H' w' ∧ RepA P w' N' H' ι' x v := by
  unfold callM at h
  simp only [Option.bind_eq_some_iff] at h
  obtain ⟨⟨as, ids⟩, h1, ⟨rs, ps⟩, h2, h3⟩ := h
  unfold backM at h3
  split at h3
  case isFalse => simp at h3
  rename_i hnd
  simp only [Option.bind_eq_some_iff, Option.map_eq_some_iff, Prod.mk.injEq] at h3
  obtain ⟨H1, h4, xs, h5, rfl, rfl⟩ := h3
  obtain ⟨bs, pv, a1, a2, a3, a4⟩ := argsM_sound hI args vs as ids hl hr h1 hnd
  have hsl : ∀ v ∈ pv, ∀ b, v ≠ ptrOf b := fun v hv b e => by
    obtain ⟨i, hi, rfl⟩ := List.getElem_of_mem hv
    obtain ⟨⟨s, g⟩, _⟩ := a4 i (by omega) hi
    rw [e] at g
    cases g
  refine (hE.calls w N as vs bs pv rs ps hI.lt a1 h2).mono ?_
  rintro e w' ⟨us, Nc, obs, rfl, hk, hN1, hN2, hres, hpost, hrl⟩
  obtain ⟨p1, p2, p3⟩ := postM_spec hpost hsl ids H H1 hnd h4
  have hbsN : ∀ b ∈ bs, ¬ N b := fun b hb hn => by
    obtain ⟨id, _, k, ys, c, e2, e3⟩ := a2 b hb
    exact (hI.own id _ b c e2 rfl e3).2 hn
  -- the rows that turned
  have turned : ∀ id ∈ ids, ∃ k ys ys' ob v s, H id = some (.ints k ys) ∧ H1 id = some (.ints k ys') ∧ CellRep P w' Nc 0 (.ints k ys', true) v ob ∧ RepA P w N H ι (.all id s) v ∧ ys'.length = ys.length := by
    intro id hid
    obtain ⟨i, hi, rfl⟩ := List.getElem_of_mem hid
    obtain ⟨k, ys, ys', ob, q1, q2, q3⟩ := p3 i hi (by omega)
    obtain ⟨⟨s, g⟩, _⟩ := a4 i hi (by omega)
    refine ⟨k, ys, ys', ob, _, s, q1, q2, q3, g, ?_⟩
    generalize pv[i] = v at q3 g
    cases g with
    | @all _ _ a len cap hid hs hc hp =>
    obtain ⟨hdim, hp⟩ := hp _ q1 rfl
    obtain rfl : len = ys.length := (congrArg Prod.snd hdim).symm
    rcases q3 with ⟨_, rfl, a', e⟩ | ⟨b, arr, e', cap', _, _, _, e, _⟩
    · simp at e; simp; omega
    · simp at e; omega
  have hf : Fwd N ι H w N ι H1 w' := by
    refine ⟨fun b hb => hb, fun b o hb => World.cell?_of_block (hk.block b (hI.lt b hb) fun hm => hbsN b hm hb), fun id r hid => ?_⟩
    by_cases hm : id ∈ ids
    · obtain ⟨k, ys, ys', ob, v, s, q1, q2, q3, q4, q5⟩ := turned id hm
      rw [q1] at hid
      cases hid
      exact ⟨_, q2, fun _ => ⟨rfl, by simp [Row.dim, Row.sz, Row.len, q5], rfl⟩⟩
    · exact ⟨r, by rw [p2 id hm]; exact hid, fun hl => ⟨hl, rfl, rfl⟩⟩
  have look : ∀ id r, H1 id = some r → r.live = true → ∃ r0, H id = some r0 ∧ r0.live = true := fun id r hid hl => by
    by_cases hm : id ∈ ids
    · obtain ⟨k, ys, ys', ob, v, s, q1, _⟩ := turned id hm
      exact ⟨_, q1, rfl⟩
    · rw [p2 id hm] at hid
      exact ⟨r, hid, hl⟩
  have keptBlk : ∀ (b : Nat) (arr0 : Array Value) (e0 : TypeId), w.heap[b]? = some (Obj.cells arr0 e0 (0, 0)) → ∃ (arr' : Array Value) (e' : TypeId), w'.heap[b]? = some (Obj.cells arr' e' (0, 0)) ∧ arr'.size = arr0.size := fun b arr0 e0 g1 => by
    by_cases hm : b ∈ bs
    · exact hk.cells b arr0 e0 hm g1
    · exact ⟨arr0, e0, by rw [hk.block b (Array.getElem?_eq_some_iff.1 g1).1 hm]; exact g1, rfl⟩
  have hI1 : Inv P w0 S N0 H1 w' N ι := by
    refine ⟨⟨hk.os.trans hI.keeps.os, hk.tape.trans hI.keeps.tape, hk.output.trans hI.keeps.output, Nat.le_trans hI.keeps.size hk.size, fun b hb hS => ?_, fun b arr0 e0 hS h0 => ?_⟩, fun id r hid => ?_, fun id id' r r' b c c' h1 h2 l1 l2 e1 e2 => ?_, fun id r b c hid hl hι => ?_, ?_, hI.old, hI.new⟩
    · rw [hk.block b (by have := hI.keeps.size; omega) fun hm => ?_]
      · exact hI.keeps.block b hb hS
      · obtain ⟨id, _, k, ys, c, e2, e3⟩ := a2 b hm
        rcases (hI.own id _ b c e2 rfl e3).1 with h | h
        · exact hS h
        · omega
    · obtain ⟨a1, e1, g1, g2⟩ := hI.keeps.cells b arr0 e0 hS h0
      obtain ⟨a2, e2, g3, g4⟩ := keptBlk b a1 e1 g1
      exact ⟨a2, e2, g3, g4.trans g2⟩
    · by_cases hm : id ∈ ids
      · obtain ⟨k, ys, ys', ob, v, s, q1, q2, q3, q4, q5⟩ := turned id hm
        rw [q2] at hid
        cases hid
        cases q4 with
        | @all _ _ a len cap hid hs hc hp =>
        obtain ⟨hdim, hp⟩ := hp _ q1 rfl
        obtain rfl : len = ys.length := (congrArg Prod.snd hdim).symm
        obtain rfl : s = 1 := (congrArg Prod.fst hdim).symm
        rcases hI.rows id _ q1 with ⟨h5, h6⟩ | ⟨b, c, arr, e, h5, h6, h7, h8, h9⟩
        · subst h6
          exact .inl ⟨h5, List.eq_nil_of_length_eq_zero q5⟩
        · obtain ⟨arr', e', k1, k2⟩ := keptBlk b arr e h6
          refine .inr ⟨b, c, arr', e', h5, k1, by omega, by omega, fun i hi => ?_⟩
          rcases q3 with ⟨_, rfl, _⟩ | ⟨b2, arr2, e2, cap2, _, _, _, g1, g2, g3, g4, g5⟩
          · simp at hi
          · rcases hp with ⟨z1, z2⟩ | ⟨b3, c3, z1, rfl, z3, z4⟩
            · omega
            · rw [h5] at z1
              cases z1
              simp only [Nat.zero_mul, Value.slice.injEq, Option.some.injEq, Addr.mk.injEq, and_true] at g1
              obtain ⟨rfl, _⟩ := g1
              rw [k1] at g2
              cases g2
              exact g5 i hi
      · have hid' := hid
        rw [p2 id hm] at hid'
        by_cases hl : r.live = true
        · refine (hI.rows id r hid').fwd hf rfl fun b c hb => ?_
          refine hk.block b (hI.blk hid' hl hb) fun hmb => ?_
          obtain ⟨id2, e1, k, ys, c2, e2, e3⟩ := a2 b hmb
          have := hI.inj id id2 r _ b c c2 hid' e2 hl rfl hb e3
          subst this
          exact hm e1
        · cases r <;> first | trivial | simp [Row.live] at hl
    · obtain ⟨r0, k1, k2⟩ := look id r h1 l1
      obtain ⟨r0', k1', k2'⟩ := look id' r' h2 l2
      exact hI.inj id id' r0 r0' b c c' k1 k1' k2 k2' e1 e2
    · obtain ⟨r0, k1, k2⟩ := look id r hid hl
      exact hI.own id r0 b c k1 k2 hι
    · intro b hb
      have := hI.lt b hb; have := hk.size; omega
  obtain ⟨z3, z4⟩ := resM_back rs xs us obs h5 hres
  refine ⟨packed us, N, ι, rfl, hI1, hf, ?_⟩
  match xs, us, z3, z4 with
  | [x], [u], _, z4 => exact z4 w' N H1 ι 0 (by simp) (by simp)
  | [], [], _, z4 => exact .tup rfl (by simp)
  | x :: y :: xs, u :: u2 :: us, z3, z4 =>
    refine .tup (by simpa using z3.symm) fun i hi => ?_
    have hiu : i < (u :: u2 :: us).length := by omega
    have e4 : (u :: u2 :: us).toArray.getD i Go.undef = (u :: u2 :: us)[i] := by
      rw [Array.getD_eq_getD_getElem?, List.getElem?_toArray, List.getElem?_eq_getElem hiu]
      rfl
    rw [e4]
    exact z4 w' N H1 ι i hi hiu
end
end Go.Ab
