/-
  AN ABSTRACT LAYER, 19: rows under new names.
-/
import Derived.Test.YtfdcmbjkapcbcacAbCode
namespace Go.Ab
variable {P : Program}

theorem once_spec : ∀ l : List Nat, (once l).Nodup ∧ ∀ x, x ∈ once l → x ∈ l
  | [] => ⟨List.nodup_nil, fun _ h => h⟩
  | x :: l => by
    obtain ⟨h1, h2⟩ := once_spec l
    simp only [once]
    split
    · exact ⟨h1, fun y hy => by simp [h2 y hy]⟩
    · rename_i hc
      exact ⟨List.nodup_cons.2 ⟨by simpa using hc, h1⟩, fun y hy => by
        rcases List.mem_cons.1 hy with rfl | hy
        · simp
        · simp [h2 y hy]⟩

theorem renL_map (L : List Nat) : ∀ cs, renL L cs = cs.map (ren L)
  | [] => by simp [renL]
  | c :: cs => by simp [renL, renL_map L cs]

theorem renId_spec {L : List Nat} {id n : Nat} (h : renId L id = some n) : ∃ k, ∃ hk : k < L.length, n = baseId + k ∧ L[k] = id := by
  unfold renId at h
  simp at h
  obtain ⟨h1, rfl⟩ := h
  exact ⟨_, h1, rfl, List.getElem_idxOf h1⟩

theorem renRow_live (L : List Nat) (r : Row) : (renRow L r).live = r.live := by cases r <;> rfl

theorem renRow_dim (L : List Nat) (r : Row) : (renRow L r).dim = r.dim := by
  cases r <;> simp [renRow, Row.dim, Row.sz, Row.len, renL_map]

theorem hOf_rows (L : List Nat) (H : Heap) : ∀ (ids : List Nat) (n x : Nat), (∀ id ∈ ids, ∃ r, H id = some r) →
    ∀ r', hOf (rowsFrom L H n ids) x = some r' ↔ ∃ k, ∃ hk : k < ids.length, ∃ r, x = n + k ∧ H ids[k] = some r ∧ r' = renRow L r
  | [], n, x, _, r' => by simp [rowsFrom, hOf]
  | id :: ids, n, x, h, r' => by
    obtain ⟨r, hr⟩ := h id (by simp)
    have ih := hOf_rows L H ids (n + 1) x (fun i hi => h i (by simp [hi])) r'
    simp only [rowsFrom, hr]
    by_cases hx : x = n
    · subst hx
      have : hOf ((x, renRow L r) :: rowsFrom L H (x + 1) ids) x = some (renRow L r) := by simp [hOf]
      rw [this]
      constructor
      · intro e
        exact ⟨0, by simp, r, rfl, hr, by simpa using e.symm⟩
      · rintro ⟨k, hk, r2, e1, e2, rfl⟩
        obtain rfl : k = 0 := by omega
        simp only [List.getElem_cons_zero] at e2
        rw [hr] at e2
        cases e2
        rfl
    · have : hOf ((n, renRow L r) :: rowsFrom L H (n + 1) ids) x = hOf (rowsFrom L H (n + 1) ids) x := by
        simp [hOf, Ne.symm hx]
      rw [this, ih]
      constructor
      · rintro ⟨k, hk, r2, e1, e2, e3⟩
        exact ⟨k + 1, by simp; omega, r2, by omega, by simpa using e2, e3⟩
      · rintro ⟨k, hk, r2, e1, e2, e3⟩
        cases k with
        | zero => omega
        | succ k => exact ⟨k, by simpa using hk, r2, by omega, by simpa using e2, e3⟩

section
variable {w0 : World} {S N0 : Nat → Prop} {pv : List Value} {H : Heap} {w : World} {N : Nat → Prop} {ι : Place}

/-- Where rows lie under their new names. -/
def newPlace (L : List Nat) (ι : Place) : Place := fun x => if baseId ≤ x then (L[x - baseId]?).bind ι else none

theorem newPlace_at {L : List Nat} {k : Nat} (hk : k < L.length) : newPlace L ι (baseId + k) = ι L[k] := by
  simp [newPlace, hk]

theorem ren_rep {L : List Nat} (hL : ∀ id ∈ L, ∃ r, H id = some r ∧ r.live = true) {x : AV} {v : Value} (h : RepA P w N H ι x v) : RepA P w N (hOf (rowsFrom L H baseId L)) (newPlace L ι) (ren L x) v := by
  have at_ : ∀ {id n : Nat}, renId L id = some n → ∃ r, H id = some r ∧ r.live = true ∧ hOf (rowsFrom L H baseId L) n = some (renRow L r) ∧ newPlace L ι n = ι id := by
    intro id n hn
    obtain ⟨k, hk, rfl, rfl⟩ := renId_spec hn
    obtain ⟨r, hr, hl⟩ := hL _ (List.getElem_mem hk)
    exact ⟨r, hr, hl, (hOf_rows L H L baseId _ (fun id hid => (hL id hid).imp fun _ h => h.1) _).2 ⟨k, hk, r, rfl, hr, rfl⟩, newPlace_at hk⟩
  induction h with
  | imm h => simp only [ren]; exact .imm h
  | @row id s off len a cap hu hs hc h =>
    simp only [ren]
    split
    · rename_i n hn
      obtain ⟨r, h1, h2, h3, h4⟩ := at_ hn
      refine .row (by rw [h3]; simp) hs hc fun r' hr' hl => ?_
      rw [h3] at hr'
      cases hr'
      obtain ⟨g1, g2⟩ := h r h1 h2
      exact ⟨by rw [show (renRow L r).sz = r.sz from congrArg Prod.fst (renRow_dim L r)]; exact g1, by unfold SlPos at *; rw [h4]; exact g2⟩
    · exact .dead
  | @all id s a len cap hu hs hc h =>
    simp only [ren]
    split
    · rename_i n hn
      obtain ⟨r, h1, h2, h3, h4⟩ := at_ hn
      refine .all (by rw [h3]; simp) hs hc fun r' hr' hl => ?_
      rw [h3] at hr'
      cases hr'
      obtain ⟨g1, g2⟩ := h r h1 h2
      exact ⟨by rw [renRow_dim]; exact g1, by unfold SlPos at *; rw [h4]; exact g2⟩
    · exact .dead
  | @ptr id i j y hu h =>
    simp only [ren]
    split
    · rename_i n hn
      obtain ⟨r, h1, h2, h3, h4⟩ := at_ hn
      refine .ptr (by rw [h3]; simp) fun r' hr' hl => ?_
      rw [h3] at hr'
      cases hr'
      rw [show (renRow L r).sz = r.sz from congrArg Prod.fst (renRow_dim L r), h4]
      exact h r h1 h2
    · exact .dead
  | eptr h hi hv => simp only [ren]; exact .eptr h hi hv
  | dptr h hv => simp only [ren]; exact .dptr h hv
  | agg hl _ ih =>
    simp only [ren, renL_map]
    exact .agg (by simpa using hl) fun i hi => by simpa using ih i (by simpa using hi)
  | tup hl _ ih =>
    simp only [ren, renL_map]
    exact .tup (by simpa using hl) fun i hi => by simpa using ih i (by simpa using hi)
  | clo hl _ ih =>
    simp only [ren, renL_map]
    exact .clo (by simpa using hl) fun i hi => by simpa using ih i (by simpa using hi)
  | @yld id v hu hv h =>
    simp only [ren]
    split
    · rename_i n hn
      obtain ⟨r, h1, h2, h3, h4⟩ := at_ hn
      refine .yld (by rw [h3]; simp) hv fun r' hr' hl => ?_
      rw [h3] at hr'
      cases hr'
      rw [h4]
      exact h r h1 h2
    · exact .dead
  | @dfr id v hu hv h =>
    simp only [ren]
    split
    · rename_i n hn
      obtain ⟨r, h1, h2, h3, h4⟩ := at_ hn
      refine .dfr (by rw [h3]; simp) hv fun r' hr' hl => ?_
      rw [h3] at hr'
      cases hr'
      rw [h4]
      exact h r h1 h2
    · exact .dead
  | undef => simp only [ren]; exact .undef
  | dead => simp only [ren]; exact .dead

theorem ren_inv {L : List Nat} (hI : Inv P w0 S N0 H w N ι) (hL : ∀ id ∈ L, ∃ r, H id = some r ∧ r.live = true) (hnd : L.Nodup) : Inv P w0 S N0 (hOf (rowsFrom L H baseId L)) w N (newPlace L ι) := by
  have look : ∀ x r', hOf (rowsFrom L H baseId L) x = some r' → ∃ k, ∃ hk : k < L.length, ∃ r, x = baseId + k ∧ H L[k] = some r ∧ r' = renRow L r ∧ r.live = true ∧ newPlace L ι x = ι L[k] := by
    intro x r' h
    obtain ⟨k, hk, r, rfl, h2, h3⟩ := (hOf_rows L H L baseId x (fun id hid => (hL id hid).imp fun _ h => h.1) r').1 h
    obtain ⟨r2, h4, h5⟩ := hL _ (List.getElem_mem hk)
    rw [h2] at h4
    cases h4
    exact ⟨k, hk, r, rfl, h2, h3, h5, newPlace_at hk⟩
  refine ⟨hI.keeps, fun x r' hx => ?_, fun x y rx ry b c c' hx hy _ _ hbx hby => ?_, fun x r' b c hx _ hb => ?_, hI.lt, hI.old, hI.new⟩
  · obtain ⟨k, hk, r, rfl, h2, rfl, h4, h5⟩ := look x r' hx
    have hrow := hI.rows _ r h2
    cases r with
    | ints kk xs => simp only [RepRow, renRow] at hrow ⊢; rw [h5]; exact hrow
    | ds s xs => simp only [RepRow, renRow] at hrow ⊢; rw [h5]; exact hrow
    | box cs =>
      obtain ⟨b, c, arr, e, q1, q2, q3, q4, f, q5⟩ := hrow
      refine ⟨b, c, arr, e, h5.trans q1, q2, q3, by simpa [renL_map] using q4, f, fun i hi => ?_⟩
      simp only [renL_map, List.length_map] at hi
      refine ⟨(q5 i hi).1, ?_⟩
      simp only [renL_map, List.getElem_map]
      exact ren_rep hL (q5 i hi).2
    | loop me ts ps as bd st =>
      obtain ⟨b, c, Lo, q1, q2, q3, q4, q5, q6, q7, q8, q9⟩ := hrow
      refine ⟨b, c, Lo, h5.trans q1, q2, q3, q4, q5, q6, q7, by simpa [renL_map] using q8, fun i hi => ?_⟩
      simp only [renL_map, List.length_map] at hi
      simp only [renL_map, List.getElem_map]
      exact ren_rep hL (q9 i hi)
    | dfr =>
      obtain ⟨b, c, q1, q2⟩ := hrow
      exact ⟨b, c, h5.trans q1, q2⟩
    | dead => simp [Row.live] at h4
  · obtain ⟨k, hk, r, rfl, h2, rfl, h4, h5⟩ := look x rx hx
    obtain ⟨k', hk', r', rfl, h2', rfl, h4', h5'⟩ := look y ry hy
    rw [h5] at hbx
    rw [h5'] at hby
    have := hI.inj _ _ r r' b c c' h2 h2' h4 h4' hbx hby
    have hp := List.pairwise_iff_getElem.1 hnd
    rcases Nat.lt_trichotomy k k' with hlt | rfl | hlt
    · exact absurd this (hp k k' hk hk' hlt)
    · rfl
    · exact absurd this.symm (hp k' k hk' hk hlt)
  · obtain ⟨k, hk, r, rfl, h2, rfl, h4, h5⟩ := look x r' hx
    rw [h5] at hb
    exact hI.own _ r b c h2 h4 hb

theorem ren_marks {L : List Nat} (hL : ∀ id ∈ L, ∃ r, H id = some r ∧ r.live = true) {d : List AV} {ds : List Deferred} (h : Marks P w N H ι d ds) : Marks P w N (hOf (rowsFrom L H baseId L)) (newPlace L ι) (renL L d) ds := by
  obtain ⟨ms, h1, h2⟩ := h
  have := ren_rep hL h2
  simp only [ren] at this
  exact ⟨ms, h1, this⟩

theorem tidy_rel {s : St} {a : Act} (h : Rel P w0 S N0 pv s a w) : Rel P w0 S N0 pv (tidy s) a w := by
  obtain ⟨N, ι, hI, hd, hs, ht, hpl, hp⟩ := h
  have hL : ∀ l : List Nat, ∀ id ∈ once (l.filter (liveIn s.H)), ∃ r, s.H id = some r ∧ r.live = true := by
    intro l id hid
    have hm := (List.mem_filter.1 ((once_spec _).2 _ hid)).2
    unfold liveIn at hm
    split at hm
    · simp at hm
    · rename_i r hne hr
      exact ⟨r, hr, by cases r <;> first | rfl | exact (hne rfl).elim⟩
    · simp at hm
  refine ⟨N, newPlace _ ι, ren_inv hI (hL _) (once_spec _).1, ren_marks (hL _) hd, by simpa [tidy, renL_map] using hs, fun i hi => ?_, by simpa [tidy, renL_map] using hpl, fun i hi hv => ?_⟩
  · simp only [tidy, renL_map, List.length_map] at hi
    simp only [tidy, renL_map, List.getElem_map]
    exact ren_rep (hL _) (ht i hi)
  · simp only [tidy, renL_map, List.length_map] at hi
    simp only [tidy, renL_map, List.getElem_map]
    exact ren_rep (hL _) (hp i hi hv)

theorem atHead_rel {A : Ann} {c : Code} {s : St} {a : Act} (h : Rel P w0 S N0 pv s a w) : Rel P w0 S N0 pv (atHead A c s) a w := by
  unfold atHead
  split
  · exact tidy_rel (forget_rel h _)
  · exact tidy_rel h

theorem subP_rep {w : World} {N N' : Nat → Prop} {H : Heap} {ι : Place} {id b c : Nat} {ds : List D} {x : AV} {v : Value} (hb : RepD P w N' (.pbox ds) (.pointer (some ⟨b, 0, none⟩))) (hH : ∃ cs, H id = some (.box cs)) (hι : ι id = some (b, c))
    (hf : Fwd N ι H w N' ι (H.set id .dead) w) (h : RepA P w N H ι x v) : RepA P w N' (H.set id .dead) ι (subP id ds x) v := by
  unfold subP
  split
  · rename_i id' i j
    split
    · rename_i he
      subst he
      split
      · rename_i hi
        subst hi
        cases h with
        | ptr hu hp =>
        obtain ⟨cs, hcs⟩ := hH
        obtain ⟨b', c', q1, rfl⟩ := hp _ hcs rfl
        rw [hι] at q1
        cases q1
        exact .dptr hb (by simp)
      · exact .dead
    · exact h.fwd hf
  · exact h.fwd hf

theorem subR_rep {w : World} {N N' : Nat → Prop} {H : Heap} {ι : Place} {id : Nat} {k : IntKind} {xs : List Int} {x : AV} {v : Value} (hb : ∀ {s : Nat} {v : Value}, RepA P w N H ι (.all id s) v → RepD P w N' (.ints k xs) v)
    (hf : Fwd N ι H w N' ι (H.set id .dead) w) (h : RepA P w N H ι x v) : RepA P w N' (H.set id .dead) ι (subR id k xs x) v := by
  unfold subR
  split
  · rename_i id' s
    split
    · rename_i he
      subst he
      exact .imm (hb h)
    · exact h.fwd hf
  · exact h.fwd hf

/-- A row that is not what was handed over lies in a new block. -/
theorem pins_new {s : St} {N : Nat → Prop} {ι : Place} {w : World} (hI : Inv P w0 S N0 s.H w N ι) (hSp : ∀ b, S b → ∃ v ∈ pv, pvBlk v = some b) (hpl : s.p.length = pv.length) (hp : ∀ i (hi : i < s.p.length) (hv : i < pv.length), RepA P w N s.H ι s.p[i] pv[i])
    {np : Bool} (hS : np = true → ∀ b, ¬ S b) {id : Nat} {r : Row} {b c : Nat} (hH : s.H id = some r) (hl : r.live = true) (hι : ι id = some (b, c)) (hc : (np || pinsOK s id) = true) : w0.heap.size ≤ b := by
  refine (hI.own id _ b c hH hl hι).1.resolve_left fun hSb => ?_
  rcases Bool.or_eq_true _ _ ▸ hc with hc | hc
  · exact hS hc b hSb
  · obtain ⟨v, hv, hb⟩ := hSp b hSb
    obtain ⟨i, hi, rfl⟩ := List.getElem_of_mem hv
    have hx := hp i (by omega) hi
    have hk := List.all_eq_true.1 hc _ (List.getElem_mem (by omega : i < s.p.length))
    have live : ∀ {id' : Nat}, liveIn s.H id' = true → ∃ r', s.H id' = some r' ∧ r'.live = true := by
      intro id' h
      unfold liveIn at h
      split at h
      · simp at h
      · rename_i r' hne hr
        exact ⟨r', hr, by cases r' <;> first | rfl | exact (hne rfl).elim⟩
      · simp at h
    generalize s.p[i]'(by omega) = x at hx hk
    generalize pv[i] = v at hx hb
    split at hk
    · rename_i id'
      simp only [Bool.and_eq_true, bne_iff_ne, ne_eq] at hk
      obtain ⟨r', h1, h2⟩ := live hk.2
      cases hx with
      | ptr _ hq =>
      obtain ⟨b', c', q1, rfl⟩ := hq _ h1 h2
      simp [pvBlk] at hb
      subst hb
      exact hk.1 (hI.inj id' id r' r _ c' c h1 hH h2 hl q1 hι)
    · rename_i id' sz
      simp only [Bool.and_eq_true, bne_iff_ne, ne_eq] at hk
      obtain ⟨r', h1, h2⟩ := live hk.2
      cases hx with
      | @all _ _ a len cap hid hs hc hq =>
      obtain ⟨_, hq⟩ := hq _ h1 h2
      rcases hq with ⟨_, z⟩ | ⟨b', c', q1, rfl, _⟩
      · cases a <;> simp [pvBlk, z] at hb
      · simp only [pvBlk] at hb
        split at hb <;> simp at hb
        subst hb
        exact hk.1 (hI.inj id' id r' r _ c' c h1 hH h2 hl q1 hι)
    · simp at hk

theorem Marks.sub {w : World} {N N' : Nat → Prop} {H H' : Heap} {ι ι' : Place} {d : List AV} {ds : List Deferred} (h : Marks P w N H ι d ds) (hf : Fwd N ι H w N' ι' H' w) : Marks P w N' H' ι' d ds := h.fwd hf

/-- A row that becomes data. -/
theorem row_frz {s : St} {w : World} {N : Nat → Prop} {ι : Place} {np : Bool} {id : Nat} {k : IntKind} {xs : List Int} (hI : Inv P w0 S N0 s.H w N ι) (hSp : ∀ b, S b → ∃ v ∈ pv, pvBlk v = some b) (hS : np = true → ∀ b, ¬ S b)
    (hpl : s.p.length = pv.length) (hp : ∀ i (hi : i < s.p.length) (hv : i < pv.length), RepA P w N s.H ι s.p[i] pv[i]) (hH : s.H id = some (.ints k xs)) (hc : (np || pinsOK s id) = true) :
    ∃ N', Inv P w0 S N0 (s.H.set id .dead) w N' ι ∧ Fwd N ι s.H w N' ι (s.H.set id .dead) w ∧ (∀ {sz : Nat} {v : Value}, RepA P w N s.H ι (.all id sz) v → RepD P w N' (.ints k xs) v) := by
  have hrow := hI.rows id _ hH
  rcases hrow with ⟨h1, rfl⟩ | ⟨b, c, arr, e, h1, h2, h3, h4, h5⟩
  · obtain ⟨k1, k2⟩ := hI.kill hH (N' := N) (fun _ h => h) (fun x hx => .inl hx)
    refine ⟨N, k1, k2, fun {sz v} hx => ?_⟩
    cases hx with
    | @all _ _ aa len cap hid hs' hcp hq =>
    obtain ⟨hdim, hq⟩ := hq _ hH rfl
    obtain rfl : len = 0 := by simpa [Row.dim, Row.len] using (congrArg Prod.snd hdim).symm
    exact .ints0 _ _ _
  · have hnew : w0.heap.size ≤ b := pins_new hI hSp hpl hp hS hH rfl h1 hc
    obtain ⟨k1, k2⟩ := hI.kill hH (N' := fun x => N x ∨ x = b) (fun _ h => .inl h) (fun x hx => hx.imp (fun h => h) fun e => by subst e; exact ⟨hnew, rfl, c, h1⟩)
    refine ⟨_, k1, k2, fun {sz v} hx => ?_⟩
    cases hx with
    | @all _ _ aa len cap hid hs' hcp hq =>
    obtain ⟨hdim, hq⟩ := hq _ hH rfl
    obtain rfl : len = xs.length := (congrArg Prod.snd hdim).symm
    rcases hq with ⟨h0, _⟩ | ⟨b', c', q1, rfl, q3, q4⟩
    · obtain rfl : xs = [] := List.eq_nil_of_length_eq_zero h0
      exact .ints0 _ _ _
    · rw [h1] at q1
      cases q1
      exact .ints _ _ _ _ _ (.inr rfl) q4 fun i hi => by rw [cell_of_blk h2]; simpa using h5 i hi

theorem subQ_rep {w : World} {N N' : Nat → Prop} {H : Heap} {ι : Place} {id sz : Nat} {xs : List D} {x : AV} {v : Value} (hb : ∀ {s : Nat} {v : Value}, RepA P w N H ι (.all id s) v → RepD P w N' (.seq sz xs) v)
    (hf : Fwd N ι H w N' ι (H.set id .dead) w) (h : RepA P w N H ι x v) : RepA P w N' (H.set id .dead) ι (subQ id sz xs x) v := by
  unfold subQ
  split
  · rename_i id' s
    split
    · rename_i he
      subst he
      exact .imm (hb h)
    · exact h.fwd hf
  · exact h.fwd hf

theorem ds_frz {s : St} {w : World} {N : Nat → Prop} {ι : Place} {np : Bool} {id z : Nat} {xs : List D} (hI : Inv P w0 S N0 s.H w N ι) (hSp : ∀ b, S b → ∃ v ∈ pv, pvBlk v = some b) (hS : np = true → ∀ b, ¬ S b)
    (hpl : s.p.length = pv.length) (hp : ∀ i (hi : i < s.p.length) (hv : i < pv.length), RepA P w N s.H ι s.p[i] pv[i]) (hH : s.H id = some (.ds z xs)) (hc : (np || pinsOK s id) = true) :
    ∃ N', Inv P w0 S N0 (s.H.set id .dead) w N' ι ∧ Fwd N ι s.H w N' ι (s.H.set id .dead) w ∧ (∀ {sz : Nat} {v : Value}, RepA P w N s.H ι (.all id sz) v → RepD P w N' (.seq z xs) v) := by
  obtain ⟨hs, hrow⟩ := hI.rows id _ hH
  rcases hrow with ⟨h1, rfl⟩ | ⟨b, c, arr, e, h1, h2, h3, h4, f, h5⟩
  · obtain ⟨k1, k2⟩ := hI.kill hH (N' := N) (fun _ h => h) (fun x hx => .inl hx)
    refine ⟨N, k1, k2, fun {sz v} hx => ?_⟩
    cases hx with
    | @all _ _ aa len cap hid hs' hcp hq =>
    obtain ⟨hdim, hq⟩ := hq _ hH rfl
    obtain rfl : len = 0 := by simpa [Row.dim, Row.len] using (congrArg Prod.snd hdim).symm
    exact .seq0 _ _ _
  · have hnew : w0.heap.size ≤ b := pins_new hI hSp hpl hp hS hH rfl h1 hc
    obtain ⟨k1, k2⟩ := hI.kill hH (N' := fun x => N x ∨ x = b) (fun _ h => .inl h) (fun x hx => hx.imp (fun h => h) fun e => by subst e; exact ⟨hnew, rfl, c, h1⟩)
    refine ⟨_, k1, k2, fun {sz v} hx => ?_⟩
    cases hx with
    | @all _ _ aa len cap hid hs' hcp hq =>
    obtain ⟨hdim, hq⟩ := hq _ hH rfl
    obtain rfl : len = xs.length := (congrArg Prod.snd hdim).symm
    rcases hq with ⟨h0, _⟩ | ⟨b', c', q1, rfl, q3, q4⟩
    · obtain rfl : xs = [] := List.eq_nil_of_length_eq_zero h0
      exact .seq0 _ _ _
    · rw [h1] at q1
      cases q1
      exact .seq _ _ _ _ _ f (.inr rfl) q4 hs (fun i hi => by rw [cell_of_blk h2]; simpa using (h5 i hi).1) fun i hi => (h5 i hi).2.mono (fun _ h => .inl h) fun _ _ _ => rfl

theorem freeze1_rel {s : St} {a : Act} {w : World} {d : Nat} {np : Bool} (hSp : ∀ b, S b → ∃ v ∈ pv, pvBlk v = some b) (hS : np = true → ∀ b, ¬ S b) (h : Rel P w0 S N0 pv s a w) : Rel P w0 S N0 pv (freeze1 np d s) a w := by
  unfold freeze1
  split
  case h_3 => exact h
  · rename_i id hd
    split
    case h_2 => exact h
    rename_i cs hH
    split
    case h_2 =>
      split
      case h_2 => exact h
      rename_i id' k xs hf
      split
      case isFalse => exact h
      rename_i hc
      obtain ⟨N, ι, hI, hdf, hs, ht, hpl, hp⟩ := h
      obtain ⟨x, hx, hrx⟩ := List.exists_of_findSome?_eq_some hf
      have hH' : s.H id' = some (.ints k xs) := by
        unfold rowIn at hrx
        split at hrx
        · split at hrx
          · rename_i h1
            simp only [Option.some.injEq, Prod.mk.injEq] at hrx
            obtain ⟨rfl, rfl, rfl⟩ := hrx
            exact h1
          · cases hrx
        · cases hrx
      have hne : id ≠ id' := by rintro rfl; rw [hH] at hH'; cases hH'
      obtain ⟨N', k1, k2, hb⟩ := row_frz hI hSp hS hpl hp hH' hc
      obtain ⟨b, c, arr, e, h1, h2, h3, h4, f, h5⟩ := hI.rows id _ hH
      have hH1 : (s.H.set id' .dead) id = some (.box cs) := by simp [Heap.set, hne, hH]
      obtain ⟨m1, m2⟩ := k1.upd (r' := .box (cs.map (subR id' k xs))) hH1 rfl h1 (by simp [Row.dim, Row.sz, Row.len]) rfl rfl rfl rfl (fun _ _ => rfl) ⟨arr, e, arr, e, h2, h2, rfl⟩
        (fun hf2 => ⟨b, c, arr, e, h1, h2, h3, by simpa using h4, f, fun i hi => by
          simp only [List.length_map] at hi
          refine ⟨(h5 i hi).1, ?_⟩
          simp only [List.getElem_map]
          exact (subR_rep hb k2 (h5 i hi).2).fwd hf2⟩)
      refine ⟨N', ι, m1, (hdf.fwd k2).fwd m2, by simpa using hs, fun i hi => ?_, by simpa using hpl, fun i hi hv => ?_⟩
      · simp only [List.length_map] at hi
        simp only [List.getElem_map]
        exact (subR_rep hb k2 (ht i hi)).fwd m2
      · simp only [List.length_map] at hi
        simp only [List.getElem_map]
        exact (subR_rep hb k2 (hp i hi hv)).fwd m2
    rename_i ds hm
    split
    case isFalse => exact h
    rename_i hc
    obtain ⟨N, ι, hI, hdf, hs, ht, hpl, hp⟩ := h
    obtain ⟨b, c, arr, e, h1, h2, h3, h4, f, h5⟩ := hI.rows id _ hH
    obtain ⟨m1, m2⟩ := mapM_some hm
    have hnew : w0.heap.size ≤ b := pins_new hI hSp hpl hp hS hH rfl h1 hc
    obtain ⟨k1, k2⟩ := hI.kill hH (N' := fun x => N x ∨ x = b) (fun _ h => .inl h) (fun x hx => hx.imp (fun h => h) fun e => by subst e; exact ⟨hnew, rfl, c, h1⟩)
    have hb : RepD P w (fun x => N x ∨ x = b) (.pbox ds) (.pointer (some ⟨b, 0, none⟩)) := .pbox ds b f (.inr rfl) (fun i hi => by rw [cell_of_blk h2]; exact (h5 i (by omega)).1) fun i hi => by
      have e1 := m2 i (by omega) hi
      have e2 := (h5 i (by omega)).2
      rw [unImm_spec e1] at e2
      cases e2 with
      | imm h => exact h.mono (fun _ h => .inl h) fun _ _ _ => rfl
    refine ⟨_, ι, k1, hdf.fwd k2, by simpa using hs, fun i hi => ?_, by simpa using hpl, fun i hi hv => ?_⟩
    · simp only [List.length_map] at hi
      simp only [List.getElem_map]
      exact subP_rep hb ⟨cs, hH⟩ h1 k2 (ht i hi)
    · simp only [List.length_map] at hi
      simp only [List.getElem_map]
      exact subP_rep hb ⟨cs, hH⟩ h1 k2 (hp i hi hv)
  · rename_i id sz hd
    split
    case h_3 => exact h
    · rename_i k xs hH
      split
      case isFalse => exact h
      rename_i hc
      obtain ⟨N, ι, hI, hdf, hs, ht, hpl, hp⟩ := h
      obtain ⟨N', k1, k2, hb⟩ := row_frz hI hSp hS hpl hp hH hc
      refine ⟨N', ι, k1, hdf.fwd k2, by simpa using hs, fun i hi => ?_, by simpa using hpl, fun i hi hv => ?_⟩
      · simp only [List.length_map] at hi
        simp only [List.getElem_map]
        exact subR_rep hb k2 (ht i hi)
      · simp only [List.length_map] at hi
        simp only [List.getElem_map]
        exact subR_rep hb k2 (hp i hi hv)
    · rename_i z xs hH
      split
      case isFalse => exact h
      rename_i hc
      obtain ⟨N, ι, hI, hdf, hs, ht, hpl, hp⟩ := h
      obtain ⟨N', k1, k2, hb⟩ := ds_frz hI hSp hS hpl hp hH hc
      refine ⟨N', ι, k1, hdf.fwd k2, by simpa using hs, fun i hi => ?_, by simpa using hpl, fun i hi hv => ?_⟩
      · simp only [List.length_map] at hi
        simp only [List.getElem_map]
        exact subQ_rep hb k2 (ht i hi)
      · simp only [List.length_map] at hi
        simp only [List.getElem_map]
        exact subQ_rep hb k2 (hp i hi hv)

theorem freeze_rel {s : St} {a : Act} {w : World} {np : Bool} (ds : List Nat) (hSp : ∀ b, S b → ∃ v ∈ pv, pvBlk v = some b) (hS : np = true → ∀ b, ¬ S b) (h : Rel P w0 S N0 pv s a w) : Rel P w0 S N0 pv (freeze np ds s) a w := by
  unfold freeze
  induction ds generalizing s with
  | nil => exact h
  | cons d ds ih => exact ih (freeze1_rel hSp hS h)
end
end Go.Ab
