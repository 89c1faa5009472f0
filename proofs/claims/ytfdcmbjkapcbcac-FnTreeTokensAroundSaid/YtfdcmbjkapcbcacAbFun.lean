/-
  AN ABSTRACT LAYER, 20: a function, whole: from its arguments to what it hands back.
-/
import Derived.Test.YtfdcmbjkapcbcacAbRun3
namespace Go.Ab
variable {P : Program}

def pinBase : Nat := 2000000000

def rowsIn : List (IntKind × List Int) → Nat → List AV × List (Nat × Row)
  | [], _ => ([], [])
  | c :: cs, n => let r := rowsIn cs (n + 1); (.all n 1 :: r.1, (n, .ints c.1 c.2) :: r.2)

/-- The arguments as a function finds them: abstract values, the rows of the variables, the pointers to them. -/
def argsIn : List XA → Nat → List AV × List (Nat × Row) × List AV
  | [], _ => ([], [], [])
  | .d d :: xs, n => let r := argsIn xs n; (.imm d :: r.1, r.2)
  | .box cs :: xs, n => let r := argsIn xs (n + 1); (.ptr n 0 0 :: r.1, (n, .box (cs.map AV.imm)) :: r.2.1, .ptr n 0 0 :: r.2.2)
  | .rows true [c] :: xs, n => let r := argsIn xs (n + 1); (.all n 1 :: r.1, (n, .ints c.1 c.2) :: r.2.1, .all n 1 :: r.2.2)
  | .rows _ cs :: xs, n => let r := argsIn xs (n + cs.length); (.agg (rowsIn cs n).1 :: r.1, (rowsIn cs n).2 ++ r.2.1, (rowsIn cs n).1 ++ r.2.2)

def startS (ntmps : Nat) (xs : List XA) : St :=
  let r := argsIn xs pinBase
  ⟨r.1 ++ List.replicate (ntmps - r.1.length) .undef, hOf r.2.1, r.2.2, []⟩

/-- A cell that is handed back; the row whose memory it is. -/
def outCell (P : Program) (H : Heap) (ty : TypeId) (x : AV) : Option (Cell × List Nat) :=
  match x with
  | .imm .nils => (elemT P ty).bind fun e => match kindT P e with
    | some k => some ((.ints k [], true), [])
    | none => (sizeT P e).map fun s => ((.seq s [], true), [])
  | .imm d => some ((d, false), [])
  | .all id s => match H id with
    | some (.ints k xs) => some ((.ints k xs, true), [id])
    | some (.ds s' xs) => if s' = s then some ((.seq s xs, true), [id]) else none
    | _ => none
  | _ => none

def outCells (P : Program) (H : Heap) : List TypeId → List AV → Option (List Cell × List Nat)
  | _, [] => some ([], [])
  | tys, x :: xs => (outCell P H (tys.headD 0) x).bind fun (c, i) => (outCells P H tys.tail xs).map fun (cs, is) => (c :: cs, i ++ is)

def outRes (P : Program) (H : Heap) (ty : TypeId) (x : AV) : Option (XR × List Nat) :=
  match x with
  | .agg cs => (outCells P H (cellTys P 4 ty) cs).map fun (cs, is) => (.agg cs, is)
  | .imm (.agg ds) => (outCells P H (cellTys P 4 ty) (ds.map AV.imm)).map fun (cs, is) => (.agg cs, is)
  | .ptr id 0 0 => match H id, P.underlying ty with
    | some (.box cs), some (.pointer e) => (outCells P H (cellTys P 4 e) cs).map fun (cs, is) => (.box cs, id :: is)
    | _, _ => none
  | x => (outCell P H ty x).map fun (c, i) => (.one c, i)

def outAll (P : Program) (H : Heap) : List TypeId → List AV → Option (List XR × List Nat)
  | [], [] => some ([], [])
  | ty :: tys, x :: xs => (outRes P H ty x).bind fun (r, i) => (outAll P H tys xs).map fun (rs, is) => (r :: rs, i ++ is)
  | _, _ => none

def pinOut (H : Heap) : AV → Option (Nat × List D)
  | .ptr id 0 0 => match H id with
    | some (.box cs) => (cs.mapM unImm).map fun ds => (id, ds)
    | _ => none
  | .all id _ => match H id with
    | some (.ints k xs) => some (id, [.ints k xs])
    | _ => none
  | _ => none

/-- What a function hands back. -/
def retH (P : Program) (fn : Func) (s : St) : Option (List XR × List (List D)) :=
  (fn.results.toList.mapM (resAV P s)).bind fun vs => (outAll P s.H fn.resultTypes.toList vs).bind fun (rs, ids) => (s.p.mapM (pinOut s.H)).bind fun ps =>
    if (ids ++ ps.map (·.1)).Nodup then some (rs, ps.map (·.2)) else none

def retI (P : Program) (fn : Func) (s : St) : Option (List XR × List (List D)) := (leaveD s.d s.H).bind fun H => retH P fn ⟨s.t, H, s.p, []⟩

def endK (P : Program) (fn : Func) : Ex → St → Option (List XR × List (List D))
  | .normal, s => retI P fn s
  | .ret, s => retI P fn s
  | .exit _, _ => none

/-- The run of a function. -/
def XA.isD : XA → Bool
  | .d _ => true
  | _ => false

def runF (P : Program) (X : List Entry) (I : List Inl) (d fuel : Nat) (f : FuncId) (fn : Func) (xs : List XA) : Option (List XR × List (List D)) :=
  match fn.body with
  | some c => codeN P X I fuel (xs.all XA.isD) d false f c (startS fn.ntmps xs) (endK P fn)
  | none => none

section
variable {P : Program} {w0 w : World} {S N0 N : Nat → Prop} {H : Heap} {ι : Place}

/-- The blocks of rows. -/
def blocks (ι : Place) (ids : List Nat) : List Nat := ids.filterMap fun id => (ι id).map (·.1)

theorem outCell_sound {ty : TypeId} {x : AV} {v : Value} {c : Cell} {ids : List Nat} {base : Nat} (hI : Inv P w0 S N0 H w N ι) (h : outCell P H ty x = some (c, ids)) (hx : RepA P w N H ι x v)
    (hbase : ∀ id r b c, H id = some r → r.live = true → ι id = some (b, c) → id ∈ ids → base ≤ b) :
    ∃ bs, CellsRep P w N base [c] [v] bs ∧ bs.Sublist (blocks ι ids) ∧ ∀ id ∈ ids, ∃ r, H id = some r ∧ r.live = true := by
  unfold outCell at h
  split at h
  · simp only [Option.bind_eq_some_iff] at h
    obtain ⟨e, h1, h2⟩ := h
    cases hx with
    | imm hx =>
    cases hx
    split at h2
    · rename_i k hk
      simp at h2
      obtain ⟨rfl, rfl⟩ := h2
      exact ⟨[], .none (.inl ⟨rfl, rfl, none, rfl⟩) .nil, List.nil_sublist _, by simp⟩
    · simp at h2
      obtain ⟨s, hs, rfl, rfl⟩ := h2
      exact ⟨[], .none ⟨by simp, .inl ⟨rfl, rfl, none, rfl⟩⟩ .nil, List.nil_sublist _, by simp⟩
  · simp at h
    obtain ⟨rfl, rfl⟩ := h
    cases hx with
    | imm hx => exact ⟨[], .none ⟨hx, rfl⟩ .nil, List.nil_sublist _, by simp⟩
  · rename_i id s
    split at h
    · rename_i k xs hH
      simp at h
      obtain ⟨rfl, rfl⟩ := h
      cases hx with
      | @all _ _ a len cap hid hs hc hp =>
      obtain ⟨hdim, hp⟩ := hp _ hH rfl
      obtain rfl : len = xs.length := (congrArg Prod.snd hdim).symm
      obtain rfl : s = 1 := (congrArg Prod.fst hdim).symm
      have hlive : ∀ i ∈ [id], ∃ r, H i = some r ∧ r.live = true := fun i hi => by
        simp at hi; subst hi; exact ⟨_, hH, rfl⟩
      rcases hp with ⟨h0, rfl⟩ | ⟨b, c, h1, rfl, h3, h4⟩
      · obtain rfl : xs = [] := List.eq_nil_of_length_eq_zero h0
        exact ⟨[], .none (.inl ⟨rfl, rfl, a, rfl⟩) .nil, List.nil_sublist _, hlive⟩
      · rcases hI.rows id _ hH with ⟨h5, _⟩ | ⟨b', c', arr, e, h5, h6, h7, h8, h9⟩
        · rw [h1] at h5; cases h5
        · rw [h1] at h5
          cases h5
          refine ⟨[b], .some (.inr ⟨b, arr, e, cap, rfl, hbase id _ b c hH rfl h1 (by simp), (hI.own id _ b c hH rfl h1).2, by simp, h6, by omega, h4, h9⟩) (by simp) .nil, ?_, hlive⟩
          simp [blocks, h1]
    · rename_i s' xs hH
      split at h <;> simp at h
      obtain ⟨rfl, rfl⟩ := h
      rename_i hss
      subst hss
      cases hx with
      | @all _ _ a len cap hid hs hc hp =>
      obtain ⟨hdim, hp⟩ := hp _ hH rfl
      obtain rfl : len = xs.length := (congrArg Prod.snd hdim).symm
      have hlive : ∀ i ∈ [id], ∃ r, H i = some r ∧ r.live = true := fun i hi => by
        simp at hi; subst hi; exact ⟨_, hH, rfl⟩
      obtain ⟨hel, hrow⟩ := hI.rows id _ hH
      rcases hp with ⟨h0, rfl⟩ | ⟨b, c, h1, rfl, h3, h4⟩
      · obtain rfl : xs = [] := List.eq_nil_of_length_eq_zero h0
        exact ⟨[], .none ⟨by simp, .inl ⟨rfl, rfl, a, rfl⟩⟩ .nil, List.nil_sublist _, hlive⟩
      · rcases hrow with ⟨h5, _⟩ | ⟨b', c', arr, e, h5, h6, h7, h8, f, h9⟩
        · rw [h1] at h5; cases h5
        · rw [h1] at h5
          cases h5
          refine ⟨[b], .some ⟨hel, .inr ⟨b, arr, e, cap, rfl, hbase id _ b c hH rfl h1 (by simp), (hI.own id _ b c hH rfl h1).2, by simp, h6, by simpa [h7] using h3, h4, f, h9⟩⟩ (by simp) .nil, ?_, hlive⟩
          simp [blocks, h1]
    · simp at h
  · simp at h

theorem cells_join {base : Nat} {cs cs' : List Cell} {us us' : List Value} {bs bs' : List Nat} (h : CellsRep P w N base cs us bs) (g : CellsRep P w N base cs' us' bs') (hd : ∀ b ∈ bs, b ∉ bs') : CellsRep P w N base (cs ++ cs') (us ++ us') (bs ++ bs') := by
  induction h with
  | nil => exact g
  | none h _ ih => exact .none h (ih hd)
  | @some c v b cs us bs h hb _ ih =>
    exact .some h (fun hm => (List.mem_append.1 hm).elim hb (hd b (by simp))) (ih fun b hm => hd b (by simp [hm]))

theorem blocks_append (ι : Place) (a b : List Nat) : blocks ι (a ++ b) = blocks ι a ++ blocks ι b := by simp [blocks]

/-- Different rows lie in different blocks. -/
theorem blocks_apart (hI : Inv P w0 S N0 H w N ι) {a b : List Nat} (ha : ∀ id ∈ a, ∃ r, H id = some r ∧ r.live = true) (hb : ∀ id ∈ b, ∃ r, H id = some r ∧ r.live = true) (hd : ∀ id ∈ a, id ∉ b) : ∀ x ∈ blocks ι a, x ∉ blocks ι b := by
  intro x hx hx'
  simp only [blocks, List.mem_filterMap, Option.map_eq_some_iff] at hx hx'
  obtain ⟨i, hi, ⟨_, c⟩, h1, rfl⟩ := hx
  obtain ⟨j, hj, ⟨_, c'⟩, h2, h3⟩ := hx'
  simp only at h3
  subst h3
  obtain ⟨r, r1, r2⟩ := ha i hi
  obtain ⟨r', r1', r2'⟩ := hb j hj
  have := hI.inj i j r r' _ c c' r1 r1' r2 r2' h1 h2
  subst this
  exact hd i hi hj

theorem outCells_sound {base : Nat} (hI : Inv P w0 S N0 H w N ι) : ∀ (xs : List AV) (us : List Value) (tys : List TypeId) (cs : List Cell) (ids : List Nat), outCells P H tys xs = some (cs, ids) → xs.length = us.length →
    (∀ i (hi : i < xs.length) (hu : i < us.length), RepA P w N H ι xs[i] us[i]) → ids.Nodup → (∀ id r b c, H id = some r → r.live = true → ι id = some (b, c) → id ∈ ids → base ≤ b) →
    ∃ bs, CellsRep P w N base cs us bs ∧ bs.Sublist (blocks ι ids) ∧ ∀ id ∈ ids, ∃ r, H id = some r ∧ r.live = true
  | [], us, tys, cs, ids, h, hl, _, _, _ => by
    have : us = [] := List.eq_nil_of_length_eq_zero hl.symm
    subst this
    simp [outCells] at h
    obtain ⟨rfl, rfl⟩ := h
    exact ⟨[], .nil, by simp [blocks], by simp⟩
  | x :: xs, us, tys, cs, ids, h, hl, hr, hnd, hbase => by
    obtain ⟨u, us, rfl⟩ : ∃ u us', us = u :: us' := by cases us with | nil => simp at hl | cons u us => exact ⟨u, us, rfl⟩
    obtain ⟨ty, tys', c, i, cs', is, h1, h2, rfl, rfl⟩ : ∃ ty tys' c i cs' is, outCell P H ty x = some (c, i) ∧ outCells P H tys' xs = some (cs', is) ∧ cs = c :: cs' ∧ ids = i ++ is := by
      simp only [outCells, Option.bind_eq_some_iff, Option.map_eq_some_iff, Prod.mk.injEq] at h
      obtain ⟨⟨c, i⟩, h1, ⟨cs', is⟩, h2, rfl, rfl⟩ := h
      exact ⟨_, _, c, i, cs', is, h1, h2, rfl, rfl⟩
    obtain ⟨n1, n2, n3⟩ := List.nodup_append.1 hnd
    obtain ⟨bs, g1, g2, g3⟩ := outCell_sound (base := base) hI h1 (hr 0 (by simp) (by simp)) fun id r b c a1 a2 a3 a4 => hbase id r b c a1 a2 a3 (by simp [a4])
    obtain ⟨bs', g4, g5, g6⟩ := outCells_sound hI xs us tys' cs' is h2 (by simpa using hl) (fun i hi hu => hr (i + 1) (Nat.succ_lt_succ hi) (Nat.succ_lt_succ hu)) n2 fun id r b c a1 a2 a3 a4 => hbase id r b c a1 a2 a3 (by simp [a4])
    have hap := blocks_apart hI g3 g6 (fun id hid hid' => n3 id hid id hid' rfl)
    refine ⟨bs ++ bs', cells_join g1 g4 fun b hb hb' => hap b (g2.subset hb) (g5.subset hb'), by rw [blocks_append]; exact g2.append g5, fun id hid => ?_⟩
    rcases List.mem_append.1 hid with h | h
    · exact g3 id h
    · exact g6 id h

theorem outRes_sound {base : Nat} {ty : TypeId} {x : AV} {v : Value} {r : XR} {ids : List Nat} (hI : Inv P w0 S N0 H w N ι) (h : outRes P H ty x = some (r, ids)) (hx : RepA P w N H ι x v) (hnd : ids.Nodup)
    (hbase : ∀ id r b c, H id = some r → r.live = true → ι id = some (b, c) → id ∈ ids → base ≤ b) :
    (∃ bs, bs.Sublist (blocks ι ids) ∧ ∀ {rs us bs'}, ResRep P w N base rs us bs' → (∀ b ∈ bs, b ∉ bs') → ResRep P w N base (r :: rs) (v :: us) (bs ++ bs')) ∧ ∀ id ∈ ids, ∃ r, H id = some r ∧ r.live = true := by
  unfold outRes at h
  split at h
  · simp only [Option.map_eq_some_iff, Prod.mk.injEq] at h
    obtain ⟨⟨cs, is⟩, h, rfl, rfl⟩ := h
    cases hx with
    | @agg xs vs hl hr =>
    obtain ⟨bs, g1, g2, g3⟩ := outCells_sound (us := vs.toList) (base := base) hI _ _ _ _ h (by simpa using hl.symm) (fun i hi hu => by
      have := hr i hi
      simpa [show i < vs.size by simpa using hu] using this) hnd hbase
    exact ⟨⟨bs, g2, fun t hd => by have := ResRep.agg g1 hd t; simpa using this⟩, g3⟩
  · simp only [Option.map_eq_some_iff, Prod.mk.injEq] at h
    obtain ⟨⟨cs, is⟩, h, rfl, rfl⟩ := h
    cases hx with
    | imm hx =>
    cases hx with
    | agg ds vs hl hr =>
    obtain ⟨bs, g1, g2, g3⟩ := outCells_sound (us := vs.toList) (base := base) hI _ _ _ _ h (by simpa using hl.symm) (fun i hi hu => by
      simp at hi
      have := RepA.imm (H := H) (ι := ι) (hr i hi)
      simpa [show i < vs.size by simpa using hu] using this) hnd hbase
    exact ⟨⟨bs, g2, fun t hd => by have := ResRep.agg g1 hd t; simpa using this⟩, g3⟩
  · rename_i id
    split at h
    · rename_i cs e hH hu
      simp only [Option.map_eq_some_iff, Prod.mk.injEq] at h
      obtain ⟨⟨cs', is⟩, h, rfl, rfl⟩ := h
      obtain ⟨hni, hnd'⟩ := List.nodup_cons.1 hnd
      cases hx with
      | @ptr _ _ _ y hid hp =>
      obtain ⟨b, c, h1, rfl⟩ := hp _ hH rfl
      obtain ⟨b', c', arr, e', h2, h3, h4, h5, f, h6⟩ := hI.rows id _ hH
      rw [h1] at h2
      cases h2
      obtain ⟨bs, g1, g2, g3⟩ := outCells_sound (us := arr.toList) (base := base) hI _ _ _ _ h (by simp; omega) (fun i hi hu => by
        have := h6 i hi
        have e4 := (Array.getElem?_eq_some_iff.1 this.1).2
        simp only [Array.getElem_toList]
        rw [e4]
        exact this.2) hnd' fun id r b c a1 a2 a3 a4 => hbase id r b c a1 a2 a3 (by simp [a4])
      have hlive : ∀ i ∈ [id], ∃ r, H i = some r ∧ r.live = true := fun i hi => by
        simp at hi; subst hi; exact ⟨_, hH, rfl⟩
      have hap := blocks_apart hI hlive g3 (fun i hi hi' => by simp at hi; subst hi; exact hni hi')
      have hbb : b ∉ bs := fun hm => hap b (by simp [blocks, h1]) (g2.subset hm)
      refine ⟨⟨b :: bs, ?_, fun t hd => ?_⟩, fun i hi => ?_⟩
      · have : blocks ι (id :: is) = b :: blocks ι is := by simp [blocks, h1]
        rw [this]
        exact g2.cons_cons b
      · have := ResRep.box h3 (hbase id _ b c hH rfl h1 (by simp)) (hI.own id _ b c hH rfl h1).2 hbb (hd b (by simp)) g1 (fun x hx => hd x (by simp [hx])) t
        simpa using this
      · rcases List.mem_cons.1 hi with rfl | hi
        · exact ⟨_, hH, rfl⟩
        · exact g3 i hi
    · simp at h
  · simp only [Option.map_eq_some_iff, Prod.mk.injEq] at h
    obtain ⟨⟨c, i⟩, h, rfl, rfl⟩ := h
    obtain ⟨bs, g1, g2, g3⟩ := outCell_sound (base := base) hI h hx hbase
    exact ⟨⟨bs, g2, fun t hd => .one g1 hd t⟩, g3⟩

theorem outAll_sound {base : Nat} (hI : Inv P w0 S N0 H w N ι) : ∀ (xs : List AV) (us : List Value) (tys : List TypeId) (rs : List XR) (ids : List Nat), outAll P H tys xs = some (rs, ids) → xs.length = us.length →
    (∀ i (hi : i < xs.length) (hu : i < us.length), RepA P w N H ι xs[i] us[i]) → ids.Nodup → (∀ id r b c, H id = some r → r.live = true → ι id = some (b, c) → id ∈ ids → base ≤ b) →
    (∃ bs, ResRep P w N base rs us bs ∧ bs.Sublist (blocks ι ids)) ∧ (∀ id ∈ ids, ∃ r, H id = some r ∧ r.live = true) ∧ rs.length = us.length
  | [], us, tys, rs, ids, h, hl, _, _, _ => by
    have : us = [] := List.eq_nil_of_length_eq_zero hl.symm
    subst this
    cases tys <;> simp [outAll] at h
    obtain ⟨rfl, rfl⟩ := h
    exact ⟨⟨[], .nil, by simp [blocks]⟩, by simp, rfl⟩
  | x :: xs, us, tys, rs, ids, h, hl, hr, hnd, hbase => by
    obtain ⟨u, us, rfl⟩ : ∃ u us', us = u :: us' := by cases us with | nil => simp at hl | cons u us => exact ⟨u, us, rfl⟩
    cases tys with
    | nil => simp [outAll] at h
    | cons ty tys =>
    simp only [outAll, Option.bind_eq_some_iff, Option.map_eq_some_iff, Prod.mk.injEq] at h
    obtain ⟨⟨r, i⟩, h1, ⟨rs', is⟩, h2, rfl, rfl⟩ := h
    obtain ⟨n1, n2, n3⟩ := List.nodup_append.1 hnd
    obtain ⟨⟨bs, g1, g2⟩, g3⟩ := outRes_sound (base := base) hI h1 (hr 0 (by simp) (by simp)) n1 fun id r b c a1 a2 a3 a4 => hbase id r b c a1 a2 a3 (by simp [a4])
    obtain ⟨⟨bs', g4, g5⟩, g6, g7⟩ := outAll_sound hI xs us tys rs' is h2 (by simpa using hl) (fun i hi hu => hr (i + 1) (Nat.succ_lt_succ hi) (Nat.succ_lt_succ hu)) n2 fun id r b c a1 a2 a3 a4 => hbase id r b c a1 a2 a3 (by simp [a4])
    have hap := blocks_apart hI g3 g6 (fun id hid hid' => n3 id hid id hid' rfl)
    refine ⟨⟨bs ++ bs', g2 g4 fun b hb hb' => hap b (g1.subset hb) (g5.subset hb'), by rw [blocks_append]; exact g1.append g5⟩, fun id hid => ?_, by simp [g7]⟩
    rcases List.mem_append.1 hid with h | h
    · exact g3 id h
    · exact g6 id h

/-- What is behind a pointer or a slice by which a function may turn what its caller owns. -/
def PinOK (P : Program) (w : World) (N : Nat → Prop) (bs : List Nat) (id : Nat) (r : Row) (a : AV) (v : Value) : Prop :=
  (∃ (cs : List D) (arr : Array Value) (e : TypeId) (b : Nat), r = .box (cs.map AV.imm) ∧ a = .ptr id 0 0 ∧ v = ptrOf b ∧ w.heap[b]? = some (.cells arr e (0, 0)) ∧ arr.size = cs.length ∧
      (∀ j (hj : j < cs.length), RepD P w N cs[j] (arr.getD j undef)) ∧ ¬ N b ∧ b ∈ bs) ∨
  ∃ (k : IntKind) (xs : List Int), r = .ints k xs ∧ a = .all id 1 ∧ ∃ ob, CellRep P w N 0 (.ints k xs, true) v ob ∧ ∀ b, ob = some b → b ∈ bs

inductive PinsOK (P : Program) (w : World) (N : Nat → Prop) (bs : List Nat) : Nat → List (Nat × Row) → List AV → List Value → Prop where
  | nil {n} : PinsOK P w N bs n [] [] []
  | cons {n r a v rs as vs} (h : PinOK P w N bs n r a v) (t : PinsOK P w N bs (n + 1) rs as vs) : PinsOK P w N bs n ((n, r) :: rs) (a :: as) (v :: vs)

theorem PinOK.more {bs bs' : List Nat} {id : Nat} {r : Row} {a : AV} {v : Value} (h : PinOK P w N bs id r a v) (hs : ∀ b ∈ bs, b ∈ bs') : PinOK P w N bs' id r a v := by
  rcases h with ⟨cs, arr, e, b, h1, h2, h3, h4, h5, h6, h7, h8⟩ | ⟨k, xs, h1, h2, ob, h3, h4⟩
  · exact .inl ⟨cs, arr, e, b, h1, h2, h3, h4, h5, h6, h7, hs b h8⟩
  · exact .inr ⟨k, xs, h1, h2, ob, h3, fun b hb => hs b (h4 b hb)⟩

theorem PinsOK.more {bs bs' : List Nat} {n : Nat} {rs : List (Nat × Row)} {as : List AV} {vs : List Value} (h : PinsOK P w N bs n rs as vs) (hs : ∀ b ∈ bs, b ∈ bs') : PinsOK P w N bs' n rs as vs := by
  induction h with
  | nil => exact .nil
  | cons h _ ih => exact .cons (h.more hs) ih

theorem PinsOK.append {bs : List Nat} {n : Nat} {rs rs' : List (Nat × Row)} {as as' : List AV} {vs vs' : List Value} (h : PinsOK P w N bs n rs as vs) (g : PinsOK P w N bs (n + rs.length) rs' as' vs') : PinsOK P w N bs n (rs ++ rs') (as ++ as') (vs ++ vs') := by
  induction h with
  | nil => exact g
  | @cons n r a v rs as vs h _ ih => exact .cons h (ih (by rw [show n + 1 + rs.length = n + ((n, r) :: rs).length by simp; omega]; exact g))

theorem PinsOK.get {bs : List Nat} {n : Nat} {rs : List (Nat × Row)} {as : List AV} {vs : List Value} (h : PinsOK P w N bs n rs as vs) : as.length = rs.length ∧ vs.length = rs.length ∧
    ∀ i (h1 : i < rs.length) (h2 : i < as.length) (h3 : i < vs.length), rs[i].1 = n + i ∧ PinOK P w N bs (n + i) rs[i].2 as[i] vs[i] := by
  induction h with
  | nil => simp
  | @cons n r a v rs as vs h _ ih =>
    obtain ⟨i1, i2, i3⟩ := ih
    refine ⟨by simp [i1], by simp [i2], fun i h1 h2 h3 => ?_⟩
    cases i with
    | zero => exact ⟨rfl, h⟩
    | succ i =>
      have := i3 i (Nat.lt_of_succ_lt_succ h1) (Nat.lt_of_succ_lt_succ h2) (Nat.lt_of_succ_lt_succ h3)
      simp only [List.getElem_cons_succ]
      rw [show n + (i + 1) = n + 1 + i by omega]
      exact this

theorem cell_blk {bs : List Nat} {k : IntKind} {xs : List Int} {v : Value} {ob : Option Nat} (h : CellRep P w N 0 (.ints k xs, true) v ob) (hb : ∀ b, ob = some b → b ∈ bs) : ∀ b, pvBlk v = some b → b ∈ bs ∧ ob = some b := by
  intro b hv
  rcases h with ⟨_, _, a, rfl⟩ | ⟨b', arr, e, cap, rfl, _, _, rfl, _⟩
  · cases a <;> simp [pvBlk] at hv
  · simp only [pvBlk] at hv
    split at hv <;> simp at hv
    subst hv
    exact ⟨hb _ rfl, rfl⟩

theorem rowsIn_spec : ∀ (cs : List (IntKind × List Int)) (us : List Value) (bs : List Nat) (n : Nat), CellsRep P w N 0 (cs.map fun c => (.ints c.1 c.2, true)) us bs →
    PinsOK P w N bs n (rowsIn cs n).2 (rowsIn cs n).1 us ∧ (rowsIn cs n).2.length = cs.length ∧ (∀ v ∈ us, ∀ b, pvBlk v = some b → b ∈ bs) ∧ us.Pairwise (fun u v => ∀ b, pvBlk u = some b → pvBlk v ≠ some b)
  | [], us, bs, n, h => by
    cases h
    exact ⟨.nil, rfl, by simp, .nil⟩
  | c :: cs, us, bs, n, h => by
    simp only [List.map_cons] at h
    cases h with
    | @none _ v _ us _ h t =>
      obtain ⟨g1, g2, g3, g4⟩ := rowsIn_spec cs us bs (n + 1) t
      have hv : ∀ b, pvBlk v ≠ some b := fun b hb => by
        have := (cell_blk (bs := []) h (by simp) b hb).1
        simp at this
      refine ⟨.cons (.inr ⟨c.1, c.2, rfl, rfl, _, h, by simp⟩) g1, by simp [rowsIn, g2], fun x hx b hb => ?_, List.pairwise_cons.2 ⟨fun x _ b hb => absurd hb (hv b), g4⟩⟩
      rcases List.mem_cons.1 hx with rfl | hx
      · exact absurd hb (hv b)
      · exact g3 x hx b hb
    | @some _ v b0 _ us bs h hb t =>
      obtain ⟨g1, g2, g3, g4⟩ := rowsIn_spec cs us bs (n + 1) t
      have hv : ∀ b, pvBlk v = some b → b = b0 := fun b hb => by
        have := (cell_blk (bs := [b0]) h (by simp) b hb).1
        simpa using this
      refine ⟨.cons (.inr ⟨c.1, c.2, rfl, rfl, _, h, by simp⟩) (g1.more (fun _ hm => List.mem_cons_of_mem _ hm)), by simp [rowsIn, g2], fun x hx b hxb => ?_, List.pairwise_cons.2 ⟨fun x hx b hvb hxb => ?_, g4⟩⟩
      · rcases List.mem_cons.1 hx with rfl | hx
        · simp [hv b hxb]
        · simp [g3 x hx b hxb]
      · rw [hv b hvb] at hxb
        exact hb (g3 x hx b0 hxb)

theorem args_blk {xs : List XA} {vs : List Value} {bs : List Nat} {pv : List Value} (h : ArgsRep P w N xs vs bs pv) : ∀ b ∈ bs, ∃ v ∈ pv, pvBlk v = some b := by
  have two : ∀ {pv1 pv : List Value} {bs1 bs : List Nat}, (∀ b ∈ bs1, ∃ v ∈ pv1, pvBlk v = some b) → (∀ b ∈ bs, ∃ v ∈ pv, pvBlk v = some b) → ∀ b ∈ bs1 ++ bs, ∃ v ∈ pv1 ++ pv, pvBlk v = some b := by
    intro pv1 pv bs1 bs h1 h2 b hb
    rcases List.mem_append.1 hb with hb | hb
    · obtain ⟨v, hv, e⟩ := h1 b hb; exact ⟨v, List.mem_append.2 (.inl hv), e⟩
    · obtain ⟨v, hv, e⟩ := h2 b hb; exact ⟨v, List.mem_append.2 (.inr hv), e⟩
  induction h with
  | nil => simp
  | d _ _ ih => exact ih
  | @box cs xs vs bs pv b arr e h hl hr hN hb _ ih => exact two (pv1 := [ptrOf b]) (bs1 := [b]) (by simp [pvBlk, ptrOf]) ih
  | @row k ys v xs vs bs1 bs pv h hv hd _ ih => exact two (pv1 := [v]) (fun b hb => ⟨v, by simp, hv b hb⟩) ih
  | rows h hv hd _ ih => exact two hv ih

/-- Slots follow their pins. -/
theorem argsIn_spec : ∀ (xs : List XA) (vs : List Value) (bs : List Nat) (pv : List Value) (n : Nat), ArgsRep P w N xs vs bs pv →
    (argsIn xs n).1.length = vs.length ∧ PinsOK P w N bs n (argsIn xs n).2.1 (argsIn xs n).2.2 pv ∧ (∀ v ∈ pv, ∀ b, pvBlk v = some b → b ∈ bs) ∧ pv.Pairwise (fun u v => ∀ b, pvBlk u = some b → pvBlk v ≠ some b) ∧
    ∀ (H : Heap) (ι : Place), (∀ i (h1 : i < (argsIn xs n).2.2.length) (h2 : i < pv.length), RepA P w N H ι (argsIn xs n).2.2[i] pv[i]) → ∀ i (hi : i < (argsIn xs n).1.length) (hv : i < vs.length), RepA P w N H ι (argsIn xs n).1[i] vs[i] := by
  intro xs vs bs pv n h
  have tail : ∀ {pv1 pv : List Value} {bs1 bs : List Nat}, (∀ v ∈ pv1, ∀ b, pvBlk v = some b → b ∈ bs1) → (∀ v ∈ pv, ∀ b, pvBlk v = some b → b ∈ bs) → (∀ b ∈ bs1, b ∉ bs) → pv1.Pairwise (fun u v => ∀ b, pvBlk u = some b → pvBlk v ≠ some b) → pv.Pairwise (fun u v => ∀ b, pvBlk u = some b → pvBlk v ≠ some b) →
      (∀ v ∈ pv1 ++ pv, ∀ b, pvBlk v = some b → b ∈ bs1 ++ bs) ∧ (pv1 ++ pv).Pairwise (fun u v => ∀ b, pvBlk u = some b → pvBlk v ≠ some b) := by
    intro pv1 pv bs1 bs h1 h2 hd p1 p2
    refine ⟨fun v hv b hb => ?_, List.pairwise_append.2 ⟨p1, p2, fun u hu v hv b hb hb' => hd b (h1 u hu b hb) (h2 v hv b hb')⟩⟩
    rcases List.mem_append.1 hv with hv | hv
    · exact List.mem_append.2 (.inl (h1 v hv b hb))
    · exact List.mem_append.2 (.inr (h2 v hv b hb))
  induction h generalizing n with
  | nil => exact ⟨rfl, .nil, by simp, .nil, by simp [argsIn]⟩
  | @d d v xs vs bs pv h _ ih =>
    obtain ⟨g1, g2, g3, g4, g5⟩ := ih n
    refine ⟨by simp [argsIn, g1], g2, g3, g4, fun H ι hp i hi hv => ?_⟩
    cases i with
    | zero => exact .imm h
    | succ i => exact g5 H ι hp i (by simpa [argsIn] using hi) (by simpa using hv)
  | @box cs xs vs bs pv b arr e h hl hr hN hb _ ih =>
    obtain ⟨g1, g2, g3, g4, g5⟩ := ih (n + 1)
    obtain ⟨t1, t2⟩ := tail (pv1 := [ptrOf b]) (bs1 := [b]) (by simp [pvBlk, ptrOf]) g3 (by simp [hb]) (by simp) g4
    refine ⟨by simp [argsIn, g1], .cons (.inl ⟨cs, arr, e, b, rfl, rfl, rfl, h, hl, hr, hN, by simp⟩) (g2.more (fun _ hm => List.mem_cons_of_mem _ hm)), t1, t2, fun H ι hp i hi hv => ?_⟩
    cases i with
    | zero => exact hp 0 (by simp [argsIn]) (by simp)
    | succ i => exact g5 H ι (fun j h1 h2 => hp (j + 1) (by simpa [argsIn] using h1) (by simpa using h2)) i (by simpa [argsIn] using hi) (by simpa using hv)
  | @row k ys v xs vs bs1 bs pv h _ hd _ ih =>
    obtain ⟨g1, g2, g3, g4, g5⟩ := ih (n + 1)
    obtain ⟨q1, q2, q3, q4⟩ := rowsIn_spec [(k, ys)] [v] bs1 n h
    obtain ⟨t1, t2⟩ := tail q3 g3 hd q4 g4
    refine ⟨by simp [argsIn, g1], (q1.more fun _ hm => List.mem_append.2 (.inl hm)).append (g2.more fun _ hm => List.mem_append.2 (.inr hm)), t1, t2, fun H ι hp i hi hv => ?_⟩
    cases i with
    | zero => exact hp 0 (by simp [argsIn]) (by simp)
    | succ i => exact g5 H ι (fun j h1 h2 => hp (j + 1) (by simpa [argsIn] using h1) (by simpa using h2)) i (by simpa [argsIn] using hi) (by simpa using hv)
  | @rows cs us xs vs bs1 bs pv h _ hd _ ih =>
    obtain ⟨g1, g2, g3, g4, g5⟩ := ih (n + cs.length)
    obtain ⟨q1, q2, q3, q4⟩ := rowsIn_spec cs us bs1 n h
    obtain ⟨q5, q6, _⟩ := q1.get
    obtain ⟨t1, t2⟩ := tail q3 g3 hd q4 g4
    have e : argsIn (.rows false cs :: xs) n = (.agg (rowsIn cs n).1 :: (argsIn xs (n + cs.length)).1, (rowsIn cs n).2 ++ (argsIn xs (n + cs.length)).2.1, (rowsIn cs n).1 ++ (argsIn xs (n + cs.length)).2.2) := by
      simp only [argsIn]
    simp only [e]
    refine ⟨by simp [g1], (q1.more fun _ hm => List.mem_append.2 (.inl hm)).append (by rw [q2]; exact g2.more fun _ hm => List.mem_append.2 (.inr hm)), t1, t2, fun H ι hp i hi hv => ?_⟩
    cases i with
    | zero =>
      refine .agg (by simp; omega) fun j hj => ?_
      have := hp j (by simp; omega) (by simp; omega)
      rw [List.getElem_append_left hj, List.getElem_append_left (by omega)] at this
      have e2 : us.toArray.getD j undef = us[j]'(by omega) := by
        rw [Array.getD_eq_getD_getElem?, List.getElem?_toArray, List.getElem?_eq_getElem (by omega)]
        rfl
      rw [e2]
      exact this
    | succ i =>
      refine g5 H ι (fun j h1 h2 => ?_) i (by simpa using hi) (by simpa using hv)
      have := hp ((rowsIn cs n).1.length + j) (by simp; omega) (by simp; omega)
      rw [List.getElem_append_right (by omega), List.getElem_append_right (by omega)] at this
      simp only [Nat.add_sub_cancel_left] at this
      simp only [show (rowsIn cs n).1.length + j - us.length = j by omega] at this
      exact this

theorem hOf_keys : ∀ (l : List (Nat × Row)) (n : Nat), (∀ i (hi : i < l.length), l[i].1 = n + i) → ∀ x r, hOf l x = some r ↔ ∃ i, ∃ hi : i < l.length, x = n + i ∧ r = l[i].2
  | [], n, _, x, r => by simp [hOf]
  | (k, r0) :: l, n, h, x, r => by
    have hk : k = n := h 0 (by simp)
    subst hk
    have ih := hOf_keys l (k + 1) (fun i hi => by have := h (i + 1) (by simpa using hi); simp at this; omega) x r
    by_cases hx : k = x
    · subst hx
      have : hOf ((k, r0) :: l) k = some r0 := by simp [hOf]
      rw [this]
      constructor
      · intro e; exact ⟨0, by simp, rfl, by simpa using e.symm⟩
      · rintro ⟨i, hi, e1, e2⟩
        obtain rfl : i = 0 := by omega
        simp [e2]
    · have : hOf ((k, r0) :: l) x = hOf l x := by simp [hOf, hx]
      rw [this, ih]
      constructor
      · rintro ⟨i, hi, e1, e2⟩; exact ⟨i + 1, by simpa using hi, by omega, by simpa using e2⟩
      · rintro ⟨i, hi, e1, e2⟩
        cases i with
        | zero => omega
        | succ i => exact ⟨i, by simpa using hi, by omega, by simpa using e2⟩

def blkSize (w : World) (b : Nat) : Nat := match w.heap[b]? with
  | some (.cells arr _ _) => arr.size
  | _ => 0

theorem start_rel {xs : List XA} {vs : List Value} {bs : List Nat} {pv : List Value} (hN : ∀ b, N b → b < w.heap.size) (h : ArgsRep P w N xs vs bs pv) (n : Nat) :
    Rel P w (· ∈ bs) N pv (startS n xs) { tmps := vs.toArray ++ Array.replicate (n - vs.toArray.size) undef, defers := [] } w := by
  obtain ⟨g1, g2, g3, g4, g5⟩ := argsIn_spec xs vs bs pv pinBase h
  obtain ⟨k1, k2, k3⟩ := g2.get
  have look := hOf_keys _ pinBase (fun i hi => (k3 i hi (by omega) (by omega)).1)
  let ι : Place := fun x => if pinBase ≤ x then ((pv[x - pinBase]?).bind pvBlk).map fun b => (b, blkSize w b) else none
  have hι : ∀ i (hi : i < pv.length), ι (pinBase + i) = (pvBlk pv[i]).map fun b => (b, blkSize w b) := fun i hi => by simp [ι, hi]
  have back : ∀ x r, hOf (argsIn xs pinBase).2.1 x = some r → ∃ i, ∃ hi : i < pv.length, ∃ ha : i < (argsIn xs pinBase).2.2.length, x = pinBase + i ∧ PinOK P w N bs (pinBase + i) r (argsIn xs pinBase).2.2[i] pv[i] := fun x r hx => by
    obtain ⟨i, hi, e1, e2⟩ := (look x r).1 hx
    refine ⟨i, by omega, by omega, e1, ?_⟩
    rw [e2]
    exact (k3 i hi (by omega) (by omega)).2
  have fwd : ∀ i (hi : i < (argsIn xs pinBase).2.1.length), hOf (argsIn xs pinBase).2.1 (pinBase + i) = some (argsIn xs pinBase).2.1[i].2 := fun i hi => (look _ _).2 ⟨i, hi, rfl, rfl⟩
  have hpin : ∀ i (h1 : i < (argsIn xs pinBase).2.2.length) (h2 : i < pv.length), RepA P w N (hOf (argsIn xs pinBase).2.1) ι (argsIn xs pinBase).2.2[i] pv[i] := fun i h1 h2 => by
    obtain ⟨_, hp⟩ := k3 i (by omega) h1 h2
    have hH := fwd i (by omega)
    have hi2 := hι i h2
    rcases hp with ⟨cs, arr, e, b, q1, q2, q3, q4, q5, q6, q7, q8⟩ | ⟨k, ys, q1, q2, ob, q3, q4⟩
    · rw [q2, q3]
      rw [q3] at hi2
      exact .ptr (by rw [hH]; simp) fun r hr hl => ⟨_, _, hi2, by simp⟩
    · rw [q2]
      rcases q3 with ⟨_, rfl, a, e⟩ | ⟨b, arr, e, cap, _, _, _, e', q6, q7, q8, q9⟩
      · rw [e]
        refine .all (by rw [hH]; simp) (.inl rfl) (Nat.le_refl _) fun r hr hl => ?_
        rw [hH, q1] at hr
        cases hr
        exact ⟨rfl, .inl ⟨rfl, rfl⟩⟩
      · rw [e']
        refine .all (by rw [hH]; simp) (.inr ⟨_, rfl⟩) q8 fun r hr hl => ?_
        rw [hH, q1] at hr
        cases hr
        refine ⟨rfl, ?_⟩
        by_cases hc : cap = 0
        · exact .inl ⟨by omega, hc⟩
        · refine .inr ⟨b, arr.size, ?_, by simp, by omega, q8⟩
          rw [hi2, e']
          simp [pvBlk, hc, blkSize, q6]
  refine ⟨N, ι, ⟨Keeps.refl _ _, fun x r hx => ?_, fun x y rx ry b c c' hx hy _ _ hbx hby => ?_, fun x r b c hx _ hb => ?_, hN, fun b hb => .inl hb, fun b hb => hb⟩, ⟨[], rfl, .tup rfl (by simp [startS])⟩, ?_, fun i hi => ?_, ?_, fun i hi hv => ?_⟩
  · obtain ⟨i, hi, ha, rfl, hp⟩ := back x r hx
    have hi2 := hι i hi
    rcases hp with ⟨cs, arr, e, b, rfl, q2, q3, q4, q5, q6, q7, q8⟩ | ⟨k, ys, rfl, q2, ob, q3, q4⟩
    · rw [q3] at hi2
      refine ⟨_, _, arr, e, hi2, q4, by simp [blkSize, q4], by simp [blkSize, q4, q5], fun j => arr.getD j undef, fun j hj => ?_⟩
      simp at hj
      exact ⟨getD_some (by omega), by simpa using RepA.imm (H := (startS n xs).H) (ι := ι) (q6 j hj)⟩
    · rcases q3 with ⟨_, rfl, a, e⟩ | ⟨b, arr, e, cap, _, _, _, e', q6, q7, q8, q9⟩
      · rw [e] at hi2
        exact .inl ⟨by rw [hi2]; cases a <;> simp [pvBlk], rfl⟩
      · rw [e'] at hi2
        by_cases hc : cap = 0
        · have : ys = [] := List.eq_nil_of_length_eq_zero (by omega)
          exact .inl ⟨by rw [hi2]; simp [pvBlk, hc], this⟩
        · exact .inr ⟨b, arr.size, arr, e, by rw [hi2]; simp [pvBlk, hc, blkSize, q6], q6, rfl, by omega, q9⟩
  · obtain ⟨i, hi, _, rfl, _⟩ := back x rx hx
    obtain ⟨j, hj, _, rfl, _⟩ := back y ry hy
    rw [hι i hi] at hbx
    rw [hι j hj] at hby
    simp only [Option.map_eq_some_iff, Prod.mk.injEq] at hbx hby
    obtain ⟨b1, e1, rfl, _⟩ := hbx
    obtain ⟨b2, e2, rfl, _⟩ := hby
    have hp := List.pairwise_iff_getElem.1 g4
    rcases Nat.lt_trichotomy i j with hlt | rfl | hlt
    · exact absurd e2 (hp i j hi hj hlt _ e1)
    · rfl
    · exact absurd e1 (hp j i hj hi hlt _ e2)
  · obtain ⟨i, hi, _, rfl, hp⟩ := back x r hx
    rw [hι i hi] at hb
    simp only [Option.map_eq_some_iff, Prod.mk.injEq] at hb
    obtain ⟨b1, e1, rfl, _⟩ := hb
    refine ⟨.inl (g3 _ (List.getElem_mem _) _ e1), ?_⟩
    rcases hp with ⟨cs, arr, e, b, _, q2, q3, q4, q5, q6, q7, q8⟩ | ⟨k, ys, _, q2, ob, q3, q4⟩
    · rw [q3] at e1
      simp [pvBlk, ptrOf] at e1
      rw [← e1]; exact q7
    · obtain ⟨_, e3⟩ := cell_blk q3 q4 _ e1
      subst e3
      exact q3.notN.1
  · simp [startS, g1]
  · simp only [startS]
    simp only [startS, List.length_append, List.length_replicate] at hi
    by_cases hlt : i < (argsIn xs pinBase).1.length
    · have hv : i < vs.length := by omega
      rw [List.getElem_append_left hlt]
      have e1 : (vs.toArray ++ Array.replicate (n - vs.toArray.size) undef).getD i undef = vs[i] := by
        rw [Array.getD_eq_getD_getElem?, Array.getElem?_append_left (by simpa using hv)]
        simp [hv]
      rw [e1]
      exact g5 _ ι hpin i hlt hv
    · rw [List.getElem_append_right (by omega)]
      have e1 : (vs.toArray ++ Array.replicate (n - vs.toArray.size) undef).getD i undef = undef := by
        rw [Array.getD_eq_getD_getElem?, Array.getElem?_append_right (by simp; omega)]
        simp [Array.getElem?_replicate]
        split <;> rfl
      rw [e1]
      simp only [List.getElem_replicate]
      exact .undef
  · simp only [startS]; omega
  · exact hpin i hi hv

theorem pinOut_spec {x : AV} {id : Nat} {ds : List D} (h : pinOut H x = some (id, ds)) : (x = .ptr id 0 0 ∧ ∃ cs, H id = some (.box cs) ∧ cs = ds.map AV.imm) ∨ ∃ s k xs, x = .all id s ∧ H id = some (.ints k xs) ∧ ds = [.ints k xs] := by
  unfold pinOut at h
  split at h
  · split at h
    · rename_i cs hH
      simp only [Option.map_eq_some_iff, Prod.mk.injEq] at h
      obtain ⟨ds', h, rfl, rfl⟩ := h
      obtain ⟨m1, m2⟩ := mapM_some h
      refine .inl ⟨rfl, cs, hH, List.ext_getElem (by simp [m1]) fun i h1 h2 => ?_⟩
      have := m2 i h1 (by simpa using h2)
      simpa using unImm_spec this
    · simp at h
  · split at h
    · rename_i k xs hH
      simp at h
      obtain ⟨rfl, rfl⟩ := h
      exact .inr ⟨_, k, xs, rfl, hH, rfl⟩
    · simp at h
  · simp at h

theorem args_allD {xs : List XA} {vs : List Value} {bs : List Nat} {pv : List Value} (h : ArgsRep P w N xs vs bs pv) (hd : xs.all XA.isD = true) : bs = [] := by
  induction h with
  | nil => rfl
  | d _ _ ih => exact ih (by simpa [XA.isD] using hd)
  | box => simp [XA.isD] at hd
  | row => simp [XA.isD] at hd
  | rows => simp [XA.isD] at hd

/-- A function that runs by the abstract layer does what the layer says. -/
theorem calls_of_run {X : List Entry} {I : List Inl} {d fuel : Nat} {f : FuncId} {fn : Func} (hX : ∀ E ∈ X, CallSpec P E) (hm : P.follows .mixedOrders = true) (hI0 : ∀ i ∈ I, P.funcs[i.f]? = some i.fn ∧ (i.fn.name == "runtime.NumGoroutine") = false) (hf : P.funcs[f]? = some fn)
    {xs : List XA} {vs : List Value} {bs : List Nat} {pv : List Value} {rs : List XR} {ps : List (List D)}
    (hN : ∀ b, N b → b < w.heap.size) (ha : ArgsRep P w N xs vs bs pv) (h : runF P X I d fuel f fn xs = some (rs, ps)) :
    Calls P f vs.toArray w fun e w' => ∃ us N' obs, e = .returned (packed us) ∧ Keeps (· ∈ bs) w w' ∧ (∀ b, N b → N' b) ∧ (∀ b, N' b → (N b ∨ w.heap.size ≤ b) ∧ b < w'.heap.size) ∧
      ResRep P w' N' w.heap.size rs us obs ∧ PostRep P w' N' ps pv ∧ rs.length = us.length := by
  unfold runF at h
  split at h
  case h_2 => simp at h
  rename_i c hb
  have hS : xs.all XA.isD = true → ∀ b, ¬ (b ∈ bs) := fun hg b => by rw [args_allD ha hg]; simp
  have fin : ∀ (s' : St) (a' : Act) (w' : World) (N' : Nat → Prop) (ι : Place), Inv P w (· ∈ bs) N s'.H w' N' ι → a'.tmps.size = s'.t.length → (∀ i (hi : i < s'.t.length), RepA P w' N' s'.H ι s'.t[i] (a'.tmps.getD i Go.undef)) →
      s'.p.length = pv.length → (∀ i (hi : i < s'.p.length) (hv : i < pv.length), RepA P w' N' s'.H ι s'.p[i] pv[i]) → retH P fn s' = some (rs, ps) →
      ∃ v, (results fn a'.tmps).run P w' = .ok v w' ∧ ∃ us N' obs, Ending.returned v = .returned (packed us) ∧ Keeps (· ∈ bs) w w' ∧ (∀ b, N b → N' b) ∧ (∀ b, N' b → (N b ∨ w.heap.size ≤ b) ∧ b < w'.heap.size) ∧
      ResRep P w' N' w.heap.size rs us obs ∧ PostRep P w' N' ps pv ∧ rs.length = us.length := by
    intro s' a' w' N' ι hI hs ht hpl hp hret
    unfold retH at hret
    simp only [Option.bind_eq_some_iff] at hret
    obtain ⟨avs, r1, ⟨rs', ids⟩, r2, pos, r3, r4⟩ := hret
    split at r4
    case isFalse => simp at r4
    rename_i hnd
    simp at r4
    obtain ⟨rfl, rfl⟩ := r4
    obtain ⟨us, u1, u2, u3⟩ := results_run hI ht _ _ r1
    obtain ⟨n1, n2, n3⟩ := List.nodup_append.1 hnd
    obtain ⟨m1, m2⟩ := mapM_some r3
    have hpin : ∀ i (hi : i < pv.length), (∃ cs b c, s'.H (pos[i]'(by omega)).1 = some (.box cs) ∧ cs = (pos[i]'(by omega)).2.map AV.imm ∧ ι (pos[i]'(by omega)).1 = some (b, c) ∧ pv[i] = ptrOf b) ∨
        ∃ s k ys, s'.H (pos[i]'(by omega)).1 = some (.ints k ys) ∧ (pos[i]'(by omega)).2 = [.ints k ys] ∧ RepA P w' N' s'.H ι (.all (pos[i]'(by omega)).1 s) pv[i] := fun i hi => by
      have e1 := m2 i (by omega) (by omega)
      have e5 := hp i (by omega) hi
      rcases pinOut_spec e1 with ⟨e2, cs, e3, e4⟩ | ⟨s, k, ys, e2, e3, e4⟩
      · rw [e2] at e5
        generalize pv[i] = v at e5
        cases e5 with
        | ptr _ hq =>
          obtain ⟨b, c, q1, q2⟩ := hq _ e3 rfl
          simp only [Nat.zero_mul, Nat.zero_add] at q2
          subst q2
          exact .inl ⟨cs, b, c, e3, e4, q1, rfl⟩
      · rw [e2] at e5
        exact .inr ⟨s, k, ys, e3, e4, e5⟩
    have hold : ∀ id r b c, s'.H id = some r → r.live = true → ι id = some (b, c) → id ∈ ids → b ∉ bs := fun id r b c h1 h2 h3 h4 hb => by
      obtain ⟨v, hv, e⟩ := args_blk ha b hb
      obtain ⟨i, hi, rfl⟩ := List.getElem_of_mem hv
      have same : ∀ r' c', s'.H (pos[i]'(by omega)).1 = some r' → r'.live = true → ι (pos[i]'(by omega)).1 = some (b, c') → False := fun r' c' q1 q2 q3 => by
        have := hI.inj id _ r r' b c c' h1 q1 h2 q2 h3 q3
        exact n3 id h4 _ (List.mem_map.2 ⟨_, List.getElem_mem _, rfl⟩) this
      rcases hpin i hi with ⟨cs, b', c', q1, q2, q3, q4⟩ | ⟨s, k, ys, q1, q2, q3⟩
      · rw [q4] at e
        simp [pvBlk, ptrOf] at e
        subst e
        exact same _ c' q1 rfl q3
      · generalize pv[i] = v at e q3
        cases q3 with
        | @all _ _ a len cap hid hs hc hp =>
        obtain ⟨hdim, hp⟩ := hp _ q1 rfl
        rcases hp with ⟨_, z⟩ | ⟨b', c', z1, rfl, _⟩
        · cases a <;> simp [pvBlk, z] at e
        · simp only [pvBlk] at e
          split at e <;> simp at e
          subst e
          exact same _ c' q1 rfl z1
    obtain ⟨⟨obs, o1, o2⟩, o3, o4⟩ := outAll_sound (base := w.heap.size) hI avs us _ _ _ r2 u2 u3 n1 (fun id r b c h1 h2 h3 h4 => by
      rcases (hI.own id r b c h1 h2 h3).1 with hb | hb
      · exact absurd hb (hold id r b c h1 h2 h3 h4)
      · exact hb)
    refine ⟨packed us, run_results u1, us, N', obs, rfl, hI.keeps, hI.new, fun b hb => ⟨hI.old b hb, hI.lt b hb⟩, o1, ?_, o4⟩
    -- the variables
    have post : ∀ (pos : List (Nat × List D)) (pv : List Value), pos.length = pv.length → (∀ i (hi : i < pos.length) (hb : i < pv.length), (∃ cs b c, s'.H pos[i].1 = some (.box cs) ∧ cs = pos[i].2.map AV.imm ∧ ι pos[i].1 = some (b, c) ∧ pv[i] = ptrOf b) ∨
        ∃ s k ys, s'.H pos[i].1 = some (.ints k ys) ∧ pos[i].2 = [.ints k ys] ∧ RepA P w' N' s'.H ι (.all pos[i].1 s) pv[i]) → PostRep P w' N' (pos.map (·.2)) pv := by
      intro pos
      induction pos with
      | nil => intro pv hl _; cases pv with | nil => exact .nil | cons => simp at hl
      | cons p pos ih =>
        intro pv hl hq
        cases pv with
        | nil => simp at hl
        | cons v pv =>
        have ih' := ih pv (by simpa using hl) fun i hi hb => hq (i + 1) (Nat.succ_lt_succ hi) (Nat.succ_lt_succ hb)
        have h0 := hq 0 (by simp) (by simp)
        simp only [List.getElem_cons_zero] at h0
        rcases h0 with ⟨cs, b, c, q1, q2, q3, rfl⟩ | ⟨s, k, ys, q1, q2, q3⟩
        · obtain ⟨b', c', arr, e, t1, t2, t3, t4, f, t5⟩ := hI.rows _ _ q1
          rw [q3] at t1
          cases t1
          subst q2
          simp only [List.length_map] at t4
          refine .cons t2 (by show arr.size = p.2.length; omega) (fun i hi => ?_) (hI.own _ _ b c q1 rfl q3).2 ih'
          have := t5 i (by simpa using hi)
          simp only [List.getElem_map] at this
          rw [show arr.getD i undef = f i by simp [this.1]]
          cases this.2 with
          | imm h => exact h
        · obtain ⟨ob, g1, _⟩ := rowM_sound hI q1 q3
          rw [List.map_cons, q2]
          exact .row g1 ih'
    exact post pos pv (by omega) fun i hi hb => hpin i hb
  refine (callsIn_wide (n := 0)).1 (callsIn_of_wp_marks hf hb trivial (codeN_ok hX hm hI0 hS d none pv f c _ _ (rs, ps) _ w _ (fun b hb => args_blk ha b hb) (start_rel hN ha fn.ntmps) h ?_) rfl)
  intro e s' a' w' hR hk
  have main : retI P fn s' = some (rs, ps) → LeavesInM Fence.wide 0 P fn a'.tmps (fun e w' => ∃ us N' obs, e = .returned (packed us) ∧ Keeps (· ∈ bs) w w' ∧ (∀ b, N b → N' b) ∧ (∀ b, N' b → (N b ∨ w.heap.size ≤ b) ∧ b < w'.heap.size) ∧
      ResRep P w' N' w.heap.size rs us obs ∧ PostRep P w' N' ps pv ∧ rs.length = us.length) a'.defers .returning w' := by
    intro hk
    obtain ⟨N', ι, hI, ⟨ms, m1, m2⟩, hs, ht, hpl, hp⟩ := hR
    unfold retI at hk
    simp only [Option.bind_eq_some_iff] at hk
    obtain ⟨H, h1, h2⟩ := hk
    rw [m1]
    cases m2 with
    | tup ml mr =>
    refine leave_sound s'.d ms s'.H H w' hI (by simpa using ml.symm) (fun i hi hm => ?_) h1 fun w2 hI' hf => ?_
    · have := mr i hi
      simpa [hm] using this
    · exact fin ⟨s'.t, H, s'.p, []⟩ a' w2 N' ι hI' hs (fun i hi => (ht i hi).fwd hf) hpl (fun i hi hv => (hp i hi hv).fwd hf) h2
  cases e with
  | normal => exact main hk
  | ret => exact main hk
  | exit id => simp [endK] at hk

/-- **The rule**: a function whose every run, at the arguments that its meaning knows, comes to what its meaning says. -/
theorem callSpec_of {E : Entry} {X : List Entry} {I : List Inl} {d : Nat} {fn : Func} (hX : ∀ E ∈ X, CallSpec P E) (hm : P.follows .mixedOrders = true) (hI0 : ∀ i ∈ I, P.funcs[i.f]? = some i.fn ∧ (i.fn.name == "runtime.NumGoroutine") = false)
    (hf : P.funcs[E.f]? = some fn) (hn : (fn.name == "runtime.NumGoroutine") = false) (hb : fn.body.isNone = false)
    (hfn : ∀ ds rb dom G, E.fnOf ds = some (rb, dom, G) → ∀ qs, dom qs = true → E.m ((qs.map fun q => .d q.d) ++ ds.map .d) = some ([.one (fnD rb (G qs), false)], []))
    (h : ∀ xs, E.pre xs = true → ∃ fuel, runF P X I d fuel E.f fn xs = some (E.r xs)) (hmt : E.meth = none := by rfl) : CallSpec P E :=
  ⟨fun _ => ⟨fn, hf, hn, hb⟩, fun w N xs vs bs pv rs ps hN ha hE => by
    unfold Entry.m at hE
    cases hp : E.pre xs with
    | false => rw [hp] at hE; simp at hE
    | true =>
      rw [hp] at hE
      simp only [cond_true, Option.some.injEq] at hE
      obtain ⟨fuel, hr⟩ := h xs hp
      rw [hE] at hr
      exact .of hmt (calls_of_run hX hm hI0 hf hN ha hr), hfn⟩

/-- A cell of which less is said. -/
def CellLe (P : Program) (c c' : Cell) : Prop := c = c' ∨ (c'.1 = .junk ∧ c'.2 = false ∧ c.2 = false ∧ c.1.one = true) ∨ (c' = (.junk, false) ∧ ∃ k xs, c = (.ints k xs, true)) ∨ (∃ k, c = (.ints k [], true) ∧ c' = (.ints k [], false)) ∨ (∃ s, c = (.seq s [], true) ∧ c' = (.seq s [], false)) ∨
  ∃ (E : Entry) (ds : List D) (rb : Bool) (dom : List Q → Bool) (G : List Q → Int), (CallSpec P E ∧ E.meth = none) ∧ E.fnOf ds = some (rb, dom, G) ∧ c = (.clo E.f ds, false) ∧ c' = (.fn rb dom G, false)

inductive ResLe (P : Program) : List XR → List XR → Prop where
  | nil : ResLe P [] []
  | same {r rs rs'} (h : ResLe P rs rs') : ResLe P (r :: rs) (r :: rs')
  | one {c c' rs rs'} (hc : CellLe P c c') (h : ResLe P rs rs') : ResLe P (.one c :: rs) (.one c' :: rs')
  | agg {cs cs' rs rs'} (hl : cs.length = cs'.length) (hc : ∀ i (h1 : i < cs.length) (h2 : i < cs'.length), CellLe P cs[i] cs'[i]) (h : ResLe P rs rs') : ResLe P (.agg cs :: rs) (.agg cs' :: rs')

theorem CellRep.le {base : Nat} {c c' : Cell} {v : Value} {ob : Option Nat} (h : CellRep P w N base c v ob) (hl : CellLe P c c') : ∃ ob', CellRep P w N base c' v ob' ∧ (ob' = ob ∨ ob' = none) := by
  obtain ⟨d, o⟩ := c
  obtain ⟨d', o'⟩ := c'
  rcases hl with h1 | ⟨h1, h2, h3, h4⟩ | ⟨h1, k, xs, h2⟩ | ⟨k, h1, h2⟩ | ⟨s, h1, h2⟩ | ⟨E, ds, rb, dom, G, hE, h1, h2, h3⟩
  rotate_right
  · cases h2
    cases h3
    obtain ⟨h4, rfl⟩ := h
    simp only at h4
    cases h4 with
    | clo _ _ vs hl hr => exact ⟨none, ⟨.fn _ _ _ _ (hE.1.fnRep hE.2 h1 hl hr), rfl⟩, .inr rfl⟩
  · rw [← h1]; exact ⟨ob, h, .inl rfl⟩
  · simp only at h1 h2 h3 h4
    subst h1 h2 h3
    exact ⟨none, ⟨.junk _ (h.1.one h4), rfl⟩, .inr rfl⟩
  · cases h1
    cases h2
    refine ⟨none, ⟨.junk _ ?_, rfl⟩, .inr rfl⟩
    rcases h with ⟨_, _, a, rfl⟩ | ⟨b, arr, e, cap, _, _, _, rfl, _⟩ <;> rfl
  · cases h1
    cases h2
    refine ⟨none, ⟨?_, rfl⟩, .inr rfl⟩
    rcases h with ⟨_, _, a, rfl⟩ | ⟨b, arr, e, cap, _, _, _, rfl, _⟩ <;> exact .ints0 _ _ _
  · cases h1
    cases h2
    refine ⟨none, ⟨?_, rfl⟩, .inr rfl⟩
    rcases h with ⟨_, ⟨_, _, a, rfl⟩ | ⟨b, arr, e, cap, _, _, _, rfl, _⟩⟩ <;> exact .seq0 _ _ _

theorem CellsRep.le {base : Nat} : ∀ {cs cs' : List Cell} {us : List Value} {bs : List Nat}, CellsRep P w N base cs us bs → cs.length = cs'.length → (∀ i (h1 : i < cs.length) (h2 : i < cs'.length), CellLe P cs[i] cs'[i]) → ∃ bs', CellsRep P w N base cs' us bs' ∧ ∀ b ∈ bs', b ∈ bs := by
  intro cs cs' us bs h
  induction h generalizing cs' with
  | nil => intro hl _; cases cs' with | nil => exact ⟨[], .nil, by simp⟩ | cons => simp at hl
  | @none c v cs vs bs h t ih =>
    intro hl hc
    cases cs' with
    | nil => simp at hl
    | cons c' cs' =>
    obtain ⟨bs', g1, g2⟩ := ih (by simpa using hl) fun i h1 h2 => hc (i + 1) (Nat.succ_lt_succ h1) (Nat.succ_lt_succ h2)
    obtain ⟨ob', q1, q2⟩ := h.le (hc 0 (by simp) (by simp))
    obtain rfl : ob' = Option.none := by simpa using q2
    exact ⟨bs', .none q1 g1, g2⟩
  | @some c v b cs vs bs h hb t ih =>
    intro hl hc
    cases cs' with
    | nil => simp at hl
    | cons c' cs' =>
    obtain ⟨bs', g1, g2⟩ := ih (by simpa using hl) fun i h1 h2 => hc (i + 1) (Nat.succ_lt_succ h1) (Nat.succ_lt_succ h2)
    obtain ⟨ob', q1, q2⟩ := h.le (hc 0 (by simp) (by simp))
    rcases q2 with rfl | rfl
    · exact ⟨b :: bs', .some q1 (fun hm => hb (g2 b hm)) g1, fun x hx => by rcases List.mem_cons.1 hx with rfl | hx <;> simp_all⟩
    · exact ⟨bs', .none q1 g1, fun x hx => by simp [g2 x hx]⟩

theorem ResRep.le {base : Nat} {rs rs' : List XR} {us : List Value} {bs : List Nat} (hl : ResLe P rs rs') (h : ResRep P w N base rs us bs) : ∃ bs', ResRep P w N base rs' us bs' ∧ ∀ b ∈ bs', b ∈ bs := by
  induction hl generalizing us bs with
  | nil => exact ⟨bs, h, fun _ h => h⟩
  | same _ ih =>
    cases h with
    | one h hd t =>
      obtain ⟨bs', g1, g2⟩ := ih t
      exact ⟨_, .one h (fun b hb hm => hd b hb (g2 b hm)) g1, fun b hb => by rcases List.mem_append.1 hb with hb | hb <;> simp_all⟩
    | agg h hd t =>
      obtain ⟨bs', g1, g2⟩ := ih t
      exact ⟨_, .agg h (fun b hb hm => hd b hb (g2 b hm)) g1, fun b hb => by rcases List.mem_append.1 hb with hb | hb <;> simp_all⟩
    | box hg h1 h2 h3 h4 h5 h6 t =>
      obtain ⟨bs', g1, g2⟩ := ih t
      exact ⟨_, .box hg h1 h2 h3 (fun hm => h4 (g2 _ hm)) h5 (fun b hb hm => h6 b hb (g2 b hm)) g1, fun b hb => by
        rcases List.mem_cons.1 hb with rfl | hb
        · simp
        · rcases List.mem_append.1 hb with hb | hb
          · simp [hb]
          · simp [g2 b hb]⟩
  | @one c0 c1 _ _ hc _ ih =>
    cases h with
    | one h hd t =>
      obtain ⟨bs', g1, g2⟩ := ih t
      obtain ⟨bs1, q1, q2⟩ := h.le (cs' := [c1]) rfl (fun i h1 h2 => by
        simp at h1
        subst h1
        exact hc)
      exact ⟨_, .one q1 (fun b hb hm => hd b (q2 b hb) (g2 b hm)) g1, fun b hb => by
        rcases List.mem_append.1 hb with hb | hb
        · exact List.mem_append.2 (.inl (q2 b hb))
        · exact List.mem_append.2 (.inr (g2 b hb))⟩
  | agg hl hc _ ih =>
    cases h with
    | agg h hd t =>
      obtain ⟨bs', g1, g2⟩ := ih t
      obtain ⟨bs1, q1, q2⟩ := h.le hl hc
      exact ⟨_, .agg q1 (fun b hb hm => hd b (q2 b hb) (g2 b hm)) g1, fun b hb => by
        rcases List.mem_append.1 hb with hb | hb
        · exact List.mem_append.2 (.inl (q2 b hb))
        · exact List.mem_append.2 (.inr (g2 b hb))⟩

theorem ResLe.length {rs rs' : List XR} (h : ResLe P rs rs') : rs.length = rs'.length := by
  induction h <;> simp_all

/-- A function's meaning may be told with less. -/
theorem CallSpec.le {E E' : Entry} (hE : CallSpec P E) (hf : E'.f = E.f) (hfn : ∀ ds rb dom G, E'.fnOf ds = some (rb, dom, G) → ∀ qs, dom qs = true → E'.m ((qs.map fun q => .d q.d) ++ ds.map .d) = some ([.one (fnD rb (G qs), false)], [])) (h : ∀ xs, E'.pre xs = true → E.pre xs = true ∧ ResLe P (E.r xs).1 (E'.r xs).1 ∧ (E.r xs).2 = (E'.r xs).2) (hmt : E.meth = none := by rfl) (hmt' : E'.meth = none := by rfl) : CallSpec P E' := by
  refine ⟨fun _ => by rw [hf]; exact hE.fn hmt, fun w N xs vs bs pv rs ps hN ha hm => ?_, hfn⟩
  unfold Entry.m at hm
  cases hp : E'.pre xs with
  | false => rw [hp] at hm; simp at hm
  | true =>
    rw [hp] at hm
    simp only [cond_true, Option.some.injEq] at hm
    obtain ⟨h1, h2, h3⟩ := h xs hp
    refine .of hmt' ?_
    rw [hf]
    refine ((hE.calls w N xs vs bs pv (E.r xs).1 (E.r xs).2 hN ha (by simp [Entry.m, h1])).plain hmt).mono ?_
    rintro e w' ⟨us, N', obs, q1, q2, q3, q4, q5, q6, q7⟩
    obtain ⟨obs', g1, _⟩ := q5.le h2
    rw [hm] at g1 h2
    rw [h3, hm] at q6
    exact ⟨us, N', obs', q1, q2, q3, q4, g1, q6, by rw [← h2.length]; exact q7⟩

end
end Go.Ab
