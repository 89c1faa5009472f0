/-
  AN ABSTRACT LAYER, 9: slices that are made.
-/
import Derived.Test.YtfdcmbjkapcbcacAbOp6
namespace Go.Ab
variable {P : Program}

section
variable {P : Program} {w : World} {N : Nat → Prop} {H : Heap} {ι : Place} {w0 : World} {S N0 : Nat → Prop}

theorem kindT_spec {t : TypeId} {k : IntKind} (h : kindT P t = some k) : P.underlying t = some (.int k) := by
  unfold kindT at h
  split at h <;> simp at h
  subst h
  assumption

theorem unInt_spec {k : IntKind} {x : AV} {n : Int} (h : unInt k x = some n) : x = .imm (.int k n) := by
  unfold unInt at h
  split at h
  · split at h <;> simp at h
    subst h
    rename_i hk
    rw [hk]
  · simp at h

/-- A new row of integers in a new block. -/
theorem newInts_sound (hI : Inv P w0 S N0 H w N ι) {nid : Nat} (hn : H nid = none) {k : IntKind} {xs : List Int} {vs : Array Value} (hl : xs.length ≤ vs.size) (hr : ∀ i (hi : i < xs.length), vs[i]? = some (.int k xs[i])) (e : TypeId) :
    ∃ ι', Inv P w0 S N0 (H.set nid (.ints k xs)) (w.alloc (.cells vs e)) N ι' ∧ Fwd N ι H w N ι' (H.set nid (.ints k xs)) (w.alloc (.cells vs e)) ∧
      RepA P (w.alloc (.cells vs e)) N (H.set nid (.ints k xs)) ι' (.all nid 1) (.slice (some ⟨w.heap.size, 0, none⟩) xs.length vs.size) := by
  obtain ⟨ι', h1, h2, h3⟩ := hI.alloc hn vs e (.ints k xs) (fun ι' H' w' e1 e2 e3 hf => by
    refine .inr ⟨w.heap.size, vs.size, vs, e, by rw [e1]; simp, by rw [e3]; exact heap_alloc_new w _, rfl, hl, hr⟩)
  refine ⟨ι', h2, h3, .all (by simp [Heap.set]) (.inr ⟨_, rfl⟩) hl fun r hr hlv => ?_⟩
  simp [Heap.set] at hr
  subst hr
  exact ⟨rfl, .inr ⟨_, _, h1, by simp, by simp, hl⟩⟩

theorem fillA_length {α : Type} {place : Nat → Option (Nat × Nat)} : ∀ {ps : List (Nat × List α)} {cs out : List α}, fillA place cs ps = some out → out.length = cs.length
  | [], cs, out, h => by simp [fillA] at h; subst h; rfl
  | (i, ys) :: ps, cs, out, h => by
    simp only [fillA, Option.bind_eq_some_iff] at h
    obtain ⟨⟨off, size⟩, h1, h2⟩ := h
    split at h2
    case isFalse => simp at h2
    rename_i hc
    rw [fillA_length h2, spl_length _ _ _ hc.2]

theorem buildSlice_run {t : TypeId} {len nid : Nat} {parts : List (Nat × AV)} {vs : Array (Nat × Value)} {x : AV} {H' : Heap} (h : buildSliceA P t len parts nid H = some (x, H'))
    (hl : vs.size = parts.length) (hr : ∀ i (hi : i < parts.length) (hv : i < vs.size), vs[i].1 = parts[i].1 ∧ RepA P w N H ι parts[i].2 vs[i].2) :
    ∃ k xs us e, x = .all nid 1 ∧ H nid = none ∧ H' = H.set nid (.ints k xs) ∧ xs.length ≤ us.size ∧ (∀ i (hi : i < xs.length), us[i]? = some (.int k xs[i])) ∧ (Instr.buildSlice t len vs).run P w = .ok (.slice (some ⟨w.heap.size, 0, none⟩) xs.length us.size) (w.alloc (.cells us e)) := by
  unfold buildSliceA at h
  simp only [Option.bind_eq_some_iff] at h
  obtain ⟨e, h1, s, h2, k, h3, z, h4, h5⟩ := h
  split at h5
  case h_2 => simp at h5
  rename_i k'
  split at h5
  case isFalse => simp at h5
  rename_i hc
  obtain ⟨rfl, rfl, hlen⟩ := hc
  simp only [Option.bind_eq_some_iff] at h5
  obtain ⟨ps, h6, xs, h7, h8⟩ := h5
  split at h8 <;> simp at h8
  obtain ⟨rfl, rfl⟩ := h8
  rename_i hn
  have hu := elemT_spec h1
  obtain ⟨g1, g2⟩ := mapM_some h6
  have hpq : ∀ i (hi : i < ps.length) (hq : i < vs.toList.length), ps[i].1 = vs.toList[i].1 ∧ vs.toList[i].2.cells.size = ps[i].2.length ∧
      ∀ j (hj : j < ps[i].2.length), (fun (n : Int) v => v = Value.int k' n) ps[i].2[j] (vs.toList[i].2.cells.getD j Go.undef) := by
    intro i hi hq
    have hq' : i < vs.size := by simpa using hq
    have e1 := g2 i (by omega) hi
    obtain ⟨e2, e3⟩ := hr i (by omega) hq'
    simp only [partInt, Option.map_eq_some_iff] at e1
    obtain ⟨n, e4, e5⟩ := e1
    rw [unInt_spec e4] at e3
    simp only [Array.getElem_toList, ← e5]
    cases he : vs[i].2 with
    | int k2 n2 =>
      rw [he] at e3
      cases e3 with
      | imm e3 =>
      cases e3
      refine ⟨e2.symm, rfl, fun j hj => ?_⟩
      simp at hj
      subst hj
      rfl
    | _ => rw [he] at e3; cases e3 with | imm e3 => cases e3
  have hz : ((Array.range (len * 1)).map ((Value.int k' 0).cells[· % (Value.int k' 0).cells.size]!)).size = (List.replicate len (0 : Int)).length := by simp
  obtain ⟨us, q1, q2, q3⟩ := fill_rel (fun (n : Int) v => v = Value.int k' n) _ ps vs.toList _ ((Array.range (len * 1)).map ((Value.int k' 0).cells[· % (Value.int k' 0).cells.size]!)) xs (by simp; omega) hpq hz
    (fun i hi => by
      simp at hi
      simp [hi, Value.cells, Nat.mod_one]) h7
  have hxl : xs.length = len := by rw [fillA_length h7]; simp
  refine ⟨k', xs, us, e, rfl, hn, rfl, by omega, (fun i hi => by rw [getD_some (d := Go.undef) (by omega), q3 i hi]), ?_⟩
  rw [q2, hxl]
  simp only [Instr.buildSlice, Sem.run_bind, run_under hu, Result.andThen_ok, run_sizeOf h2, Nat.mul_one]
  rw [if_neg (by omega)]
  by_cases h0 : len = 0
  · subst h0
    rw [if_pos rfl]
    simp only [Sem.run_bind, Sem.run_pure, Result.andThen_ok]
    have q1' : Instr.fill (fun i => some (i * 1, 1)) ((Array.range 0).map ((#[] : Array Value)[· % (#[] : Array Value).size]!)) vs.toList = some us := by
      have e0 : Array.range 0 = #[] := rfl
      simp only [Nat.mul_one, e0, Array.map_empty] at q1 ⊢
      exact q1
    simp only [Nat.mul_one] at q1'
    simp only [q1', newRow, Sem.run_bind, run_newObj, Result.andThen_ok, Sem.run_pure]
    rfl
  · rw [if_neg h0]
    simp only [Sem.run_bind, run_zero h4, Sem.run_pure, Result.andThen_ok]
    simp only [Nat.mul_one] at q1
    simp only [q1, newRow, Sem.run_bind, run_newObj, Result.andThen_ok, Sem.run_pure]
    rfl

theorem makeIntsA_sound {t : TypeId} {nid : Nat} {l c x : AV} {u v : Value} {H' : Heap} (hI : Inv P w0 S N0 H w N ι) (h : makeIntsA P t l c nid H = some (x, H')) (hl : RepA P w N H ι l u) (hc : RepA P w N H ι c v) :
    ∃ z w' ι', (Instr.makeSlice t u v).run P w = .ok z w' ∧ Inv P w0 S N0 H' w' N ι' ∧ Fwd N ι H w N ι' H' w' ∧ RepA P w' N H' ι' x z := by
  unfold makeIntsA at h
  simp only [Option.bind_eq_some_iff] at h
  obtain ⟨e, h1, info, h2, k, h3, z, h4, h5⟩ := h
  split at h5
  case h_2 => simp at h5
  rename_i k' k1 l k2 c
  split at h5
  case isFalse => simp at h5
  rename_i hcc
  obtain ⟨rfl, hsz, hl0, hlc, hc60, hby⟩ := hcc
  split at h5 <;> simp at h5
  obtain ⟨rfl, rfl⟩ := h5
  rename_i hn
  have hu := elemT_spec h1
  cases hl with
  | imm hl =>
  cases hl
  cases hc with
  | imm hc =>
  cases hc
  have wl : IntKind.i64.wrap l = l := IntWalk.i64_in _ (by omega)
  have wc : IntKind.i64.wrap c = c := IntWalk.i64_in _ (by omega)
  obtain ⟨ι', g3, g4, g5⟩ := newInts_sound hI hn (k := k') (xs := List.replicate l.toNat 0) (vs := (Array.range c.toNat).map fun _ => Value.int k' 0) (by simp; omega) (fun i hi => by
    have hi' : i < l.toNat := by simpa using hi
    have hic : i < c.toNat := by omega
    simp [hic]) e
  simp only [List.length_replicate, Array.size_map, Array.size_range] at g5
  refine ⟨_, _, ι', ?_, g3, g4, g5⟩
  have hb2 : ¬ ((info.bytes : Int) * c > 281474976710656) := by omega
  simp only [Instr.makeSlice, Sem.run_bind, run_under hu, Result.andThen_ok, asInt, asIntOf, Sem.run_pure, run_typeInfo h2, wl, wc]
  have htl : (decide (c < 0) || decide ((info.bytes : Int) * c > 2 ^ 48)) = false := by
    rw [Bool.or_eq_false_iff]
    exact ⟨decide_eq_false (by omega), decide_eq_false (by simpa using hb2)⟩
  have hcond : ((decide (c < 0) || decide ((info.bytes : Int) * c > 2 ^ 48)) || decide (l < 0) || decide (l > c)) = false := by
    rw [htl]
    simp
    omega
  have hs1 : sizeT P e = some 1 := by simp [sizeT, h2, hsz]
  simp only [hcond, Bool.false_eq_true, if_false, Sem.run_bind, run_askRoom, Result.andThen_ok, run_sizeOf hs1, Nat.mul_one]
  by_cases h0 : c.toNat = 0
  · rw [if_pos h0]
    simp only [Sem.run_bind, Sem.run_pure, Result.andThen_ok, newRow, run_newObj, h0]
    have e0 : ∀ (f g : Nat → Value), (Array.range 0).map f = (Array.range 0).map g := fun f g => by simp
    rw [e0 _ (fun _ => Value.int k' 0)]
    rfl
  · rw [if_neg h0]
    simp only [Sem.run_bind, run_zero h4, Sem.run_pure, Result.andThen_ok, newRow, run_newObj]
    rw [show ((Array.range c.toNat).map fun x => (Value.int k' 0).cells[x % (Value.int k' 0).cells.size]!) = (Array.range c.toNat).map fun _ => Value.int k' 0 from by
      congr 1
      funext x
      simp [Value.cells, Nat.mod_one]]
    rfl

theorem buildSliceA_sound {t : TypeId} {len nid : Nat} {parts : List (Nat × AV)} {vs : Array (Nat × Value)} {x : AV} {H' : Heap} (hI : Inv P w0 S N0 H w N ι) (h : buildSliceA P t len parts nid H = some (x, H'))
    (hl : vs.size = parts.length) (hr : ∀ i (hi : i < parts.length) (hv : i < vs.size), vs[i].1 = parts[i].1 ∧ RepA P w N H ι parts[i].2 vs[i].2) :
    ∃ z w' ι', (Instr.buildSlice t len vs).run P w = .ok z w' ∧ Inv P w0 S N0 H' w' N ι' ∧ Fwd N ι H w N ι' H' w' ∧ RepA P w' N H' ι' x z := by
  obtain ⟨k, xs, us, e, rfl, hn, rfl, h1, h2, h3⟩ := buildSlice_run h hl hr
  obtain ⟨ι', g3, g4, g5⟩ := newInts_sound hI hn (k := k) (xs := xs) (vs := us) h1 h2 e
  exact ⟨_, _, ι', h3, g3, g4, g5⟩

/-- A slice literal that is data from the first. -/
def buildSliceD (P : Program) (t : TypeId) (len : Nat) (parts : List (Nat × AV)) (nid : Nat) (H : Heap) : Option (AV × Heap) :=
  (buildSliceA P t len parts nid H).bind fun r => match r.2 nid with
    | some (.ints k xs) => some (.imm (.ints k xs), H.set nid .dead)
    | _ => none

theorem set_set {H : Heap} {id : Nat} (x y : Row) : (H.set id x).set id y = H.set id y := by
  funext q
  simp only [Heap.set]
  split <;> rfl

theorem buildSliceD_sound {t : TypeId} {len nid : Nat} {parts : List (Nat × AV)} {vs : Array (Nat × Value)} {x : AV} {H' : Heap} (hI : Inv P w0 S N0 H w N ι) (h : buildSliceD P t len parts nid H = some (x, H'))
    (hl : vs.size = parts.length) (hr : ∀ i (hi : i < parts.length) (hv : i < vs.size), vs[i].1 = parts[i].1 ∧ RepA P w N H ι parts[i].2 vs[i].2) :
    ∃ z w' N' ι', (Instr.buildSlice t len vs).run P w = .ok z w' ∧ Inv P w0 S N0 H' w' N' ι' ∧ Fwd N ι H w N' ι' H' w' ∧ RepA P w' N' H' ι' x z := by
  unfold buildSliceD at h
  simp only [Option.bind_eq_some_iff] at h
  obtain ⟨⟨x1, H1⟩, h0, h⟩ := h
  obtain ⟨k, xs, us, e, rfl, hn, rfl, h1, h2, h3⟩ := buildSlice_run h0 hl hr
  simp [Heap.set] at h
  obtain ⟨rfl, rfl⟩ := h
  obtain ⟨ι', g1, g2, g3⟩ := hI.alloc hn us e (.ints k xs) (fun ι' H' w' e1 e2 e3 hf => by
    refine .inr ⟨w.heap.size, us.size, us, e, by rw [e1]; simp, by rw [e3]; exact heap_alloc_new w _, rfl, h1, h2⟩)
  obtain ⟨k1, k2⟩ := g2.kill (id := nid) (r := .ints k xs) (by simp [Heap.set]) (N' := fun b => N b ∨ b = w.heap.size) (fun _ h => .inl h) (fun b hb => hb.imp (fun h => h) fun e => by subst e; exact ⟨hI.keeps.size, rfl, _, g1⟩)
  rw [set_set] at k1 k2
  refine ⟨_, _, _, ι', h3, k1, g3.trans k2, .imm ?_⟩
  exact .ints k xs w.heap.size 0 us.size (.inr rfl) h1 fun i hi => by
    rw [cell_of_blk (heap_alloc_new w _), Nat.zero_add]
    exact h2 i hi
/-- A slice literal of elements whose cells are data, data from the first. -/
def litCell : AV → Option D
  | .imm d => some d
  | _ => none
def partOne (ss : List Sh) (p : Nat × AV) : Option (Nat × List D) :=
  (cellsA p.2).bind fun cs => (cs.mapM litCell).bind fun ds => match (fixL ss ds).all D.one with
    | true => some (p.1, fixL ss ds)
    | false => none
/-- Cells, element by element: b, elements are structs. -/
def litHead (b : Bool) (s : Nat) (xs : List D) : D :=
  match b with
  | true => .agg (xs.take s)
  | false => xs.headD D.junk
def litRows (b : Bool) (s : Nat) : Nat → List D → List D
  | 0, _ => []
  | n + 1, xs => litHead b s xs :: litRows b s n (xs.drop s)
def buildSeqX (P : Program) (t : TypeId) (len : Nat) (parts : List (Nat × AV)) (nid : Nat) (H : Heap) : Option (Nat × List D) :=
  (elemT P t).bind fun e => (sizeT P e).bind fun s => (zeroT P e).bind fun z =>
    if (s = 1 ∨ (fieldsT P e).isSome = true) ∧ 0 < s ∧ z.cells.size = s ∧ z.cells.toList.all Value.oneCell' = true ∧ len * s ≤ 16777216 then (parts.mapM (partOne (shs P e))).bind fun ps =>
      (fillA (fun i => some (i * s, s)) (List.replicate (len * s) D.junk) ps).bind fun xs => match H nid with
        | none => some (s, litRows (fieldsT P e).isSome s len xs)
        | some _ => none
    else none

def buildSeqD (P : Program) (t : TypeId) (len : Nat) (parts : List (Nat × AV)) (nid : Nat) (H : Heap) : Option (AV × Heap) :=
  (buildSeqX P t len parts nid H).bind fun r => some (.imm (.seq r.1 r.2), H.set nid .dead)

/-- A slice literal of data that is a row of its own. -/
def buildSeqA (P : Program) (t : TypeId) (len : Nat) (parts : List (Nat × AV)) (nid : Nat) (H : Heap) : Option (AV × Heap) :=
  (buildSeqX P t len parts nid H).bind fun r => some (.all nid r.1, H.set nid (.ds r.1 r.2))

theorem litRows_length {b : Bool} {s : Nat} : ∀ (n : Nat) (xs : List D), (litRows b s n xs).length = n
  | 0, _ => rfl
  | n + 1, xs => by simp [litRows, litRows_length n]

theorem litRows_spec {b : Bool} {s : Nat} (hb : s = 1 ∨ b = true) (hs : 0 < s) : ∀ (n : Nat) (xs : List D), xs.length = n * s → (∀ x ∈ xs, x.one = true) →
    D.flat (litRows b s n xs) = xs ∧ ∀ y ∈ litRows b s n xs, y.cells.length = s
  | 0, xs, h, _ => by
    have : xs = [] := List.eq_nil_of_length_eq_zero (by simpa using h)
    subst this
    exact ⟨rfl, fun y hy => by simp [litRows] at hy⟩
  | n + 1, xs, h, h1 => by
    have hl : xs.length = n * s + s := by rw [h, Nat.succ_mul]
    obtain ⟨ih1, ih2⟩ := litRows_spec hb hs n (xs.drop s) (by simp [hl]) fun x hx => h1 x (List.mem_of_mem_drop hx)
    have hd : (litHead b s xs).cells = xs.take s := by
      cases b with
      | true => rfl
      | false =>
        obtain rfl : s = 1 := by simpa using hb
        cases xs with
        | nil => simp at hl
        | cons x xs =>
          have := h1 x (by simp)
          show D.cells x = _
          cases x <;> first | rfl | simp [D.one] at this
    have hc : litRows b s (n + 1) xs = litHead b s xs :: litRows b s n (xs.drop s) := rfl
    refine ⟨?_, fun y hy => ?_⟩
    · rw [hc]
      unfold D.flat at ih1 ⊢
      rw [List.flatMap_cons, hd, ih1, List.take_append_drop]
    · rw [hc] at hy
      rcases List.mem_cons.1 hy with rfl | hy
      · rw [hd]
        simp
        omega
      · exact ih2 y hy

theorem flat_one : ∀ {xs : List D}, (∀ x ∈ xs, x.one = true) → D.flat xs = xs
  | [], _ => rfl
  | x :: xs, h => by
    have h1 := h x (by simp)
    have e : x.cells = [x] := by cases x <;> first | rfl | simp [D.one] at h1
    have ih := flat_one (xs := xs) fun y hy => h y (by simp [hy])
    unfold D.flat at ih ⊢
    rw [List.flatMap_cons, e, ih]
    rfl

theorem newDs_sound (hI : Inv P w0 S N0 H w N ι) {nid : Nat} (hn : H nid = none) {xs : List D} {vs : Array Value} (hl : xs.length ≤ vs.size) (h1 : ∀ x ∈ xs, x.one = true) (hr : ∀ i (hi : i < xs.length), ∃ v, vs[i]? = some v ∧ RepD P w N xs[i] v) (e : TypeId) :
    ∃ ι', Inv P w0 S N0 (H.set nid (.ds 1 xs)) (w.alloc (.cells vs e)) N ι' ∧ Fwd N ι H w N ι' (H.set nid (.ds 1 xs)) (w.alloc (.cells vs e)) ∧
      RepA P (w.alloc (.cells vs e)) N (H.set nid (.ds 1 xs)) ι' (.all nid 1) (.slice (some ⟨w.heap.size, 0, none⟩) xs.length vs.size) := by
  have hfl := flat_one h1
  obtain ⟨ι', h1', h2, h3⟩ := hI.alloc hn vs e (.ds 1 xs) (fun ι' H' w' e1 e2 e3 hf => by
    refine ⟨fun x hx => by have := h1 x hx; cases x <;> first | rfl | simp [D.one] at this, .inr ⟨w.heap.size, vs.size, vs, e, by rw [e1]; simp, by rw [e3]; exact heap_alloc_new w _, rfl, by rw [hfl]; exact hl, fun i => vs.getD i Go.undef, fun i hi => ?_⟩⟩
    have hi' : i < xs.length := by rw [hfl] at hi; exact hi
    obtain ⟨v, q1, q2⟩ := hr i hi'
    have e4 : vs.getD i Go.undef = v := by simp [Array.getD_eq_getD_getElem?, q1]
    have e5 : (D.flat xs)[i] = xs[i] := by congr 1
    show vs[i]? = some (vs.getD i Go.undef) ∧ RepD P w' N (D.flat xs)[i] (vs.getD i Go.undef)
    rw [e4, e5]
    refine ⟨q1, ?_⟩
    have := (RepA.imm (H := H) (ι := ι) q2).fwd hf
    cases this with
    | imm h => exact h)
  refine ⟨ι', h2, h3, .all (by simp [Heap.set]) (.inr ⟨_, rfl⟩) hl fun r hr hlv => ?_⟩
  simp [Heap.set] at hr
  subst hr
  exact ⟨rfl, .inr ⟨_, _, h1', by simp, by simp, hl⟩⟩

/-- Data in a new block. -/
theorem newDsN_sound (hI : Inv P w0 S N0 H w N ι) {nid : Nat} (hn : H nid = none) {n cap : Nat} {xs : List D} {vs : Array Value} (hl : xs.length ≤ cap) (hsz : cap * n ≤ vs.size) (h1 : ∀ x ∈ xs, x.cells.length = n) (hr : ∀ i (hi : i < (D.flat xs).length), ∃ v, vs[i]? = some v ∧ RepD P w N (D.flat xs)[i] v) (e : TypeId) :
    ∃ ι', Inv P w0 S N0 (H.set nid (.ds n xs)) (w.alloc (.cells vs e)) N ι' ∧ Fwd N ι H w N ι' (H.set nid (.ds n xs)) (w.alloc (.cells vs e)) ∧
      RepA P (w.alloc (.cells vs e)) N (H.set nid (.ds n xs)) ι' (.all nid n) (.slice (some ⟨w.heap.size, 0, none⟩) xs.length cap) := by
  have hfl := flat_length xs h1
  have hle : (D.flat xs).length ≤ vs.size := by rw [hfl]; exact Nat.le_trans (Nat.mul_le_mul_right n hl) hsz
  obtain ⟨ι', h1', h2, h3⟩ := hI.alloc hn vs e (.ds n xs) (fun ι' H' w' e1 e2 e3 hf => by
    refine ⟨h1, .inr ⟨w.heap.size, vs.size, vs, e, by rw [e1]; simp, by rw [e3]; exact heap_alloc_new w _, rfl, hle, fun i => vs.getD i Go.undef, fun i hi => ?_⟩⟩
    obtain ⟨v, q1, q2⟩ := hr i hi
    have e4 : vs.getD i Go.undef = v := by simp [Array.getD_eq_getD_getElem?, q1]
    show vs[i]? = some (vs.getD i Go.undef) ∧ RepD P w' N (D.flat xs)[i] (vs.getD i Go.undef)
    rw [e4]
    refine ⟨q1, ?_⟩
    have := (RepA.imm (H := H) (ι := ι) q2).fwd hf
    cases this with
    | imm h => exact h)
  refine ⟨ι', h2, h3, .all (by simp [Heap.set]) (.inr ⟨_, rfl⟩) hl fun r hr hlv => ?_⟩
  simp [Heap.set] at hr
  subst hr
  exact ⟨rfl, .inr ⟨_, _, h1', by simp, by simpa using hsz, hl⟩⟩

theorem one_cells {d : D} (h : d.one = true) : d.cells = [d] := by
  cases d <;> first | rfl | (simp [D.one] at h; done)

theorem ofConst_one {v : Value} {d : D} (h : unImm (ofConst v) = some d) : d.one = true := by
  unfold ofConst at h
  split at h <;> simp [unImm] at h <;> subst h <;> rfl

theorem fixD_one {s : Sh} {d : D} (h : d.one = true) : (fixD s d).one = true := by
  unfold fixD
  split <;> first | rfl | exact h

theorem zeroD_rep {e : TypeId} {z : Value} {d : D} (hz : zeroT P e = some z) (h : zeroD P e = some d) : d.cells.length = z.cells.size ∧ ∀ q (hq : q < d.cells.length), RepD P w N d.cells[q] (z.cells.getD q Go.undef) := by
  unfold zeroD at h
  simp only [hz, Option.bind_some, Option.bind_eq_some_iff] at h
  obtain ⟨b, h1, ds, h2, h3⟩ := h
  obtain ⟨m1, m2⟩ := mapM_some h2
  simp only [List.length_map, Array.length_toList] at m1
  have hr : ∀ q (hq : q < ds.length), ds[q].one = true ∧ RepD P w N ds[q] (z.cells.getD q Go.undef) := fun q hq => by
    have h4 := m2 q (by simp; omega) hq
    simp only [List.getElem_map, Array.getElem_toList] at h4
    refine ⟨ofConst_one h4, ?_⟩
    have h5 := rep_ofConst (P := P) w N (fun _ => none) (fun _ => none) (z.cells[q]'(by omega))
    generalize ofConst (z.cells[q]'(by omega)) = av at h4 h5
    unfold unImm at h4
    split at h4 <;> simp at h4
    subst h4
    rw [show z.cells.getD q Go.undef = z.cells[q]'(by omega) by simp [show q < z.cells.size by omega]]
    cases h5
    assumption
  cases b with
  | true =>
    simp at h3
    subst h3
    refine ⟨by simp only [D.cells, fixL_length]; exact m1, fun q hq => ?_⟩
    simp only [D.cells, fixL_length] at hq
    exact fixL_rep _ ds q (by rw [fixL_length]; exact hq) hq (hr q hq).2
  | false =>
    simp only at h3
    split at h3
    · rename_i d'
      simp at h3
      subst h3
      obtain ⟨r1, r2⟩ := hr 0 (by simp)
      have ho := fixD_one (s := shT P e) r1
      have hc : (fixD (shT P e) d').cells = [fixD (shT P e) d'] := one_cells ho
      rw [hc]
      refine ⟨by simpa using m1, fun q hq => ?_⟩
      simp at hq
      subst hq
      exact fixD_rep r2
    · cases h3

theorem makeSeqA_sound {t : TypeId} {nid : Nat} {l c x : AV} {u v : Value} {H' : Heap} (hI : Inv P w0 S N0 H w N ι) (h : makeSeqA P t l c nid H = some (x, H')) (hl : RepA P w N H ι l u) (hc : RepA P w N H ι c v) :
    ∃ z w' ι', (Instr.makeSlice t u v).run P w = .ok z w' ∧ Inv P w0 S N0 H' w' N ι' ∧ Fwd N ι H w N ι' H' w' ∧ RepA P w' N H' ι' x z := by
  unfold makeSeqA at h
  simp only [Option.bind_eq_some_iff] at h
  obtain ⟨e, h1, info, h2, z, h4, d, h3, h5⟩ := h
  split at h5
  case h_2 => simp at h5
  rename_i k1 l k2 c
  split at h5
  case isFalse => simp at h5
  rename_i hcc
  obtain ⟨⟨hds, hdo, hzs, hpos⟩, hl0, hlc, hc60, hby⟩ := hcc
  split at h5 <;> simp at h5
  obtain ⟨rfl, rfl⟩ := h5
  rename_i hn
  have hu := elemT_spec h1
  cases hl with
  | imm hl =>
  cases hl
  cases hc with
  | imm hc =>
  cases hc
  obtain ⟨zl, zr⟩ := zeroD_rep (P := P) (w := w) (N := N) h4 h3
  have wl : IntKind.i64.wrap l = l := IntWalk.i64_in _ (by omega)
  have wc : IntKind.i64.wrap c = c := IntWalk.i64_in _ (by omega)
  have hcl : ∀ x ∈ List.replicate l.toNat d, x.cells.length = info.size := fun x hx => by rw [(List.mem_replicate.1 hx).2]; exact hds
  have hfl := flat_length _ hcl
  rw [List.length_replicate] at hfl
  have hmul : l.toNat * info.size ≤ c.toNat * info.size := Nat.mul_le_mul_right _ (by omega)
  obtain ⟨ι', g3, g4, g5⟩ := newDsN_sound hI hn (n := info.size) (cap := c.toNat) (xs := List.replicate l.toNat d) (vs := (Array.range (c.toNat * info.size)).map (z.cells[· % z.cells.size]!)) (by simp; omega) (by simp) hcl (fun i hi => by
    rw [hfl] at hi
    have ha : i / info.size < (List.replicate l.toNat d).length := by rw [List.length_replicate]; exact (Nat.div_lt_iff_lt_mul hpos).2 hi
    have hb : i % info.size < info.size := Nat.mod_lt _ hpos
    have eq : i / info.size * info.size + i % info.size = i := by rw [Nat.mul_comm]; exact Nat.div_add_mod i info.size
    have g1 := flat_get _ hcl (i / info.size) (i % info.size) ha hb
    rw [eq, List.getElem_replicate, List.getElem?_eq_getElem (show i < (D.flat (List.replicate l.toNat d)).length by rw [hfl]; exact hi), List.getElem?_eq_getElem (show i % info.size < d.cells.length by omega)] at g1
    refine ⟨z.cells.getD (i % info.size) Go.undef, ?_, ?_⟩
    · have h6 : i < c.toNat * info.size := by omega
      have h7 : i % info.size < z.cells.size := by omega
      rw [Array.getElem?_map, Array.getElem?_range, if_pos h6]
      simp only [Option.map_some, hzs]
      rw [getElem!_pos z.cells _ h7, Array.getD_eq_getD_getElem?, Array.getElem?_eq_getElem h7]
      rfl
    · rw [Option.some.inj g1]
      exact zr _ (by omega)) e
  simp only [List.length_replicate] at g5
  refine ⟨_, _, ι', ?_, g3, g4, g5⟩
  have hb2 : ¬ ((info.bytes : Int) * c > 281474976710656) := by omega
  simp only [Instr.makeSlice, Sem.run_bind, run_under hu, Result.andThen_ok, asInt, asIntOf, Sem.run_pure, run_typeInfo h2, wl, wc]
  have htl : (decide (c < 0) || decide ((info.bytes : Int) * c > 2 ^ 48)) = false := by
    rw [Bool.or_eq_false_iff]
    exact ⟨decide_eq_false (by omega), decide_eq_false (by simpa using hb2)⟩
  have hcond : ((decide (c < 0) || decide ((info.bytes : Int) * c > 2 ^ 48)) || decide (l < 0) || decide (l > c)) = false := by
    rw [htl]
    simp
    omega
  have hs1 : sizeT P e = some info.size := by simp [sizeT, h2]
  simp only [hcond, Bool.false_eq_true, if_false, Sem.run_bind, run_askRoom, Result.andThen_ok, run_sizeOf hs1]
  by_cases h0 : c.toNat * info.size = 0
  · rw [if_pos h0]
    simp only [Sem.run_bind, Sem.run_pure, Result.andThen_ok, newRow, run_newObj, h0]
    have e0 : ∀ (f g : Nat → Value), (Array.range 0).map f = (Array.range 0).map g := fun f g => by simp
    rw [e0 _ (z.cells[· % z.cells.size]!)]
    rfl
  · rw [if_neg h0]
    simp only [Sem.run_bind, run_zero h4, Sem.run_pure, Result.andThen_ok, newRow, run_newObj]
    rfl

theorem makeSliceA_sound {t : TypeId} {nid : Nat} {l c x : AV} {u v : Value} {H' : Heap} (hI : Inv P w0 S N0 H w N ι) (h : makeSliceA P t l c nid H = some (x, H')) (hl : RepA P w N H ι l u) (hc : RepA P w N H ι c v) :
    ∃ z w' ι', (Instr.makeSlice t u v).run P w = .ok z w' ∧ Inv P w0 S N0 H' w' N ι' ∧ Fwd N ι H w N ι' H' w' ∧ RepA P w' N H' ι' x z := by
  unfold makeSliceA at h
  split at h
  · exact makeIntsA_sound hI h hl hc
  · exact makeSeqA_sound hI h hl hc

theorem buildSeqX_sound {t : TypeId} {len nid : Nat} {parts : List (Nat × AV)} {vs : Array (Nat × Value)} {s0 : Nat} {ys : List D} (h : buildSeqX P t len parts nid H = some (s0, ys))
    (hl : vs.size = parts.length) (hr : ∀ i (hi : i < parts.length) (hv : i < vs.size), vs[i].1 = parts[i].1 ∧ RepA P w N H ι parts[i].2 vs[i].2) :
    H nid = none ∧ ys.length = len ∧ (∀ y ∈ ys, y.cells.length = s0) ∧ ∃ us e, (Instr.buildSlice t len vs).run P w = .ok (.slice (some ⟨w.heap.size, 0, none⟩) len len) (w.alloc (.cells us e)) ∧ len * s0 ≤ us.size ∧
      ∀ i (hi : i < (D.flat ys).length), us[i]? = some (us.getD i Go.undef) ∧ RepD P w N (D.flat ys)[i] (us.getD i Go.undef) := by
  unfold buildSeqX at h
  simp only [Option.bind_eq_some_iff] at h
  obtain ⟨e, h1, s, h2, z, h4, h5⟩ := h
  split at h5
  case isFalse => simp at h5
  rename_i hc
  obtain ⟨hb, hs0, hzs, hz1, hlen⟩ := hc
  simp only [Option.bind_eq_some_iff] at h5
  obtain ⟨ps, h6, xs, h7, h8⟩ := h5
  split at h8 <;> simp at h8
  obtain ⟨rfl, rfl⟩ := h8
  rename_i hn
  have hu := elemT_spec h1
  obtain ⟨g1, g2⟩ := mapM_some h6
  have hpq : ∀ i (hi : i < ps.length) (hq : i < vs.toList.length), ps[i].1 = vs.toList[i].1 ∧ vs.toList[i].2.cells.size = ps[i].2.length ∧
      ∀ j (hj : j < ps[i].2.length), (fun (d : D) v => d.one = true ∧ RepD P w N d v) ps[i].2[j] (vs.toList[i].2.cells.getD j Go.undef) := by
    intro i hi hq
    have hq' : i < vs.size := by simpa using hq
    have e1 := g2 i (by omega) hi
    obtain ⟨e2, e3⟩ := hr i (by omega) hq'
    unfold partOne at e1
    simp only [Option.bind_eq_some_iff] at e1
    obtain ⟨cs, c1, ds, c2, c3⟩ := e1
    split at c3
    case h_2 => simp at c3
    rename_i hone
    have e5 : (parts[i].1, fixL (shs P e) ds) = ps[i] := Option.some.inj c3
    obtain ⟨m1, m2, _⟩ := cellsA_sound c1 e3
    obtain ⟨n1, n2⟩ := mapM_some c2
    simp only [Array.getElem_toList, ← e5]
    refine ⟨e2.symm, by rw [m1, fixL_length, n1], fun j hj => ⟨List.all_eq_true.1 hone _ (List.getElem_mem _), ?_⟩⟩
    have hj0 := hj
    rw [fixL_length] at hj
    refine fixL_rep _ ds j hj0 hj ?_
    have k1 := n2 j (by omega) hj
    have k2 := m2 j (by omega)
    unfold litCell at k1
    split at k1 <;> simp at k1
    rename_i d hd
    rw [hd, k1] at k2
    cases k2 with
    | imm h => exact h
  have hz : ((Array.range (len * s)).map (z.cells[· % z.cells.size]!)).size = (List.replicate (len * s) D.junk).length := by simp
  obtain ⟨us, q1, q2, q3⟩ := fill_rel (fun (d : D) v => d.one = true ∧ RepD P w N d v) _ ps vs.toList _ ((Array.range (len * s)).map (z.cells[· % z.cells.size]!)) xs (by simp; omega) hpq hz
    (fun i hi => by
      simp only [List.length_replicate] at hi
      have hm : i % z.cells.size < z.cells.size := Nat.mod_lt _ (by omega)
      have e4 : ((Array.range (len * s)).map (z.cells[· % z.cells.size]!)).getD i Go.undef = z.cells[i % z.cells.size] := by
        simp [Array.getD_eq_getD_getElem?, hi, hm]
      rw [e4, List.getElem_replicate]
      refine ⟨rfl, .junk _ (List.all_eq_true.1 hz1 _ ?_)⟩
      exact Array.mem_toList_iff.2 (Array.getElem_mem hm)) h7
  have hxl : xs.length = len * s := by rw [fillA_length h7]; simp
  have hone : ∀ y ∈ xs, y.one = true := fun y hy => by
    obtain ⟨i, hi, rfl⟩ := List.getElem_of_mem hy
    exact (q3 i hi).1
  obtain ⟨hfl, hcl⟩ := litRows_spec hb hs0 len xs hxl hone
  have hcn := litRows_length (b := (fieldsT P e).isSome) (s := s) len xs
  have hrun : (Instr.buildSlice t len vs).run P w = .ok (.slice (some ⟨w.heap.size, 0, none⟩) len len) (w.alloc (.cells us e)) := by
    simp only [Instr.buildSlice, Sem.run_bind, run_under hu, Result.andThen_ok, run_sizeOf h2]
    rw [if_neg (by omega)]
    by_cases h0 : len * s = 0
    · rw [if_pos h0]
      simp only [Sem.run_bind, Sem.run_pure, Result.andThen_ok]
      have q1' : Instr.fill (fun i => some (i * s, s)) ((Array.range (len * s)).map ((#[] : Array Value)[· % (#[] : Array Value).size]!)) vs.toList = some us := by
        have e0 : Array.range 0 = #[] := rfl
        rw [h0] at q1 ⊢
        simp only [e0, Array.map_empty] at q1 ⊢
        exact q1
      simp only [q1', newRow, Sem.run_bind, run_newObj, Result.andThen_ok, Sem.run_pure]
      rfl
    · rw [if_neg h0]
      simp only [Sem.run_bind, run_zero h4, Sem.run_pure, Result.andThen_ok]
      simp only [q1, newRow, Sem.run_bind, run_newObj, Result.andThen_ok, Sem.run_pure]
      rfl
  have hget : ∀ i (hi : i < xs.length), us[i]? = some (us.getD i Go.undef) := fun i hi => by
    rw [Array.getD_eq_getD_getElem?, Array.getElem?_eq_getElem (by omega)]
    rfl
  refine ⟨hn, hcn, hcl, us, e, hrun, by omega, fun i hi => ?_⟩
  have hi' : i < xs.length := by rw [hfl] at hi; exact hi
  refine ⟨hget i hi', ?_⟩
  have := (q3 i hi').2
  simp only [hfl]
  exact this

theorem buildSeqA_sound {t : TypeId} {len nid : Nat} {parts : List (Nat × AV)} {vs : Array (Nat × Value)} {x : AV} {H' : Heap} (hI : Inv P w0 S N0 H w N ι) (h : buildSeqA P t len parts nid H = some (x, H'))
    (hl : vs.size = parts.length) (hr : ∀ i (hi : i < parts.length) (hv : i < vs.size), vs[i].1 = parts[i].1 ∧ RepA P w N H ι parts[i].2 vs[i].2) :
    ∃ z w' ι', (Instr.buildSlice t len vs).run P w = .ok z w' ∧ Inv P w0 S N0 H' w' N ι' ∧ Fwd N ι H w N ι' H' w' ∧ RepA P w' N H' ι' x z := by
  unfold buildSeqA at h
  simp only [Option.bind_eq_some_iff, Option.some.injEq, Prod.mk.injEq] at h
  obtain ⟨⟨s, ys⟩, h, rfl, rfl⟩ := h
  obtain ⟨hn, h1, h2, us, e, h3, h4, h5⟩ := buildSeqX_sound h hl hr
  obtain ⟨ι', g1, g2, g3⟩ := newDsN_sound hI hn (n := s) (cap := len) (xs := ys) (vs := us) (by omega) h4 h2 (fun i hi => ⟨_, h5 i hi⟩) e
  rw [h1] at g3
  exact ⟨_, _, ι', h3, g1, g2, g3⟩

theorem buildSeqD_sound {t : TypeId} {len nid : Nat} {parts : List (Nat × AV)} {vs : Array (Nat × Value)} {x : AV} {H' : Heap} (hI : Inv P w0 S N0 H w N ι) (h : buildSeqD P t len parts nid H = some (x, H'))
    (hl : vs.size = parts.length) (hr : ∀ i (hi : i < parts.length) (hv : i < vs.size), vs[i].1 = parts[i].1 ∧ RepA P w N H ι parts[i].2 vs[i].2) :
    ∃ z w' N' ι', (Instr.buildSlice t len vs).run P w = .ok z w' ∧ Inv P w0 S N0 H' w' N' ι' ∧ Fwd N ι H w N' ι' H' w' ∧ RepA P w' N' H' ι' x z := by
  unfold buildSeqD at h
  simp only [Option.bind_eq_some_iff, Option.some.injEq, Prod.mk.injEq] at h
  obtain ⟨⟨s, ys⟩, h, rfl, rfl⟩ := h
  obtain ⟨hn, h1, h2, us, e, h3, h4, h5⟩ := buildSeqX_sound h hl hr
  have hfl := flat_length _ h2
  obtain ⟨ι', k1, k2, k3⟩ := hI.alloc hn us e (.ds s ys) (fun ι' H' w' e1 e2 e3 hf => by
    refine ⟨h2, .inr ⟨w.heap.size, us.size, us, e, by rw [e1]; simp, by rw [e3]; exact heap_alloc_new w _, rfl, by rw [hfl, h1]; exact h4, fun i => us.getD i Go.undef, fun i hi => ?_⟩⟩
    exact ⟨(h5 i hi).1, (h5 i hi).2.mono (fun _ h => h) hf.hc⟩)
  obtain ⟨m1, m2⟩ := k2.kill (id := nid) (r := .ds s ys) (by simp [Heap.set]) (N' := fun b => N b ∨ b = w.heap.size) (fun _ h => .inl h) (fun b hb => hb.imp (fun h => h) fun e => by subst e; exact ⟨hI.keeps.size, rfl, _, k1⟩)
  rw [set_set] at m1 m2
  refine ⟨_, _, _, ι', h3, m1, k3.trans m2, .imm ?_⟩
  have := RepD.seq (P := P) (w := w.alloc (.cells us e)) (N := fun b => N b ∨ b = w.heap.size) s ys w.heap.size 0 len (fun i => us.getD i Go.undef) (.inr rfl) (by omega) h2 (fun i hi => by
    rw [cell_of_blk (heap_alloc_new w _), Nat.zero_add]
    exact (h5 i hi).1) fun i hi => (h5 i hi).2.mono (fun _ h => .inl h) fun b o hb => World.cell?_alloc_lt (a := ⟨b, o, none⟩) w _ (hI.lt b hb)
  rw [h1] at this
  exact this

/-- A slice literal: of integers, or of data. -/
def buildRow (P : Program) (t : TypeId) (len : Nat) (parts : List (Nat × AV)) (nid : Nat) (H : Heap) : Option (AV × Heap) :=
  match (elemT P t).bind (kindT P) with
  | some _ => buildSliceA P t len parts nid H
  | none => buildSeqA P t len parts nid H

theorem buildRow_sound {t : TypeId} {len nid : Nat} {parts : List (Nat × AV)} {vs : Array (Nat × Value)} {x : AV} {H' : Heap} (hI : Inv P w0 S N0 H w N ι) (h : buildRow P t len parts nid H = some (x, H'))
    (hl : vs.size = parts.length) (hr : ∀ i (hi : i < parts.length) (hv : i < vs.size), vs[i].1 = parts[i].1 ∧ RepA P w N H ι parts[i].2 vs[i].2) :
    ∃ z w' ι', (Instr.buildSlice t len vs).run P w = .ok z w' ∧ Inv P w0 S N0 H' w' N ι' ∧ Fwd N ι H w N ι' H' w' ∧ RepA P w' N H' ι' x z := by
  unfold buildRow at h
  split at h
  · exact buildSliceA_sound hI h hl hr
  · exact buildSeqA_sound hI h hl hr

/-- A slice literal that is data from the first: integers, or single cells that are data. -/
def buildLit (P : Program) (t : TypeId) (len : Nat) (parts : List (Nat × AV)) (nid : Nat) (H : Heap) : Option (AV × Heap) :=
  match (elemT P t).bind (kindT P) with
  | some _ => buildSliceD P t len parts nid H
  | none => buildSeqD P t len parts nid H

theorem buildLit_sound {t : TypeId} {len nid : Nat} {parts : List (Nat × AV)} {vs : Array (Nat × Value)} {x : AV} {H' : Heap} (hI : Inv P w0 S N0 H w N ι) (h : buildLit P t len parts nid H = some (x, H'))
    (hl : vs.size = parts.length) (hr : ∀ i (hi : i < parts.length) (hv : i < vs.size), vs[i].1 = parts[i].1 ∧ RepA P w N H ι parts[i].2 vs[i].2) :
    ∃ z w' N' ι', (Instr.buildSlice t len vs).run P w = .ok z w' ∧ Inv P w0 S N0 H' w' N' ι' ∧ Fwd N ι H w N' ι' H' w' ∧ RepA P w' N' H' ι' x z := by
  unfold buildLit at h
  split at h
  · exact buildSliceD_sound hI h hl hr
  · exact buildSeqD_sound hI h hl hr
end
end Go.Ab
