/-
  AN ABSTRACT LAYER, 9: slices that are made.
-/
import Derived.Test.YtjcfijhgkfdcoaaAbOp6
namespace Go.Ab
variable {P : Program}

section
variable {P : Program} {w : World} {N : Nat → Prop} {H : Heap} {ι : Place} {w0 : World} {S N0 : Nat → Prop}

theorem kindT_spec {t : TypeId} {k : IntKind} (h : kindT P t = some k) : P.underlying t = some (.int k) := by
  unfold kindT at h
  split at h <;> simp at h
  subst h
  assumption

theorem unInt_spec {k : IntKind} {x : AV} {n : Int} (h : unInt k x = some n) : x = .imm (.int k n) := by
  unfold unInt at h
  split at h
  · split at h <;> simp at h
    subst h
    rename_i hk
    rw [hk]
  · simp at h

/-- A new row of integers in a new block. -/
theorem newInts_sound (hI : Inv P w0 S N0 H w N ι) {nid : Nat} (hn : H nid = none) {k : IntKind} {xs : List Int} {vs : Array Value} (hl : xs.length ≤ vs.size) (hr : ∀ i (hi : i < xs.length), vs[i]? = some (.int k xs[i])) (e : TypeId) :
    ∃ ι', Inv P w0 S N0 (H.set nid (.ints k xs)) (w.alloc (.cells vs e)) N ι' ∧ Fwd N ι H w N ι' (H.set nid (.ints k xs)) (w.alloc (.cells vs e)) ∧
      RepA P (w.alloc (.cells vs e)) N (H.set nid (.ints k xs)) ι' (.all nid 1) (.slice (some ⟨w.heap.size, 0, none⟩) xs.length vs.size) := by
  obtain ⟨ι', h1, h2, h3⟩ := hI.alloc hn vs e (.ints k xs) (fun ι' H' w' e1 e2 e3 hf => by
    refine .inr ⟨w.heap.size, vs.size, vs, e, by rw [e1]; simp, by rw [e3]; exact heap_alloc_new w _, rfl, hl, hr⟩)
  refine ⟨ι', h2, h3, .all (by simp [Heap.set]) (.inr ⟨_, rfl⟩) hl fun r hr hlv => ?_⟩
  simp [Heap.set] at hr
  subst hr
  exact ⟨rfl, .inr ⟨_, _, h1, by simp, by simp, hl⟩⟩

theorem fillA_length {α : Type} {place : Nat → Option (Nat × Nat)} : ∀ {ps : List (Nat × List α)} {cs out : List α}, fillA place cs ps = some out → out.length = cs.length
  | [], cs, out, h => by simp [fillA] at h; subst h; rfl
  | (i, ys) :: ps, cs, out, h => by
    simp only [fillA, Option.bind_eq_some_iff] at h
    obtain ⟨⟨off, size⟩, h1, h2⟩ := h
    split at h2
    case isFalse => simp at h2
    rename_i hc
    rw [fillA_length h2, spl_length _ _ _ hc.2]

theorem buildSlice_run {t : TypeId} {len nid : Nat} {parts : List (Nat × AV)} {vs : Array (Nat × Value)} {x : AV} {H' : Heap} (h : buildSliceA P t len parts nid H = some (x, H'))
    (hl : vs.size = parts.length) (hr : ∀ i (hi : i < parts.length) (hv : i < vs.size), vs[i].1 = parts[i].1 ∧ RepA P w N H ι parts[i].2 vs[i].2) :
    ∃ k xs us e, x = .all nid 1 ∧ H nid = none ∧ H' = H.set nid (.ints k xs) ∧ xs.length ≤ us.size ∧ (∀ i (hi : i < xs.length), us[i]? = some (.int k xs[i])) ∧ (Instr.buildSlice t len vs).run P w = .ok (.slice (some ⟨w.heap.size, 0, none⟩) xs.length us.size) (w.alloc (.cells us e)) := by
  unfold buildSliceA at h
  simp only [Option.bind_eq_some_iff] at h
  obtain ⟨e, h1, s, h2, k, h3, z, h4, h5⟩ := h
  split at h5
  case h_2 => simp at h5
  rename_i k'
  split at h5
  case isFalse => simp at h5
  rename_i hc
  obtain ⟨rfl, rfl, hlen⟩ := hc
  simp only [Option.bind_eq_some_iff] at h5
  obtain ⟨ps, h6, xs, h7, h8⟩ := h5
  split at h8 <;> simp at h8
  obtain ⟨rfl, rfl⟩ := h8
  rename_i hn
  have hu := elemT_spec h1
  obtain ⟨g1, g2⟩ := mapM_some h6
  have hpq : ∀ i (hi : i < ps.length) (hq : i < vs.toList.length), ps[i].1 = vs.toList[i].1 ∧ vs.toList[i].2.cells.size = ps[i].2.length ∧
      ∀ j (hj : j < ps[i].2.length), (fun (n : Int) v => v = Value.int k' n) ps[i].2[j] (vs.toList[i].2.cells.getD j Go.undef) := by
    intro i hi hq
    have hq' : i < vs.size := by simpa using hq
    have e1 := g2 i (by omega) hi
    obtain ⟨e2, e3⟩ := hr i (by omega) hq'
    simp only [partInt, Option.map_eq_some_iff] at e1
    obtain ⟨n, e4, e5⟩ := e1
    rw [unInt_spec e4] at e3
    simp only [Array.getElem_toList, ← e5]
    cases he : vs[i].2 with
    | int k2 n2 =>
      rw [he] at e3
      cases e3 with
      | imm e3 =>
      cases e3
      refine ⟨e2.symm, rfl, fun j hj => ?_⟩
      simp at hj
      subst hj
      rfl
    | _ => rw [he] at e3; cases e3 with | imm e3 => cases e3
  have hz : ((Array.range (len * 1)).map ((Value.int k' 0).cells[· % (Value.int k' 0).cells.size]!)).size = (List.replicate len (0 : Int)).length := by simp
  obtain ⟨us, q1, q2, q3⟩ := fill_rel (fun (n : Int) v => v = Value.int k' n) _ ps vs.toList _ ((Array.range (len * 1)).map ((Value.int k' 0).cells[· % (Value.int k' 0).cells.size]!)) xs (by simp; omega) hpq hz
    (fun i hi => by
      simp at hi
      simp [hi, Value.cells, Nat.mod_one]) h7
  have hxl : xs.length = len := by rw [fillA_length h7]; simp
  refine ⟨k', xs, us, e, rfl, hn, rfl, by omega, (fun i hi => by rw [getD_some (d := Go.undef) (by omega), q3 i hi]), ?_⟩
  rw [q2, hxl]
  simp only [Instr.buildSlice, Sem.run_bind, run_under hu, Result.andThen_ok, run_sizeOf h2, Nat.mul_one]
  rw [if_neg (by omega)]
  by_cases h0 : len = 0
  · subst h0
    rw [if_pos rfl]
    simp only [Sem.run_bind, Sem.run_pure, Result.andThen_ok]
    have q1' : Instr.fill (fun i => some (i * 1, 1)) ((Array.range 0).map ((#[] : Array Value)[· % (#[] : Array Value).size]!)) vs.toList = some us := by
      have e0 : Array.range 0 = #[] := rfl
      simp only [Nat.mul_one, e0, Array.map_empty] at q1 ⊢
      exact q1
    simp only [Nat.mul_one] at q1'
    simp only [q1', newRow, Sem.run_bind, run_newObj, Result.andThen_ok, Sem.run_pure]
    rfl
  · rw [if_neg h0]
    simp only [Sem.run_bind, run_zero h4, Sem.run_pure, Result.andThen_ok]
    simp only [Nat.mul_one] at q1
    simp only [q1, newRow, Sem.run_bind, run_newObj, Result.andThen_ok, Sem.run_pure]
    rfl

theorem makeIntsA_sound {t : TypeId} {nid : Nat} {l c x : AV} {u v : Value} {H' : Heap} (hI : Inv P w0 S N0 H w N ι) (h : makeIntsA P t l c nid H = some (x, H')) (hl : RepA P w N H ι l u) (hc : RepA P w N H ι c v) :
    ∃ z w' ι', (Instr.makeSlice t u v).run P w = .ok z w' ∧ Inv P w0 S N0 H' w' N ι' ∧ Fwd N ι H w N ι' H' w' ∧ RepA P w' N H' ι' x z := by
  unfold makeIntsA at h
  simp only [Option.bind_eq_some_iff] at h
  obtain ⟨e, h1, info, h2, k, h3, z, h4, h5⟩ := h
  split at h5
  case h_2 => simp at h5
  rename_i k' k1 l k2 c
  split at h5
  case isFalse => simp at h5
  rename_i hcc
  obtain ⟨rfl, hsz, hl0, hlc, hc60, hby⟩ := hcc
  split at h5 <;> simp at h5
  obtain ⟨rfl, rfl⟩ := h5
  rename_i hn
  have hu := elemT_spec h1
  cases hl with
  | imm hl =>
  cases hl
  cases hc with
  | imm hc =>
  cases hc
  have wl : IntKind.i64.wrap l = l := IntWalk.i64_in _ (by omega)
  have wc : IntKind.i64.wrap c = c := IntWalk.i64_in _ (by omega)
  obtain ⟨ι', g3, g4, g5⟩ := newInts_sound hI hn (k := k') (xs := List.replicate l.toNat 0) (vs := (Array.range c.toNat).map fun _ => Value.int k' 0) (by simp; omega) (fun i hi => by
    have hi' : i < l.toNat := by simpa using hi
    have hic : i < c.toNat := by omega
    simp [hic]) e
  simp only [List.length_replicate, Array.size_map, Array.size_range] at g5
  refine ⟨_, _, ι', ?_, g3, g4, g5⟩
  have hb2 : ¬ ((info.bytes : Int) * c > 281474976710656) := by omega
  simp only [Instr.makeSlice, Sem.run_bind, run_under hu, Result.andThen_ok, asInt, asIntOf, Sem.run_pure, run_typeInfo h2, wl, wc]
  have htl : (decide (c < 0) || decide ((info.bytes : Int) * c > 2 ^ 48)) = false := by
    rw [Bool.or_eq_false_iff]
    exact ⟨decide_eq_false (by omega), decide_eq_false (by simpa using hb2)⟩
  have hcond : ((decide (c < 0) || decide ((info.bytes : Int) * c > 2 ^ 48)) || decide (l < 0) || decide (l > c)) = false := by
    rw [htl]
    simp
    omega
  have hs1 : sizeT P e = some 1 := by simp [sizeT, h2, hsz]
  simp only [hcond, Bool.false_eq_true, if_false, Sem.run_bind, run_askRoom, Result.andThen_ok, run_sizeOf hs1, Nat.mul_one]
  by_cases h0 : c.toNat = 0
  · rw [if_pos h0]
    simp only [Sem.run_bind, Sem.run_pure, Result.andThen_ok, newRow, run_newObj, h0]
    have e0 : ∀ (f g : Nat → Value), (Array.range 0).map f = (Array.range 0).map g := fun f g => by simp
    rw [e0 _ (fun _ => Value.int k' 0)]
    rfl
  · rw [if_neg h0]
    simp only [Sem.run_bind, run_zero h4, Sem.run_pure, Result.andThen_ok, newRow, run_newObj]
    rw [show ((Array.range c.toNat).map fun x => (Value.int k' 0).cells[x % (Value.int k' 0).cells.size]!) = (Array.range c.toNat).map fun _ => Value.int k' 0 from by
      congr 1
      funext x
      simp [Value.cells, Nat.mod_one]]
    rfl

theorem buildSliceA_sound {t : TypeId} {len nid : Nat} {parts : List (Nat × AV)} {vs : Array (Nat × Value)} {x : AV} {H' : Heap} (hI : Inv P w0 S N0 H w N ι) (h : buildSliceA P t len parts nid H = some (x, H'))
    (hl : vs.size = parts.length) (hr : ∀ i (hi : i < parts.length) (hv : i < vs.size), vs[i].1 = parts[i].1 ∧ RepA P w N H ι parts[i].2 vs[i].2) :
    ∃ z w' ι', (Instr.buildSlice t len vs).run P w = .ok z w' ∧ Inv P w0 S N0 H' w' N ι' ∧ Fwd N ι H w N ι' H' w' ∧ RepA P w' N H' ι' x z := by
  obtain ⟨k, xs, us, e, rfl, hn, rfl, h1, h2, h3⟩ := buildSlice_run h hl hr
  obtain ⟨ι', g3, g4, g5⟩ := newInts_sound hI hn (k := k) (xs := xs) (vs := us) h1 h2 e
  exact ⟨_, _, ι', h3, g3, g4, g5⟩

/-- A slice literal that is data from the first. -/
def buildSliceD (P : Program) (t : TypeId) (len : Nat) (parts : List (Nat × AV)) (nid : Nat) (H : Heap) : Option (AV × Heap) :=
  (buildSliceA P t len parts nid H).bind fun r => match r.2 nid with
    | some (.ints k xs) => some (.imm (.ints k xs), H.set nid .dead)
    | _ => none

theorem set_set {H : Heap} {id : Nat} (x y : Row) : (H.set id x).set id y = H.set id y := by
  funext q
  simp only [Heap.set]
  split <;> rfl

theorem buildSliceD_sound {t : TypeId} {len nid : Nat} {parts : List (Nat × AV)} {vs : Array (Nat × Value)} {x : AV} {H' : Heap} (hI : Inv P w0 S N0 H w N ι) (h : buildSliceD P t len parts nid H = some (x, H'))
    (hl : vs.size = parts.length) (hr : ∀ i (hi : i < parts.length) (hv : i < vs.size), vs[i].1 = parts[i].1 ∧ RepA P w N H ι parts[i].2 vs[i].2) :
    ∃ z w' N' ι', (Instr.buildSlice t len vs).run P w = .ok z w' ∧ Inv P w0 S N0 H' w' N' ι' ∧ Fwd N ι H w N' ι' H' w' ∧ RepA P w' N' H' ι' x z := by
  unfold buildSliceD at h
  simp only [Option.bind_eq_some_iff] at h
  obtain ⟨⟨x1, H1⟩, h0, h⟩ := h
  obtain ⟨k, xs, us, e, rfl, hn, rfl, h1, h2, h3⟩ := buildSlice_run h0 hl hr
  simp [Heap.set] at h
  obtain ⟨rfl, rfl⟩ := h
  obtain ⟨ι', g1, g2, g3⟩ := hI.alloc hn us e (.ints k xs) (fun ι' H' w' e1 e2 e3 hf => by
    refine .inr ⟨w.heap.size, us.size, us, e, by rw [e1]; simp, by rw [e3]; exact heap_alloc_new w _, rfl, h1, h2⟩)
  obtain ⟨k1, k2⟩ := g2.kill (id := nid) (r := .ints k xs) (by simp [Heap.set]) (N' := fun b => N b ∨ b = w.heap.size) (fun _ h => .inl h) (fun b hb => hb.imp (fun h => h) fun e => by subst e; exact ⟨hI.keeps.size, rfl, _, g1⟩)
  rw [set_set] at k1 k2
  refine ⟨_, _, _, ι', h3, k1, g3.trans k2, .imm ?_⟩
  exact .ints k xs w.heap.size 0 us.size (.inr rfl) h1 fun i hi => by
    rw [cell_of_blk (heap_alloc_new w _), Nat.zero_add]
    exact h2 i hi
/-- A slice literal of single cells that are data, data from the first. -/
def partOne (p : Nat × AV) : Option (Nat × List D) :=
  match p.2 with
  | .imm d => match d.one with
    | true => some (p.1, [d])
    | false => none
  | _ => none
def buildSeqD (P : Program) (t : TypeId) (len : Nat) (parts : List (Nat × AV)) (nid : Nat) (H : Heap) : Option (AV × Heap) :=
  (elemT P t).bind fun e => (sizeT P e).bind fun s => (zeroT P e).bind fun z =>
    if s = 1 ∧ z.oneCell' = true ∧ len ≤ 16777216 then (parts.mapM partOne).bind fun ps =>
      (fillA (fun i => some (i, 1)) (List.replicate len D.junk) ps).bind fun xs => match H nid with
        | none => some (.imm (.seq 1 xs), H.set nid .dead)
        | some _ => none
    else none

theorem flat_one : ∀ {xs : List D}, (∀ x ∈ xs, x.one = true) → D.flat xs = xs
  | [], _ => rfl
  | x :: xs, h => by
    have h1 := h x (by simp)
    have e : x.cells = [x] := by cases x <;> first | rfl | simp [D.one] at h1
    have ih := flat_one (xs := xs) fun y hy => h y (by simp [hy])
    unfold D.flat at ih ⊢
    rw [List.flatMap_cons, e, ih]
    rfl

theorem newDs_sound (hI : Inv P w0 S N0 H w N ι) {nid : Nat} (hn : H nid = none) {xs : List D} {vs : Array Value} (hl : xs.length ≤ vs.size) (h1 : ∀ x ∈ xs, x.one = true) (hr : ∀ i (hi : i < xs.length), ∃ v, vs[i]? = some v ∧ RepD P w N xs[i] v) (e : TypeId) :
    ∃ ι', Inv P w0 S N0 (H.set nid (.ds 1 xs)) (w.alloc (.cells vs e)) N ι' ∧ Fwd N ι H w N ι' (H.set nid (.ds 1 xs)) (w.alloc (.cells vs e)) ∧
      RepA P (w.alloc (.cells vs e)) N (H.set nid (.ds 1 xs)) ι' (.all nid 1) (.slice (some ⟨w.heap.size, 0, none⟩) xs.length vs.size) := by
  have hfl := flat_one h1
  obtain ⟨ι', h1', h2, h3⟩ := hI.alloc hn vs e (.ds 1 xs) (fun ι' H' w' e1 e2 e3 hf => by
    refine ⟨fun x hx => by have := h1 x hx; cases x <;> first | rfl | simp [D.one] at this, .inr ⟨w.heap.size, vs.size, vs, e, by rw [e1]; simp, by rw [e3]; exact heap_alloc_new w _, rfl, by rw [hfl]; exact hl, fun i => vs.getD i Go.undef, fun i hi => ?_⟩⟩
    have hi' : i < xs.length := by rw [hfl] at hi; exact hi
    obtain ⟨v, q1, q2⟩ := hr i hi'
    have e4 : vs.getD i Go.undef = v := by simp [Array.getD_eq_getD_getElem?, q1]
    have e5 : (D.flat xs)[i] = xs[i] := by congr 1
    show vs[i]? = some (vs.getD i Go.undef) ∧ RepD P w' N (D.flat xs)[i] (vs.getD i Go.undef)
    rw [e4, e5]
    refine ⟨q1, ?_⟩
    have := (RepA.imm (H := H) (ι := ι) q2).fwd hf
    cases this with
    | imm h => exact h)
  refine ⟨ι', h2, h3, .all (by simp [Heap.set]) (.inr ⟨_, rfl⟩) hl fun r hr hlv => ?_⟩
  simp [Heap.set] at hr
  subst hr
  exact ⟨rfl, .inr ⟨_, _, h1', by simp, by simp, hl⟩⟩

theorem makeSeqA_sound {t : TypeId} {nid : Nat} {l c x : AV} {u v : Value} {H' : Heap} (hI : Inv P w0 S N0 H w N ι) (h : makeSeqA P t l c nid H = some (x, H')) (hl : RepA P w N H ι l u) (hc : RepA P w N H ι c v) :
    ∃ z w' ι', (Instr.makeSlice t u v).run P w = .ok z w' ∧ Inv P w0 S N0 H' w' N ι' ∧ Fwd N ι H w N ι' H' w' ∧ RepA P w' N H' ι' x z := by
  unfold makeSeqA at h
  simp only [Option.bind_eq_some_iff] at h
  obtain ⟨e, h1, info, h2, k, h3, z, h4, h5⟩ := h
  split at h5
  case h_2 => simp at h5
  rename_i k1 l k2 c
  split at h5
  case isFalse => simp at h5
  rename_i hcc
  obtain ⟨hsz, hl0, hlc, hc60, hby⟩ := hcc
  split at h5 <;> simp at h5
  obtain ⟨rfl, rfl⟩ := h5
  rename_i hn
  have hu := elemT_spec h1
  cases hl with
  | imm hl =>
  cases hl
  cases hc with
  | imm hc =>
  cases hc
  have wl : IntKind.i64.wrap l = l := IntWalk.i64_in _ (by omega)
  have wc : IntKind.i64.wrap c = c := IntWalk.i64_in _ (by omega)
  obtain ⟨ι', g3, g4, g5⟩ := newDs_sound hI hn (xs := List.replicate l.toNat (D.ints k [])) (vs := (Array.range c.toNat).map fun _ => Value.slice none 0 0) (by simp; omega) (fun x hx => by rw [(List.mem_replicate.1 hx).2]; rfl) (fun i hi => by
    have hi' : i < l.toNat := by simpa using hi
    have hic : i < c.toNat := by omega
    exact ⟨Value.slice none 0 0, by simp [hic], by rw [List.getElem_replicate]; exact .ints0 k none 0⟩) e
  simp only [List.length_replicate, Array.size_map, Array.size_range] at g5
  refine ⟨_, _, ι', ?_, g3, g4, g5⟩
  have hb2 : ¬ ((info.bytes : Int) * c > 281474976710656) := by omega
  simp only [Instr.makeSlice, Sem.run_bind, run_under hu, Result.andThen_ok, asInt, asIntOf, Sem.run_pure, run_typeInfo h2, wl, wc]
  have htl : (decide (c < 0) || decide ((info.bytes : Int) * c > 2 ^ 48)) = false := by
    rw [Bool.or_eq_false_iff]
    exact ⟨decide_eq_false (by omega), decide_eq_false (by simpa using hb2)⟩
  have hcond : ((decide (c < 0) || decide ((info.bytes : Int) * c > 2 ^ 48)) || decide (l < 0) || decide (l > c)) = false := by
    rw [htl]
    simp
    omega
  have hs1 : sizeT P e = some 1 := by simp [sizeT, h2, hsz]
  simp only [hcond, Bool.false_eq_true, if_false, Sem.run_bind, run_askRoom, Result.andThen_ok, run_sizeOf hs1, Nat.mul_one]
  by_cases h0 : c.toNat = 0
  · rw [if_pos h0]
    simp only [Sem.run_bind, Sem.run_pure, Result.andThen_ok, newRow, run_newObj, h0]
    have e0 : ∀ (f g : Nat → Value), (Array.range 0).map f = (Array.range 0).map g := fun f g => by simp
    rw [e0 _ (fun _ => Value.slice none 0 0)]
    rfl
  · rw [if_neg h0]
    simp only [Sem.run_bind, run_zero h4, Sem.run_pure, Result.andThen_ok, newRow, run_newObj]
    rw [show ((Array.range c.toNat).map fun x => (Value.slice none 0 0).cells[x % (Value.slice none 0 0).cells.size]!) = (Array.range c.toNat).map fun _ => Value.slice none 0 0 from by
      congr 1
      funext x
      simp [Value.cells, Nat.mod_one]]
    rfl

theorem makeSliceA_sound {t : TypeId} {nid : Nat} {l c x : AV} {u v : Value} {H' : Heap} (hI : Inv P w0 S N0 H w N ι) (h : makeSliceA P t l c nid H = some (x, H')) (hl : RepA P w N H ι l u) (hc : RepA P w N H ι c v) :
    ∃ z w' ι', (Instr.makeSlice t u v).run P w = .ok z w' ∧ Inv P w0 S N0 H' w' N ι' ∧ Fwd N ι H w N ι' H' w' ∧ RepA P w' N H' ι' x z := by
  unfold makeSliceA at h
  split at h
  · exact makeIntsA_sound hI h hl hc
  · exact makeSeqA_sound hI h hl hc

theorem buildSeqD_sound {t : TypeId} {len nid : Nat} {parts : List (Nat × AV)} {vs : Array (Nat × Value)} {x : AV} {H' : Heap} (hI : Inv P w0 S N0 H w N ι) (h : buildSeqD P t len parts nid H = some (x, H'))
    (hl : vs.size = parts.length) (hr : ∀ i (hi : i < parts.length) (hv : i < vs.size), vs[i].1 = parts[i].1 ∧ RepA P w N H ι parts[i].2 vs[i].2) :
    ∃ z w' N' ι', (Instr.buildSlice t len vs).run P w = .ok z w' ∧ Inv P w0 S N0 H' w' N' ι' ∧ Fwd N ι H w N' ι' H' w' ∧ RepA P w' N' H' ι' x z := by
  unfold buildSeqD at h
  simp only [Option.bind_eq_some_iff] at h
  obtain ⟨e, h1, s, h2, z, h4, h5⟩ := h
  split at h5
  case isFalse => simp at h5
  rename_i hc
  obtain ⟨rfl, hz1, hlen⟩ := hc
  simp only [Option.bind_eq_some_iff] at h5
  obtain ⟨ps, h6, xs, h7, h8⟩ := h5
  split at h8 <;> simp at h8
  obtain ⟨rfl, rfl⟩ := h8
  rename_i hn
  have hu := elemT_spec h1
  have hzc := cells_one hz1
  obtain ⟨g1, g2⟩ := mapM_some h6
  have hpq : ∀ i (hi : i < ps.length) (hq : i < vs.toList.length), ps[i].1 = vs.toList[i].1 ∧ vs.toList[i].2.cells.size = ps[i].2.length ∧
      ∀ j (hj : j < ps[i].2.length), (fun (d : D) v => d.one = true ∧ RepD P w N d v) ps[i].2[j] (vs.toList[i].2.cells.getD j Go.undef) := by
    intro i hi hq
    have hq' : i < vs.size := by simpa using hq
    have e1 := g2 i (by omega) hi
    obtain ⟨e2, e3⟩ := hr i (by omega) hq'
    unfold partOne at e1
    split at e1
    case h_2 => simp at e1
    rename_i d hd
    split at e1
    case h_2 => simp at e1
    rename_i hone
    have e5 : (parts[i].1, [d]) = ps[i] := Option.some.inj e1
    rw [hd] at e3
    cases e3 with
    | imm e3 =>
    have hvc := cells_one (e3.one hone)
    simp only [Array.getElem_toList, ← e5]
    refine ⟨e2.symm, by rw [hvc]; rfl, fun j hj => ?_⟩
    simp at hj
    subst hj
    rw [hvc]
    exact ⟨hone, e3⟩
  have hz : ((Array.range (len * 1)).map (z.cells[· % z.cells.size]!)).size = (List.replicate len D.junk).length := by simp
  obtain ⟨us, q1, q2, q3⟩ := fill_rel (fun (d : D) v => d.one = true ∧ RepD P w N d v) _ ps vs.toList _ ((Array.range (len * 1)).map (z.cells[· % z.cells.size]!)) xs (by simp; omega) hpq hz
    (fun i hi => by
      simp at hi
      rw [hzc]
      simp [hi, Nat.mod_one]
      exact ⟨rfl, .junk _ hz1⟩) h7
  have hxl : xs.length = len := by rw [fillA_length h7]; simp
  have hone : ∀ y ∈ xs, y.one = true := fun y hy => by
    obtain ⟨i, hi, rfl⟩ := List.getElem_of_mem hy
    exact (q3 i hi).1
  have hfl := flat_one hone
  have hrun : (Instr.buildSlice t len vs).run P w = .ok (.slice (some ⟨w.heap.size, 0, none⟩) xs.length us.size) (w.alloc (.cells us e)) := by
    rw [q2, hxl]
    simp only [Instr.buildSlice, Sem.run_bind, run_under hu, Result.andThen_ok, run_sizeOf h2, Nat.mul_one]
    rw [if_neg (by omega)]
    by_cases h0 : len = 0
    · subst h0
      rw [if_pos rfl]
      simp only [Sem.run_bind, Sem.run_pure, Result.andThen_ok]
      have q1' : Instr.fill (fun i => some (i * 1, 1)) ((Array.range 0).map ((#[] : Array Value)[· % (#[] : Array Value).size]!)) vs.toList = some us := by
        have e0 : Array.range 0 = #[] := rfl
        simp only [Nat.mul_one, e0, Array.map_empty] at q1 ⊢
        exact q1
      simp only [Nat.mul_one] at q1'
      simp only [q1', newRow, Sem.run_bind, run_newObj, Result.andThen_ok, Sem.run_pure]
      rfl
    · rw [if_neg h0]
      simp only [Sem.run_bind, run_zero h4, Sem.run_pure, Result.andThen_ok]
      simp only [Nat.mul_one] at q1
      simp only [q1, newRow, Sem.run_bind, run_newObj, Result.andThen_ok, Sem.run_pure]
      rfl
  have hget : ∀ i (hi : i < xs.length), us[i]? = some (us.getD i Go.undef) := fun i hi => by
    rw [Array.getD_eq_getD_getElem?, Array.getElem?_eq_getElem (by omega)]
    rfl
  have hcl : ∀ y ∈ xs, y.cells.length = 1 := fun y hy => by
    have := hone y hy
    cases y <;> first | rfl | simp [D.one] at this
  obtain ⟨ι', k1, k2, k3⟩ := hI.alloc hn us e (.ds 1 xs) (fun ι' H' w' e1 e2 e3 hf => by
    refine ⟨hcl, .inr ⟨w.heap.size, us.size, us, e, by rw [e1]; simp, by rw [e3]; exact heap_alloc_new w _, rfl, by rw [hfl]; omega, fun i => us.getD i Go.undef, fun i hi => ?_⟩⟩
    have hi' : i < xs.length := by rw [hfl] at hi; exact hi
    refine ⟨hget i hi', ?_⟩
    have := (q3 i hi').2
    simp only [hfl]
    exact this.mono (fun _ h => h) hf.hc)
  obtain ⟨m1, m2⟩ := k2.kill (id := nid) (r := .ds 1 xs) (by simp [Heap.set]) (N' := fun b => N b ∨ b = w.heap.size) (fun _ h => .inl h) (fun b hb => hb.imp (fun h => h) fun e => by subst e; exact ⟨hI.keeps.size, rfl, _, k1⟩)
  rw [set_set] at m1 m2
  refine ⟨_, _, _, ι', hrun, m1, k3.trans m2, .imm ?_⟩
  refine .seq 1 xs w.heap.size 0 us.size (fun i => us.getD i Go.undef) (.inr rfl) (by omega) hcl (fun i hi => ?_) fun i hi => ?_
  · rw [cell_of_blk (heap_alloc_new w _), Nat.zero_add]
    exact hget i (by rw [hfl] at hi; exact hi)
  · have hi' : i < xs.length := by rw [hfl] at hi; exact hi
    have := (q3 i hi').2
    simp only [hfl]
    exact this.mono (fun _ h => .inl h) fun b o hb => World.cell?_alloc_lt (a := ⟨b, o, none⟩) w _ (hI.lt b hb)

/-- A slice literal that is data from the first: integers, or single cells that are data. -/
def buildLit (P : Program) (t : TypeId) (len : Nat) (parts : List (Nat × AV)) (nid : Nat) (H : Heap) : Option (AV × Heap) :=
  match (elemT P t).bind (kindT P) with
  | some _ => buildSliceD P t len parts nid H
  | none => buildSeqD P t len parts nid H

theorem buildLit_sound {t : TypeId} {len nid : Nat} {parts : List (Nat × AV)} {vs : Array (Nat × Value)} {x : AV} {H' : Heap} (hI : Inv P w0 S N0 H w N ι) (h : buildLit P t len parts nid H = some (x, H'))
    (hl : vs.size = parts.length) (hr : ∀ i (hi : i < parts.length) (hv : i < vs.size), vs[i].1 = parts[i].1 ∧ RepA P w N H ι parts[i].2 vs[i].2) :
    ∃ z w' N' ι', (Instr.buildSlice t len vs).run P w = .ok z w' ∧ Inv P w0 S N0 H' w' N' ι' ∧ Fwd N ι H w N' ι' H' w' ∧ RepA P w' N' H' ι' x z := by
  unfold buildLit at h
  split at h
  · exact buildSliceD_sound hI h hl hr
  · exact buildSeqD_sound hI h hl hr
end
end Go.Ab
