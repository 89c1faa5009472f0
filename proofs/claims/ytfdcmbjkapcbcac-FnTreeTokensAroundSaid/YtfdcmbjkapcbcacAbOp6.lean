/-
  AN ABSTRACT LAYER, 8: operations that make memory.
-/
import Derived.Test.YtfdcmbjkapcbcacAbOp5
namespace Go.Ab
variable {P : Program}

/-- The zero value of a type. -/
def zeroT (P : Program) (t : TypeId) : Option Value := (P.info? t).bind (·.zero)

/-- What an operation that makes memory comes to: its value, the rows behind it. 'nid': the name of the new row. -/
def allocA (P : Program) (t : TypeId) (nid : Nat) (H : Heap) : Option (AV × Heap) :=
  (zeroT P t).bind fun z => match H nid with
    | none => some (.ptr nid 0 0, H.set nid (.box (z.cells.toList.map ofConst)))
    | some _ => none

def boxA (nid : Nat) (H : Heap) (x : AV) : Option (AV × Heap) :=
  (cellsA x).bind fun cs => match H nid with
    | none => some (.ptr nid 0 0, H.set nid (.box cs))
    | some _ => none

/-- Parts laid into cells. -/
def fillA {α : Type} (place : Nat → Option (Nat × Nat)) (cs : List α) : List (Nat × List α) → Option (List α)
  | [] => some cs
  | (i, ys) :: rest => (place i).bind fun (off, size) => if ys.length = size ∧ off + ys.length ≤ cs.length then fillA place (spl cs off ys) rest else none

def fieldPlaces (P : Program) (fs : Array Field) : Option (Array (Nat × Nat)) :=
  fs.mapM fun f => (sizeT P f.type).map fun n => (f.offset, n)

def partCells (p : Nat × AV) : Option (Nat × List AV) := (cellsA p.2).map fun cs => (p.1, cs)

def buildA (P : Program) (t : TypeId) (parts : List (Nat × AV)) : Option AV :=
  (zeroT P t).bind fun z => (parts.mapM partCells).bind fun ps =>
    match P.underlying t with
    | some (.struct fs) => (fieldPlaces P fs).bind fun pl => (fillA (pl[·]?) (z.cells.toList.map ofConst) ps).map AV.agg
    | some (.array _ e) => (sizeT P e).bind fun s => (fillA (fun i => some (i * s, s)) (z.cells.toList.map ofConst) ps).map AV.agg
    | _ => none

def unInt (k : IntKind) : AV → Option Int
  | .imm (.int k' n) => if k' = k then some n else none
  | _ => none

def partInt (k : IntKind) (p : Nat × AV) : Option (Nat × List Int) := (unInt k p.2).map fun n => (p.1, [n])

/-- A slice literal of integers. -/
def buildSliceA (P : Program) (t : TypeId) (len : Nat) (parts : List (Nat × AV)) (nid : Nat) (H : Heap) : Option (AV × Heap) :=
  (elemT P t).bind fun e => (sizeT P e).bind fun s => (kindT P e).bind fun k => (zeroT P e).bind fun z =>
    match z with
    | .int k' 0 => if k' = k ∧ s = 1 ∧ len ≤ 16777216 then (parts.mapM (partInt k)).bind fun ps =>
        (fillA (fun i => some (i, 1)) (List.replicate len 0) ps).bind fun xs => match H nid with
          | none => some (.all nid 1, H.set nid (.ints k xs))
          | some _ => none
        else none
    | _ => none

/-- make of integers. -/
def makeIntsA (P : Program) (t : TypeId) (l c : AV) (nid : Nat) (H : Heap) : Option (AV × Heap) :=
  (elemT P t).bind fun e => (P.info? e).bind fun info => (kindT P e).bind fun k => (zeroT P e).bind fun z =>
    match z, l, c with
    | .int k' 0, .imm (.int _ l), .imm (.int _ c) =>
      if k' = k ∧ info.size = 1 ∧ 0 ≤ l ∧ l ≤ c ∧ c ≤ 1152921504606846976 ∧ info.bytes * c ≤ 281474976710656 then match H nid with
        | none => some (.all nid 1, H.set nid (.ints k (List.replicate l.toNat 0)))
        | some _ => none
      else none
    | _, _, _ => none

/-- The zero value of a type, as data. -/
def zeroD (P : Program) (e : TypeId) : Option D :=
  (zeroT P e).bind fun z => (aggT P e).bind fun b => ((z.cells.toList.map ofConst).mapM unImm).bind fun ds => match b with
    | true => some (.agg (fixL (shs P e) ds))
    | false => match ds with
      | [d] => some (fixD (shT P e) d)
      | _ => none

/-- make of data. -/
def makeSeqA (P : Program) (t : TypeId) (l c : AV) (nid : Nat) (H : Heap) : Option (AV × Heap) :=
  (elemT P t).bind fun e => (P.info? e).bind fun info => (zeroT P e).bind fun z => (zeroD P e).bind fun d =>
    match l, c with
    | .imm (.int _ l), .imm (.int _ c) =>
      if (d.cells.length = info.size ∧ d.cells.all D.one = true ∧ z.cells.size = info.size ∧ 0 < info.size) ∧ 0 ≤ l ∧ l ≤ c ∧ c ≤ 1152921504606846976 ∧ info.bytes * c ≤ 281474976710656 then match H nid with
        | none => some (.all nid info.size, H.set nid (.ds info.size (List.replicate l.toNat d)))
        | some _ => none
      else none
    | _, _ => none

def makeSliceA (P : Program) (t : TypeId) (l c : AV) (nid : Nat) (H : Heap) : Option (AV × Heap) :=
  match (elemT P t).bind (kindT P) with
  | some _ => makeIntsA P t l c nid H
  | none => makeSeqA P t l c nid H

section
variable {P : Program} {w : World} {N : Nat → Prop} {H : Heap} {ι : Place} {w0 : World} {S N0 : Nat → Prop}

theorem run_typeInfo {t : TypeId} {i : TypeInfo} (h : P.info? t = some i) : (typeInfo t).run P w = .ok i w := by simp [typeInfo, h]

theorem run_zero {t : TypeId} {z : Value} (h : zeroT P t = some z) : (zeroValue t).run P w = .ok z w := by
  unfold zeroT at h
  simp only [Option.bind_eq_some_iff] at h
  obtain ⟨i, h1, h2⟩ := h
  simp [zeroValue, typeInfo, h1, h2]

/-- A new boxed variable. -/
theorem newBox_sound (hI : Inv P w0 S N0 H w N ι) {nid : Nat} (hn : H nid = none) {cs : List AV} {vs : Array Value} (hl : vs.size = cs.length) (hr : ∀ i (hi : i < cs.length), RepA P w N H ι cs[i] (vs.getD i Go.undef)) (e : TypeId) :
    ∃ ι', Inv P w0 S N0 (H.set nid (.box cs)) (w.alloc (.cells vs e)) N ι' ∧ Fwd N ι H w N ι' (H.set nid (.box cs)) (w.alloc (.cells vs e)) ∧
      RepA P (w.alloc (.cells vs e)) N (H.set nid (.box cs)) ι' (.ptr nid 0 0) (.pointer (some ⟨w.heap.size, 0, none⟩)) := by
  obtain ⟨ι', h1, h2, h3⟩ := hI.alloc hn vs e (.box cs) (fun ι' H' w' e1 e2 e3 hf => by
    refine ⟨w.heap.size, vs.size, vs, e, by rw [e1]; simp, by rw [e3]; exact heap_alloc_new w _, rfl, hl.symm, fun i => vs.getD i Go.undef, fun i hi => ⟨getD_some (by omega), (hr i hi).fwd hf⟩⟩)
  refine ⟨ι', h2, h3, .ptr (by simp [Heap.set]) fun r hr hl => ?_⟩
  simp [Heap.set] at hr
  subst hr
  exact ⟨_, _, h1, by simp⟩

theorem allocA_sound {t : TypeId} {nid : Nat} {x : AV} {H' : Heap} (hI : Inv P w0 S N0 H w N ι) (h : allocA P t nid H = some (x, H')) :
    ∃ z w' ι', (Instr.alloc t true (.tuple #[])).run P w = .ok z w' ∧ Inv P w0 S N0 H' w' N ι' ∧ Fwd N ι H w N ι' H' w' ∧ RepA P w' N H' ι' x z := by
  unfold allocA at h
  simp only [Option.bind_eq_some_iff] at h
  obtain ⟨z, h1, h2⟩ := h
  split at h2 <;> simp at h2
  obtain ⟨rfl, rfl⟩ := h2
  rename_i hn
  obtain ⟨ι', h3, h4, h5⟩ := newBox_sound hI hn (cs := z.cells.toList.map ofConst) (vs := z.cells) (by simp) (fun i hi => by
    simp at hi
    simpa [hi] using rep_ofConst w N H ι z.cells[i]) t
  refine ⟨_, _, ι', ?_, h3, h4, h5⟩
  simp [Instr.alloc, run_zero h1, newVar, newRow]

theorem boxA_sound {t : TypeId} {nid : Nat} {x y : AV} {v : Value} {H' : Heap} (hI : Inv P w0 S N0 H w N ι) (h : boxA nid H x = some (y, H')) (hx : RepA P w N H ι x v) :
    ∃ z w' ι', (Instr.box t v).run P w = .ok z w' ∧ Inv P w0 S N0 H' w' N ι' ∧ Fwd N ι H w N ι' H' w' ∧ RepA P w' N H' ι' y z := by
  unfold boxA at h
  simp only [Option.bind_eq_some_iff] at h
  obtain ⟨cs, h1, h2⟩ := h
  split at h2 <;> simp at h2
  obtain ⟨rfl, rfl⟩ := h2
  rename_i hn
  obtain ⟨g1, g2, _⟩ := cellsA_sound h1 hx
  obtain ⟨ι', h3, h4, h5⟩ := newBox_sound hI hn g1 g2 t
  refine ⟨_, _, ι', ?_, h3, h4, h5⟩
  simp [Instr.box, newVar, newRow]

theorem foldl_spl (ys : List Value) : ∀ (off k : Nat) (cs : Array Value), off + k + ys.length ≤ cs.size →
    ((ys.zipIdx k).foldl (fun cs (c, j) => cs.setIfInBounds (off + j) c) cs) = (spl cs.toList (off + k) ys).toArray := by
  induction ys with
  | nil => intro off k cs _; simp [spl]
  | cons y ys ih =>
    intro off k cs h
    simp at h
    simp only [List.zipIdx_cons, List.foldl_cons]
    rw [ih off (k + 1) _ (by simp; omega)]
    congr 1
    apply List.ext_getElem?
    intro i
    rw [spl_get _ _ _ (by simp; omega), spl_get _ _ _ (by simp; omega)]
    simp only [Array.toList_setIfInBounds, List.length_cons]
    by_cases h1 : off + k = i
    · subst h1
      rw [if_neg (by omega), if_pos (by omega)]
      simp
      rw [List.getElem?_set_self (by simp; omega)]
    · by_cases h2 : off + k ≤ i ∧ i < off + k + (ys.length + 1)
      · rw [if_pos (by omega), if_pos h2]
        rw [show i - (off + k) = (i - (off + (k + 1))) + 1 by omega]
        simp
      · rw [if_neg (by omega), if_neg h2]
        simp [List.getElem?_set_ne h1]

/-- 'fill' and 'fillA' go side by side, under any relation of cells. -/
theorem fill_rel {α : Type} (R : α → Value → Prop) (place : Nat → Option (Nat × Nat)) : ∀ (ps : List (Nat × List α)) (qs : List (Nat × Value)) (cs : List α) (vs : Array Value) (out : List α),
    ps.length = qs.length → (∀ i (hi : i < ps.length) (hq : i < qs.length), ps[i].1 = qs[i].1 ∧ qs[i].2.cells.size = ps[i].2.length ∧ ∀ j (hj : j < ps[i].2.length), R ps[i].2[j] (qs[i].2.cells.getD j Go.undef)) →
    vs.size = cs.length → (∀ i (hi : i < cs.length), R cs[i] (vs.getD i Go.undef)) → fillA place cs ps = some out →
    ∃ us, Instr.fill place vs qs = some us ∧ us.size = out.length ∧ ∀ i (hi : i < out.length), R out[i] (us.getD i Go.undef)
  | [], [], cs, vs, out, _, _, hl, hr, h => by
    simp [fillA] at h
    subst h
    exact ⟨vs, rfl, hl, hr⟩
  | (i, ys) :: ps, [], _, _, _, h, _, _, _, _ => by simp at h
  | [], _ :: _, _, _, _, h, _, _, _, _ => by simp at h
  | (i, ys) :: ps, (i', v) :: qs, cs, vs, out, hlen, hpq, hl, hr, h => by
    obtain ⟨e1, e2, e3⟩ := hpq 0 (by simp) (by simp)
    simp only [List.getElem_cons_zero] at e1 e2 e3
    subst e1
    replace e2 : v.cells.size = ys.length := e2
    simp only [fillA, Option.bind_eq_some_iff] at h
    obtain ⟨⟨off, size⟩, h1, h2⟩ := h
    split at h2
    case isFalse => simp at h2
    rename_i hc
    obtain ⟨rfl, hle⟩ := hc
    simp only [Instr.fill, h1]
    replace hle : off + ys.length ≤ cs.length := hle
    rw [if_neg (by simp; rw [e2]; omega)]
    have hf := foldl_spl v.cells.toList off 0 vs (by simp; omega)
    simp only [Nat.add_zero] at hf
    rw [← Array.foldl_toList, Array.toList_zipIdx, hf]
    have hvl : v.cells.toList.length = ys.length := by simpa using e2
    refine fill_rel R place ps qs (spl cs off ys) _ out (by simpa using hlen) (fun q hq1 hq2 => ?_) ?_ (fun q hq => ?_) h2
    · have := hpq (q + 1) (by simp; omega) (by simp; omega)
      simpa using this
    · simp only [List.size_toArray]
      rw [spl_length _ _ _ (by simp; omega), spl_length _ _ _ hle]
      simpa using hl
    · rw [spl_length _ _ _ hle] at hq
      have g1 := spl_get cs off ys hle q
      have g2 := spl_get vs.toList off v.cells.toList (by simp; omega) q
      rw [hvl] at g2
      by_cases hb : off ≤ q ∧ q < off + ys.length
      · rw [if_pos hb] at g1 g2
        have hlt : q - off < ys.length := by omega
        rw [List.getElem?_eq_getElem hlt] at g1
        rw [List.getElem_eq_iff _ |>.2 g1]
        have := e3 (q - off) hlt
        have e4 : (spl vs.toList off v.cells.toList).toArray.getD q Go.undef = v.cells.getD (q - off) Go.undef := by simp [g2]
        rw [e4]
        exact this
      · rw [if_neg hb] at g1 g2
        rw [List.getElem?_eq_getElem hq] at g1
        rw [List.getElem_eq_iff _ |>.2 g1]
        have := hr q hq
        have e4 : (spl vs.toList off v.cells.toList).toArray.getD q Go.undef = vs.getD q Go.undef := by simp [g2]
        rw [e4]
        exact this
theorem mapM_some {α β : Type} {f : α → Option β} : ∀ {l : List α} {out : List β}, l.mapM f = some out → out.length = l.length ∧ ∀ i (hi : i < l.length) (ho : i < out.length), f l[i] = some out[i]
  | [], out, h => by simp at h; subst h; simp
  | x :: l, out, h => by
    simp only [List.mapM_cons, Option.bind_eq_bind, Option.bind_eq_some_iff, Option.pure_def, Option.some.injEq] at h
    obtain ⟨y, h1, ys, h2, rfl⟩ := h
    obtain ⟨g1, g2⟩ := mapM_some h2
    refine ⟨by simp [g1], fun i hi ho => ?_⟩
    cases i with
    | zero => simpa using h1
    | succ i => simpa using g2 i (by simpa using hi) (by simpa using ho)

theorem run_places : ∀ (l : List Field) (out : List (Nat × Nat)), (l.mapM fun f => (sizeT P f.type).map fun n => (f.offset, n)) = some out →
    (l.mapM fun f => do pure (f.offset, ← sizeOf f.type) : Sem _).run P w = .ok out w
  | [], out, h => by simp at h; subst h; simp
  | f :: l, out, h => by
    simp only [List.mapM_cons, Option.bind_eq_bind, Option.bind_eq_some_iff, Option.pure_def, Option.some.injEq, Option.map_eq_some_iff] at h
    obtain ⟨_, ⟨n, h1, rfl⟩, ys, h2, rfl⟩ := h
    have := run_places l ys h2
    simp only [List.mapM_cons, Sem.run_bind, run_sizeOf h1, Result.andThen_ok, Sem.run_pure, this]

theorem buildA_sound {t : TypeId} {parts : List (Nat × AV)} {vs : Array (Nat × Value)} {x : AV} (h : buildA P t parts = some x) (hl : vs.size = parts.length)
    (hr : ∀ i (hi : i < parts.length) (hv : i < vs.size), vs[i].1 = parts[i].1 ∧ RepA P w N H ι parts[i].2 vs[i].2) :
    ∃ z, (Instr.build t vs).run P w = .ok z w ∧ RepA P w N H ι x z := by
  unfold buildA at h
  simp only [Option.bind_eq_some_iff] at h
  obtain ⟨z, h1, ps, h2, h3⟩ := h
  obtain ⟨g1, g2⟩ := mapM_some h2
  have hpq : ∀ i (hi : i < ps.length) (hq : i < vs.toList.length), ps[i].1 = vs.toList[i].1 ∧ vs.toList[i].2.cells.size = ps[i].2.length ∧ ∀ j (hj : j < ps[i].2.length), RepA P w N H ι ps[i].2[j] (vs.toList[i].2.cells.getD j Go.undef) := by
    intro i hi hq
    have hq' : i < vs.size := by simpa using hq
    have e1 := g2 i (by omega) hi
    obtain ⟨e2, e3⟩ := hr i (by omega) hq'
    simp only [partCells, Option.map_eq_some_iff] at e1
    obtain ⟨cs, e4, e5⟩ := e1
    obtain ⟨q1, q2, _⟩ := cellsA_sound e4 e3
    simp only [Array.getElem_toList, ← e5]
    exact ⟨e2.symm, q1, q2⟩
  have hz : ∀ i (hi : i < (z.cells.toList.map ofConst).length), RepA P w N H ι (z.cells.toList.map ofConst)[i] (z.cells.getD i Go.undef) := fun i hi => by
    simp at hi
    simpa [hi] using rep_ofConst w N H ι z.cells[i]
  split at h3
  · rename_i fs hu
    simp only [Option.bind_eq_some_iff, Option.map_eq_some_iff] at h3
    obtain ⟨pl, h4, out, h5, rfl⟩ := h3
    obtain ⟨us, h6, h7, h8⟩ := fill_rel (RepA P w N H ι) _ ps vs.toList _ z.cells out (by simp; omega) hpq (by simp) hz h5
    refine ⟨.agg us, ?_, .agg h7 h8⟩
    have hm : ∀ (fs : Array Field) (pl : Array (Nat × Nat)), fieldPlaces P fs = some pl → (fs.mapM fun f => do pure (f.offset, ← sizeOf f.type) : Sem _).run P w = .ok pl w := by
      intro fs pl h
      unfold fieldPlaces at h
      rw [Array.mapM_eq_mapM_toList] at h
      simp only [Option.map_eq_map, Option.map_eq_some_iff] at h
      obtain ⟨out, h, rfl⟩ := h
      rw [Array.mapM_eq_mapM_toList, Sem.run_map, run_places _ _ h]
      rfl
    simp only [Instr.build, Sem.run_bind, run_zero h1, Result.andThen_ok, run_under hu]
    rw [hm fs pl h4]
    simp only [Result.andThen_ok, h6, Sem.run_pure]
  · rename_i n e hu
    simp only [Option.bind_eq_some_iff, Option.map_eq_some_iff] at h3
    obtain ⟨s, h4, out, h5, rfl⟩ := h3
    obtain ⟨us, h6, h7, h8⟩ := fill_rel (RepA P w N H ι) _ ps vs.toList _ z.cells out (by simp; omega) hpq (by simp) hz h5
    refine ⟨.agg us, ?_, .agg h7 h8⟩
    simp only [Instr.build, Sem.run_bind, run_zero h1, Result.andThen_ok, run_under hu, run_sizeOf h4, h6, Sem.run_pure]
  · simp at h3
end
end Go.Ab
