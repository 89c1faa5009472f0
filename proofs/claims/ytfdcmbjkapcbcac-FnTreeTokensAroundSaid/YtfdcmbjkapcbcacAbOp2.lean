/-
  AN ABSTRACT LAYER, 4: more operations that do not look at rows: parts, texts, slices of slices, lengths.
-/
import Derived.Test.YtfdcmbjkapcbcacAbOp1
namespace Go.Ab
variable {P : Program}

def partA (P : Program) (t : TypeId) (cs : List AV) (off : Nat) : Option AV :=
  (aggT P t).bind fun b => (sizeT P t).bind fun n => if b then (if off + n ≤ cs.length then some (.agg ((cs.drop off).take n)) else none) else cs[off]?

def partD (P : Program) (t : TypeId) (cs : List D) (off : Nat) : Option D :=
  (aggT P t).bind fun b => (sizeT P t).bind fun n => if b then (if off + n ≤ cs.length then some (.agg ((cs.drop off).take n)) else none) else cs[off]?

def fieldA (P : Program) (t : TypeId) (f : Nat) (x : AV) : Option AV :=
  (fieldsT P t).bind fun fs => (fs[f]?).bind fun fd =>
    match x with
    | .agg cs => partA P fd.type cs fd.offset
    | .imm (.agg ds) => (partD P fd.type ds fd.offset).map .imm
    | _ => none

def extractA (x : AV) (i : Nat) : Option AV :=
  match x with
  | .tup vs => vs[i]?
  | _ => none

def indexA (P : Program) (t : TypeId) (x ix : AV) : Option AV :=
  match ix with
  | .imm (.int _ i) =>
    match x with
    | .imm (.str s) => match P.underlying t with
      | some .string => (if 0 ≤ i then s[i.toNat]? else none).map fun b => .imm (.int .u8 b.toNat)
      | _ => none
    | .agg cs => (arrT P t).bind fun (n, e) => (sizeT P e).bind fun s => (idx i n).bind fun k => partA P e cs (k * s)
    | .imm (.agg cs) => (arrT P t).bind fun (n, e) => (sizeT P e).bind fun s => (idx i n).bind fun k => (partD P e cs (k * s)).map .imm
    | _ => none
  | _ => none

def convA (P : Program) (src dst : TypeId) (x : AV) : Option AV :=
  match x with
  | .imm (.int _ n) => match P.underlying src, P.underlying dst with
    | some _, some (.int k) => some (.imm (.int k (k.wrap n)))
    | _, _ => none
  | _ => none

def pickA (c a b : AV) : Option AV :=
  match c with
  | .imm (.bool t) => some (match a, b with
    | .imm (.bool x), .imm (.bool y) => .imm (.bool (bif t then x else y))
    | _, _ => bif t then a else b)
  | _ => none

/-- The two ends of a cut. -/
def cutEnds (n : Nat) (lo hi : Option AV) : Option (Nat × Nat) :=
  (match hi with
    | none => some n
    | some (.imm (.int _ h)) => if 0 ≤ h ∧ h ≤ n then some h.toNat else none
    | _ => none).bind fun h =>
  (match lo with
    | none => some 0
    | some (.imm (.int _ l)) => if 0 ≤ l ∧ l ≤ h then some l.toNat else none
    | _ => none).bind fun l => some (l, h)

def cutD (d : D) (l h : Nat) : D :=
  match d with
  | .ints k xs => .ints k ((xs.drop l).take (h - l))
  | .seq s xs => .seq s ((xs.drop l).take (h - l))
  | d => d

/-- The size of an element; nil may be of any. -/
def D.szN : D → Nat → Nat
  | .nils, s => s
  | d, _ => d.sz

def sliceA (P : Program) (t : TypeId) (H : Heap) (x : AV) (lo hi : Option AV) : Option AV :=
  match x with
  | .imm (.str s) => match P.underlying t with
    | some .string => (cutEnds s.size lo hi).map fun (l, h) => .imm (.str (s.extract l h))
    | _ => none
  | .row id s off len => (elemT P t).bind fun e => (sizeT P e).bind fun s' => if s' = s then (cutEnds len lo hi).map fun (l, h) => .row id s (off + l) (h - l) else none
  | .all id s => (elemT P t).bind fun e => (sizeT P e).bind fun s' => if s' = s then (H id).bind fun r => (rlen r).bind fun n => (cutEnds n lo hi).map fun (l, h) => .row id s l (h - l) else none
  | .imm d => (elemT P t).bind fun e => (sizeT P e).bind fun s' => if s' = d.szN s' then (dlen d).bind fun n => (cutEnds n lo hi).map fun (l, h) => .imm (cutD d l h) else none
  | _ => none

def lenA (P : Program) (t : TypeId) (H : Heap) (x : AV) : Option AV :=
  match P.underlying t with
  | some (.array n _) => some (.imm (.int .i64 n))
  | some .string => match x with
    | .imm (.str s) => some (.imm (.int .i64 s.size))
    | _ => none
  | some (.slice _) => match x with
    | .row _ _ _ len => some (.imm (.int .i64 len))
    | .all id _ => (H id).bind fun r => (rlen r).map fun (n : Nat) => .imm (.int .i64 (n : Int))
    | .imm d => (dlen d).map fun (n : Nat) => .imm (.int .i64 (n : Int))
    | _ => none
  | _ => none

section
variable {P : Program} {w : World} {N : Nat → Prop} {H : Heap} {ι : Place}

theorem getD_some {α : Type} {xs : Array α} {i : Nat} {d : α} (h : i < xs.size) : xs[i]? = some (xs.getD i d) := by simp [h]

theorem partA_sound {t : TypeId} {cs : List AV} {vs : Array Value} {off : Nat} {y : AV} (h : partA P t cs off = some y) (hl : vs.size = cs.length) (hr : ∀ i (hi : i < cs.length), RepA P w N H ι cs[i] (vs.getD i Go.undef)) :
    ∃ z, (part t vs off).run P w = .ok z w ∧ RepA P w N H ι y z := by
  unfold partA at h
  simp only [Option.bind_eq_some_iff] at h
  obtain ⟨b, h1, n, h2, h3⟩ := h
  cases b
  · simp only [Bool.false_eq_true, if_false] at h3
    obtain ⟨hlt, rfl⟩ := List.getElem?_eq_some_iff.1 h3
    refine ⟨vs.getD off Go.undef, ?_, hr off hlt⟩
    simp only [part, Sem.run_bind, run_isAgg h1, Result.andThen_ok, Bool.false_eq_true, if_false, getD_some (d := Go.undef) (show off < vs.size by omega), Sem.run_pure]
  · simp at h3
    obtain ⟨hle, rfl⟩ := h3
    refine ⟨.agg (vs.extract off (off + n)), ?_, .agg (by simp; omega) fun i hi => ?_⟩
    · simp only [part, Sem.run_bind, run_isAgg h1, Result.andThen_ok, if_true, run_sizeOf h2, Sem.run_pure]
    · simp at hi
      have h4 := hr (off + i) (by omega)
      have h5 : (vs.extract off (off + n)).getD i Go.undef = vs.getD (off + i) Go.undef := by
        simp [Array.getElem?_extract]
        rw [if_pos (by omega)]
      rw [h5]
      simpa using h4

theorem partD_sound {t : TypeId} {cs : List D} {vs : Array Value} {off : Nat} {y : D} (h : partD P t cs off = some y) (hl : vs.size = cs.length) (hr : ∀ i (hi : i < cs.length), RepD P w N cs[i] (vs.getD i Go.undef)) :
    ∃ z, (part t vs off).run P w = .ok z w ∧ RepD P w N y z := by
  unfold partD at h
  simp only [Option.bind_eq_some_iff] at h
  obtain ⟨b, h1, n, h2, h3⟩ := h
  cases b
  · simp only [Bool.false_eq_true, if_false] at h3
    obtain ⟨hlt, rfl⟩ := List.getElem?_eq_some_iff.1 h3
    refine ⟨vs.getD off Go.undef, ?_, hr off hlt⟩
    simp only [part, Sem.run_bind, run_isAgg h1, Result.andThen_ok, Bool.false_eq_true, if_false, getD_some (d := Go.undef) (show off < vs.size by omega), Sem.run_pure]
  · simp at h3
    obtain ⟨hle, rfl⟩ := h3
    refine ⟨.agg (vs.extract off (off + n)), ?_, .agg _ _ (by simp; omega) fun i hi => ?_⟩
    · simp only [part, Sem.run_bind, run_isAgg h1, Result.andThen_ok, if_true, run_sizeOf h2, Sem.run_pure]
    · simp at hi
      have h4 := hr (off + i) (by omega)
      have h5 : (vs.extract off (off + n)).getD i Go.undef = vs.getD (off + i) Go.undef := by
        simp [Array.getElem?_extract]
        rw [if_pos (by omega)]
      rw [h5]
      simpa using h4

theorem fieldA_sound {t : TypeId} {f : Nat} {x y : AV} {v : Value} (h : fieldA P t f x = some y) (hx : RepA P w N H ι x v) :
    ∃ z, (Instr.field t v f).run P w = .ok z w ∧ RepA P w N H ι y z := by
  unfold fieldA at h
  simp only [Option.bind_eq_some_iff] at h
  obtain ⟨fs, h1, fd, h2, h3⟩ := h
  have hu := fieldsT_spec h1
  split at h3
  · cases hx with
    | agg hl hr =>
      obtain ⟨z, h4, h5⟩ := partA_sound h3 hl hr
      exact ⟨z, by simp [Instr.field, run_under hu, h2, asAgg, h4], h5⟩
  · simp only [Option.map_eq_some_iff] at h3
    obtain ⟨d, h3, rfl⟩ := h3
    cases hx with
    | imm hx =>
    cases hx with
    | agg cs vs hl hr =>
      obtain ⟨z, h4, h5⟩ := partD_sound h3 hl hr
      exact ⟨z, by simp [Instr.field, run_under hu, h2, asAgg, h4], .imm h5⟩
  · simp at h3

theorem extractA_sound {x y : AV} {i : Nat} {v : Value} (h : extractA x i = some y) (hx : RepA P w N H ι x v) :
    ∃ z, (Instr.extract v i).run P w = .ok z w ∧ RepA P w N H ι y z := by
  unfold extractA at h
  split at h
  · cases hx with
    | @tup _ vs hl hr =>
      obtain ⟨hlt, rfl⟩ := List.getElem?_eq_some_iff.1 h
      exact ⟨vs.getD i Go.undef, by simp only [Instr.extract, getD_some (d := Go.undef) (show i < vs.size by omega), Sem.run_pure], hr i hlt⟩
  · simp at h

theorem indexA_sound {t : TypeId} {x ix y : AV} {v u : Value} (h : indexA P t x ix = some y) (hx : RepA P w N H ι x v) (hi : RepA P w N H ι ix u) :
    ∃ z, (Instr.index t v u).run P w = .ok z w ∧ RepA P w N H ι y z := by
  unfold indexA at h
  split at h
  case h_2 => simp at h
  rename_i k0 i
  cases hi with
  | imm hi =>
  cases hi
  split at h
  · rename_i s
    cases hx with
    | imm hx =>
    cases hx
    split at h
    · rename_i hu
      simp only [Option.map_eq_some_iff] at h
      obtain ⟨b, h1, rfl⟩ := h
      exact ⟨_, by simp only [Instr.index, asIntOf, Sem.run_bind, Sem.run_pure, Result.andThen_ok, run_under hu, h1], .imm (.int _ _)⟩
    · simp at h
  · simp only [Option.bind_eq_some_iff] at h
    obtain ⟨⟨n, e⟩, h1, s, h2, k, h3, h4⟩ := h
    have hu := arrT_spec h1
    obtain ⟨g1, g2, rfl, g4⟩ := idx_spec h3
    cases hx with
    | agg hl hr =>
      obtain ⟨z, h5, h6⟩ := partA_sound h4 hl hr
      exact ⟨z, by simp [Instr.index, asIntOf, run_under hu, g1, g2, run_sizeOf h2, h5], h6⟩
  · simp only [Option.bind_eq_some_iff, Option.map_eq_some_iff] at h
    obtain ⟨⟨n, e⟩, h1, s, h2, k, h3, d, h4, rfl⟩ := h
    have hu := arrT_spec h1
    obtain ⟨g1, g2, rfl, g4⟩ := idx_spec h3
    cases hx with
    | imm hx =>
    cases hx with
    | agg cs vs hl hr =>
      obtain ⟨z, h5, h6⟩ := partD_sound h4 hl hr
      exact ⟨z, by simp [Instr.index, asIntOf, run_under hu, g1, g2, run_sizeOf h2, h5], .imm h6⟩
  · simp at h

theorem convA_sound {src dst : TypeId} {x y : AV} {v : Value} (h : convA P src dst x = some y) (hx : RepA P w N H ι x v) :
    ∃ z, (convert src dst v).run P w = .ok z w ∧ RepA P w N H ι y z := by
  unfold convA at h
  split at h
  case h_2 => simp at h
  split at h
  case h_2 => simp at h
  simp at h
  subst h
  rename_i d1 k1 hs hd
  cases hx with
  | imm hx =>
  cases hx
  refine ⟨_, ?_, .imm (.int _ _)⟩
  simp only [convert, Sem.run_bind, run_under hs, run_under hd, Result.andThen_ok, Conv.intToInt, Sem.run_pure]

theorem pickA_sound {c x z y : AV} {u v1 v2 : Value} (h : pickA c x z = some y) (hc : RepA P w N H ι c u) (hx : RepA P w N H ι x v1) (hz : RepA P w N H ι z v2) :
    ∃ v, (do pure (.value (if ← asBool u then v1 else v2)) : Sem Next).run P w = .ok (.value v) w ∧ RepA P w N H ι y v := by
  unfold pickA at h
  split at h
  · simp at h
    cases hc with
    | imm hc =>
    cases hc
    rename_i t
    have key : (bif t then x else z) = y → ∃ v, (do pure (.value (if ← asBool (.bool t) then v1 else v2)) : Sem Next).run P w = .ok (.value v) w ∧ RepA P w N H ι y v := by
      intro h
      cases t <;> simp at h <;> subst h
      · exact ⟨v2, by simp [asBool], hz⟩
      · exact ⟨v1, by simp [asBool], hx⟩
    refine key ?_
    split at h
    · cases t <;> exact h
    · exact h
  · simp at h
end
end Go.Ab
