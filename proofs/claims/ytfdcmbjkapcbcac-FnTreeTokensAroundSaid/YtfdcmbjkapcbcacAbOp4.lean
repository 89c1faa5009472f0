/-
  AN ABSTRACT LAYER, 6: loads.
-/
import Derived.Test.YtfdcmbjkapcbcacAbOp3
namespace Go.Ab
variable {P : Program}

/-- What is loaded of an element d (s cells) of a slice, from its cell j on. -/
def elemD (P : Program) (t : TypeId) (s : Nat) (d : D) (j : Nat) : Option D :=
  (aggT P t).bind fun b => (sizeT P t).bind fun n =>
    match d with
    | .agg cs => if b then (if j = 0 ∧ n = s then some (.agg cs) else partD P t cs j) else cs[j]?
    | d => if b then none else if j = 0 then some d else none

def loadA (P : Program) (t : TypeId) (H : Heap) (x : AV) : Option AV :=
  match x with
  | .ptr id i j =>
    match H id with
    | some (.box cs) => if i = 0 then partA P t cs j else none
    | some (.ints k xs) => (aggT P t).bind fun b => if b then none else if j = 0 then (xs[i]?).map fun n => .imm (.int k n) else none
    | some (.ds s xs) => (xs[i]?).bind fun d => (elemD P t s d j).map .imm
    | _ => none
  | .eptr d i j =>
    match d with
    | .ints k xs => (aggT P t).bind fun b => if b then none else if j = 0 then (xs[i]?).map fun n => .imm (.int k n) else none
    | .seq s xs => (xs[i]?).bind fun d => (elemD P t s d j).map .imm
    | _ => none
  | .dptr cs j => (partD P t cs j).map .imm
  | .imm (.pbox cs) => (partD P t cs 0).map .imm
  | _ => none

section
variable {P : Program} {w : World} {N : Nat → Prop} {H : Heap} {ι : Place}

theorem run_loadVar_one {t : TypeId} {b o : Nat} {v : Value} (h1 : aggT P t = some false) (h : w.cell? ⟨b, o, none⟩ = some v) : (loadVar t ⟨b, o, none⟩).run P w = .ok v w := by
  simp [loadVar, run_isAgg h1, h]

theorem run_loadVar_agg {t : TypeId} {b o n : Nat} {f : Nat → Value} (h1 : aggT P t = some true) (h2 : sizeT P t = some n) (h : ∀ k, k < n → w.cell? ⟨b, o + k, none⟩ = some (f k)) :
    (loadVar t ⟨b, o, none⟩).run P w = .ok (.agg ((List.range n).map f).toArray) w := by
  have := run_loadCellsFrom (P := P) (w := w) ⟨b, o, none⟩ f n 0 #[] (fun j hj => by rw [Addr.add_lit, Nat.zero_add]; exact h j hj)
  simp only [Nat.zero_add, Array.empty_append] at this
  simp only [loadVar, Sem.run_bind, run_isAgg h1, Result.andThen_ok, if_true, run_sizeOf h2, loadCells, this, Sem.run_pure]

theorem getD_range (n i : Nat) (f : Nat → Value) (hi : i < n) : (((List.range n).map f).toArray).getD i Go.undef = f i := by
  simp [hi]

/-- A part of cells that bear abstract values. -/
theorem load_partA {t : TypeId} {cs : List AV} {off b o : Nat} {f : Nat → Value} {y : AV} (h : partA P t cs off = some y) (hc : ∀ i, i < cs.length → w.cell? ⟨b, o + i, none⟩ = some (f i))
    (hr : ∀ i (hi : i < cs.length), RepA P w N H ι cs[i] (f i)) : ∃ z, (loadVar t ⟨b, o + off, none⟩).run P w = .ok z w ∧ RepA P w N H ι y z := by
  unfold partA at h
  simp only [Option.bind_eq_some_iff] at h
  obtain ⟨bb, h1, n, h2, h3⟩ := h
  cases bb
  · simp only [Bool.false_eq_true, if_false] at h3
    obtain ⟨hlt, rfl⟩ := List.getElem?_eq_some_iff.1 h3
    exact ⟨f off, run_loadVar_one h1 (hc off hlt), hr off hlt⟩
  · simp at h3
    obtain ⟨hle, rfl⟩ := h3
    refine ⟨_, run_loadVar_agg (f := fun k => f (off + k)) h1 h2 fun k hk => by rw [Nat.add_assoc]; exact hc _ (by omega), .agg (by simp; omega) fun i hi => ?_⟩
    simp at hi
    rw [getD_range _ _ _ (by omega)]
    simpa using hr (off + i) (by omega)

theorem load_partD {t : TypeId} {cs : List D} {off b o : Nat} {f : Nat → Value} {y : D} (h : partD P t cs off = some y) (hc : ∀ i, i < cs.length → w.cell? ⟨b, o + i, none⟩ = some (f i))
    (hr : ∀ i (hi : i < cs.length), RepD P w N cs[i] (f i)) : ∃ z, (loadVar t ⟨b, o + off, none⟩).run P w = .ok z w ∧ RepD P w N y z := by
  unfold partD at h
  simp only [Option.bind_eq_some_iff] at h
  obtain ⟨bb, h1, n, h2, h3⟩ := h
  cases bb
  · simp only [Bool.false_eq_true, if_false] at h3
    obtain ⟨hlt, rfl⟩ := List.getElem?_eq_some_iff.1 h3
    exact ⟨f off, run_loadVar_one h1 (hc off hlt), hr off hlt⟩
  · simp at h3
    obtain ⟨hle, rfl⟩ := h3
    refine ⟨_, run_loadVar_agg (f := fun k => f (off + k)) h1 h2 fun k hk => by rw [Nat.add_assoc]; exact hc _ (by omega), .agg _ _ (by simp; omega) fun i hi => ?_⟩
    simp at hi
    rw [getD_range _ _ _ (by omega)]
    simpa using hr (off + i) (by omega)

/-- A whole of cells of data. -/
theorem load_wholeD {t : TypeId} {cs : List D} {n b o : Nat} {f : Nat → Value} (h1 : aggT P t = some true) (h2 : sizeT P t = some n) (hl : cs.length = n) (hc : ∀ i, i < cs.length → w.cell? ⟨b, o + i, none⟩ = some (f i))
    (hr : ∀ i (hi : i < cs.length), RepD P w N cs[i] (f i)) : ∃ z, (loadVar t ⟨b, o, none⟩).run P w = .ok z w ∧ RepD P w N (.agg cs) z := by
  refine ⟨_, run_loadVar_agg (f := f) h1 h2 fun k hk => hc _ (by omega), .agg _ _ (by simp; omega) fun i hi => ?_⟩
  rw [getD_range _ _ _ (by omega)]
  exact hr i hi

theorem elemD_sound {t : TypeId} {s b o j : Nat} {d y : D} {f : Nat → Value} (h : elemD P t s d j = some y) (hs : d.cells.length = s) (hc : ∀ i, i < d.cells.length → w.cell? ⟨b, o + i, none⟩ = some (f i))
    (hr : ∀ i (hi : i < d.cells.length), RepD P w N d.cells[i] (f i)) : ∃ z, (loadVar t ⟨b, o + j, none⟩).run P w = .ok z w ∧ RepD P w N y z := by
  unfold elemD at h
  simp only [Option.bind_eq_some_iff] at h
  obtain ⟨bb, h1, n, h2, h3⟩ := h
  split at h3
  · rename_i cs
    simp only [D.cells] at *
    cases bb
    · simp only [Bool.false_eq_true, if_false] at h3
      obtain ⟨hlt, rfl⟩ := List.getElem?_eq_some_iff.1 h3
      exact ⟨f j, run_loadVar_one h1 (hc j hlt), hr j hlt⟩
    · simp only [if_true] at h3
      split at h3
      · rename_i hj
        obtain ⟨rfl, rfl⟩ := hj
        simp at h3
        subst h3
        exact load_wholeD h1 h2 hs hc hr
      · exact load_partD h3 hc hr
  · rename_i hna
    have hcd : d.cells = [d] := by cases d <;> first | rfl | (exact absurd rfl (hna _))
    cases bb
    · simp only [Bool.false_eq_true, if_false] at h3
      split at h3 <;> simp at h3
      subst h3
      rename_i hj
      subst hj
      have h4 := hc 0 (by rw [hcd]; simp)
      have h5 := hr 0 (by rw [hcd]; simp)
      simp only [hcd, List.getElem_cons_zero] at h5
      exact ⟨f 0, run_loadVar_one h1 (by simpa using h4), h5⟩
    · simp at h3

theorem cell_of_blk {b o : Nat} {arr : Array Value} {e : TypeId} {fr : Nat × Nat} (h : w.heap[b]? = some (.cells arr e fr)) : w.cell? ⟨b, o, none⟩ = arr[o]? := by
  simp [World.cell?, h]

theorem flat_mul {s i j n : Nat} (hi : i < n) (hj : j < s) : i * s + j < n * s :=
  Nat.lt_of_lt_of_le (Nat.add_lt_add_left hj _) (by rw [← Nat.succ_mul]; exact Nat.mul_le_mul_right s hi)

theorem loadA_sound {w0 : World} {S N0 : Nat → Prop} {t : TypeId} {x y : AV} {v : Value} (hI : Inv P w0 S N0 H w N ι) (h : loadA P t H x = some y) (hx : RepA P w N H ι x v) :
    ∃ z, (Instr.loadAt t v).run P w = .ok z w ∧ RepA P w N H ι y z := by
  unfold loadA at h
  split at h
  · rename_i id i j
    cases hx with
    | @ptr _ _ _ x hid hp =>
    split at h
    · rename_i cs hH
      split at h
      case isFalse => simp at h
      rename_i hi
      subst hi
      obtain ⟨b, c, h1, rfl⟩ := hp _ hH rfl
      obtain ⟨b', c', arr, e, h2, h3, h4, h5, f, h6⟩ := hI.rows id _ hH
      rw [h1] at h2
      cases h2
      obtain ⟨z, h7, h8⟩ := load_partA (P := P) (b := b) (o := 0) h (fun i hi => by rw [cell_of_blk h3, Nat.zero_add]; exact (h6 i hi).1) (fun i hi => (h6 i hi).2)
      refine ⟨z, ?_, h8⟩
      simp only [Instr.loadAt, Sem.run_bind, Instr.sureAddr, Sem.run_pure, Result.andThen_ok, Nat.zero_mul]
      exact h7
    · rename_i k xs hH
      simp only [Option.bind_eq_some_iff] at h
      obtain ⟨bb, h1, h2⟩ := h
      cases bb
      case true => simp at h2
      simp only [Bool.false_eq_true, if_false] at h2
      split at h2
      case isFalse => simp at h2
      rename_i hj
      subst hj
      simp only [Option.map_eq_some_iff] at h2
      obtain ⟨n, h2, rfl⟩ := h2
      obtain ⟨hlt, rfl⟩ := List.getElem?_eq_some_iff.1 h2
      obtain ⟨b, c, h3, rfl⟩ := hp _ hH rfl
      rcases hI.rows id _ hH with ⟨h4, _⟩ | ⟨b', c', arr, e, h4, h5, h6, h7, h8⟩
      · rw [h3] at h4; cases h4
      · rw [h3] at h4
        cases h4
        refine ⟨_, ?_, .imm (.int _ _)⟩
        simp only [Instr.loadAt, Sem.run_bind, Instr.sureAddr, Sem.run_pure, Result.andThen_ok, Row.sz, Nat.mul_one, Nat.add_zero]
        exact run_loadVar_one h1 (by rw [cell_of_blk h5]; exact h8 i hlt)
    · rename_i s xs hH
      simp only [Option.bind_eq_some_iff, Option.map_eq_some_iff] at h
      obtain ⟨d, h1, d', h2, rfl⟩ := h
      obtain ⟨hlt, rfl⟩ := List.getElem?_eq_some_iff.1 h1
      obtain ⟨b, c, h3, rfl⟩ := hp _ hH rfl
      obtain ⟨hs, h4⟩ := hI.rows id _ hH
      rcases h4 with ⟨h4, _⟩ | ⟨b', c', arr, e, h4, h5, h6, h7, f, h8⟩
      · rw [h3] at h4; cases h4
      · rw [h3] at h4
        cases h4
        have hsl := hs _ (List.getElem_mem hlt)
        have hfl := flat_length xs hs
        have hg : ∀ q (hq : q < xs[i].cells.length), i * s + q < (D.flat xs).length ∧ (D.flat xs)[i * s + q]? = some (xs[i].cells[q]) := fun q hq => by
          refine ⟨by rw [hfl]; exact flat_mul hlt (by omega), ?_⟩
          rw [flat_get xs hs i q hlt (by omega), List.getElem?_eq_getElem hq]
        obtain ⟨z, h9, h10⟩ := elemD_sound (P := P) (w := w) (N := N) (b := b) (o := i * s) (f := fun q => f (i * s + q)) h2 hsl
          (fun q hq => by rw [cell_of_blk h5]; exact (h8 _ (hg q hq).1).1)
          (fun q hq => by
            have := (h8 _ (hg q hq).1).2
            rw [List.getElem_eq_iff _ |>.2 (hg q hq).2] at this
            exact this)
        refine ⟨z, ?_, .imm h10⟩
        simp only [Instr.loadAt, Sem.run_bind, Instr.sureAddr, Sem.run_pure, Result.andThen_ok, Row.sz]
        exact h9
    · simp at h
  · rename_i d i j
    cases hx with
    | @eptr _ _ _ b off len cap _ hd hi hv =>
    subst hv
    split at h
    · rename_i k xs
      simp only [Option.bind_eq_some_iff] at h
      obtain ⟨bb, h1, h2⟩ := h
      cases bb
      case true => simp at h2
      simp only [Bool.false_eq_true, if_false] at h2
      split at h2
      case isFalse => simp at h2
      rename_i hj
      subst hj
      simp only [Option.map_eq_some_iff] at h2
      obtain ⟨n, h2, rfl⟩ := h2
      obtain ⟨hlt, rfl⟩ := List.getElem?_eq_some_iff.1 h2
      refine ⟨_, ?_, .imm (.int _ _)⟩
      simp only [Instr.loadAt, Sem.run_bind, Instr.sureAddr, Sem.run_pure, Result.andThen_ok, D.sz, Nat.mul_one, Nat.add_zero]
      cases hd with
      | ints0 => simp at hlt
      | ints _ _ _ _ _ hN hc hr => exact run_loadVar_one h1 (hr i hlt)
    · rename_i s xs
      simp only [Option.bind_eq_some_iff, Option.map_eq_some_iff] at h
      obtain ⟨d, h1, d', h2, rfl⟩ := h
      obtain ⟨hlt, rfl⟩ := List.getElem?_eq_some_iff.1 h1
      cases hd with
      | seq0 => simp at hlt
      | seq _ _ _ _ _ f hN hc hs hr hf =>
        have hsl := hs _ (List.getElem_mem hlt)
        have hfl := flat_length xs hs
        have hg : ∀ q (hq : q < xs[i].cells.length), i * s + q < (D.flat xs).length ∧ (D.flat xs)[i * s + q]? = some (xs[i].cells[q]) := fun q hq => by
          refine ⟨by rw [hfl]; exact flat_mul hlt (by omega), ?_⟩
          rw [flat_get xs hs i q hlt (by omega), List.getElem?_eq_getElem hq]
        obtain ⟨z, h9, h10⟩ := elemD_sound (P := P) (w := w) (N := N) (b := b) (o := off + i * s) (f := fun q => f (i * s + q)) h2 hsl
          (fun q hq => by rw [Nat.add_assoc]; exact hr _ (hg q hq).1)
          (fun q hq => by
            have := hf _ (hg q hq).1
            rw [List.getElem_eq_iff _ |>.2 (hg q hq).2] at this
            exact this)
        refine ⟨z, ?_, .imm h10⟩
        simp only [Instr.loadAt, Sem.run_bind, Instr.sureAddr, Sem.run_pure, Result.andThen_ok, D.sz]
        exact h9
    · simp at h
  · simp only [Option.map_eq_some_iff] at h
    obtain ⟨d, h, rfl⟩ := h
    cases hx with
    | @dptr cs j b _ hd hv =>
    subst hv
    cases hd with
    | pbox _ _ g hN hc hr =>
    obtain ⟨z, h7, h8⟩ := load_partD (P := P) (b := b) (o := 0) h (fun i hi => by rw [Nat.zero_add]; exact hc i hi) hr
    rw [Nat.zero_add] at h7
    exact ⟨z, by simp only [Instr.loadAt, Sem.run_bind, Instr.sureAddr, Sem.run_pure, Result.andThen_ok]; exact h7, .imm h8⟩
  · simp only [Option.map_eq_some_iff] at h
    obtain ⟨d, h, rfl⟩ := h
    cases hx with
    | imm hx =>
    cases hx with
    | pbox _ b g hN hc hr =>
    obtain ⟨z, h7, h8⟩ := load_partD (P := P) (b := b) (o := 0) h (fun i hi => by rw [Nat.zero_add]; exact hc i hi) hr
    exact ⟨z, by simp only [Instr.loadAt, Sem.run_bind, Instr.sureAddr, Sem.run_pure, Result.andThen_ok]; exact h7, .imm h8⟩
  · simp at h
end
end Go.Ab
