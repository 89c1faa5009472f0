/-
  AN ABSTRACT LAYER, 7: stores, new variables.
-/
import Derived.Test.YtjcfijhgkfdcoaaAbOp4
namespace Go.Ab
variable {P : Program}

/-- ys laid over cs from place j on. -/
def spl {α : Type} (cs : List α) (j : Nat) (ys : List α) : List α := cs.take j ++ ys ++ cs.drop (j + ys.length)

theorem spl_length {α : Type} (cs : List α) (j : Nat) (ys : List α) (h : j + ys.length ≤ cs.length) : (spl cs j ys).length = cs.length := by
  simp [spl]; omega

theorem spl_get {α : Type} (cs : List α) (j : Nat) (ys : List α) (h : j + ys.length ≤ cs.length) (i : Nat) :
    (spl cs j ys)[i]? = if j ≤ i ∧ i < j + ys.length then ys[i - j]? else cs[i]? := by
  unfold spl
  by_cases h1 : i < j
  · rw [List.append_assoc, List.getElem?_append_left (by simp; omega), List.getElem?_take, if_pos h1, if_neg (by omega)]
  · by_cases h2 : i < j + ys.length
    · rw [List.append_assoc, List.getElem?_append_right (by simp; omega), if_pos ⟨by omega, h2⟩, List.getElem?_append_left (by simp; omega)]
      congr 1
      simp
      omega
    · rw [List.getElem?_append_right (by simp; omega), if_neg (by omega), List.getElem?_drop]
      congr 1
      simp
      omega

/-- Scalars. -/
def D.one : D → Bool
  | .agg _ => false
  | _ => true

def AV.one : AV → Bool
  | .imm d => d.one
  | .row .. | .all .. | .ptr .. | .eptr .. | .dptr .. | .clo .. | .yld _ => true
  | _ => false

/-- The cells of a value that is known. -/
def cellsA : AV → Option (List AV)
  | .agg cs => if cs.all AV.one then some cs else none
  | .imm (.agg cs) => if cs.all D.one then some (cs.map AV.imm) else none
  | .imm d => some [.imm d]
  | .row id s o l => some [.row id s o l]
  | .all id s => some [.all id s]
  | .ptr id i j => some [.ptr id i j]
  | .eptr d i j => some [.eptr d i j]
  | .dptr cs j => some [.dptr cs j]
  | .clo f cs => some [.clo f cs]
  | .yld id => some [.yld id]
  | _ => none

/-- The cells of data. -/
def cellsD : D → Option (List D)
  | .agg cs => if cs.all D.one then some cs else none
  | d => some [d]

def unImm : AV → Option D
  | .imm d => some d
  | _ => none

/-- Data out of an abstract value that holds no row. -/
def toD : AV → Option D
  | .imm d => some d
  | .agg cs => (cs.mapM unImm).map D.agg
  | _ => none

def storeA (P : Program) (t : TypeId) (H : Heap) (x y : AV) : Option Heap :=
  (sizeT P t).bind fun n =>
  match x with
  | .ptr id i j =>
    match H id with
    | some (.box cs) => (cellsA y).bind fun ys => if i = 0 ∧ ys.length = n ∧ j + n ≤ cs.length then some (H.set id (.box (spl cs j ys))) else none
    | some (.ints k xs) => match y with
      | .imm (.int k' m) => if k' = k ∧ j = 0 ∧ n = 1 ∧ i < xs.length then some (H.set id (.ints k (xs.set i m))) else none
      | _ => none
    | some (.ds s xs) => match y with
      | .imm d => if s = 1 ∧ d.one = true ∧ j = 0 ∧ n = 1 ∧ i < xs.length then some (H.set id (.ds 1 (xs.set i d))) else none
      | _ => none
    | _ => none
  | _ => none

section
variable {P : Program} {w : World} {N : Nat → Prop} {H : Heap} {ι : Place}

theorem RepD.one {d : D} {v : Value} (h : RepD P w N d v) (h1 : d.one = true) : v.oneCell' = true := by
  cases h <;> first | rfl | assumption | (rename_i h2; obtain ⟨_, _, _, rfl, _⟩ := h2; rfl) | simp [D.one] at h1

theorem RepA.one {x : AV} {v : Value} (h : RepA P w N H ι x v) (h1 : x.one = true) : v.oneCell' = true := by
  cases h with
  | imm h => exact h.one h1
  | row => rfl
  | all => rfl
  | ptr => rfl
  | eptr _ _ hv => subst hv; rfl
  | dptr _ hv => subst hv; rfl
  | clo => rfl
  | yld _ hv _ => obtain ⟨_, rfl⟩ := hv; rfl
  | dfr => simp [AV.one] at h1
  | agg => simp [AV.one] at h1
  | tup => simp [AV.one] at h1
  | undef => simp [AV.one] at h1
  | dead => simp [AV.one] at h1

theorem cells_one {v : Value} (h : v.oneCell' = true) : v.cells = #[v] := by
  cases v <;> first | rfl | simp [Value.oneCell'] at h

theorem cellsA_sound {x : AV} {v : Value} {cs : List AV} (h : cellsA x = some cs) (hx : RepA P w N H ι x v) :
    v.cells.size = cs.length ∧ (∀ i (hi : i < cs.length), RepA P w N H ι cs[i] (v.cells.getD i Go.undef)) ∧ ∀ u ∈ v.cells.toList, u.oneCell' = true := by
  have lone : ∀ {x : AV}, RepA P w N H ι x v → x.one = true → v.cells.size = [x].length ∧ (∀ i (hi : i < [x].length), RepA P w N H ι [x][i] (v.cells.getD i Go.undef)) ∧ ∀ u ∈ v.cells.toList, u.oneCell' = true := by
    intro x hx h1
    have h2 := hx.one h1
    rw [cells_one h2]
    refine ⟨rfl, fun i hi => ?_, fun u hu => ?_⟩
    · simp at hi
      subst hi
      simpa using hx
    · simp at hu
      subst hu
      exact h2
  unfold cellsA at h
  split at h
  · split at h <;> simp at h
    subst h
    rename_i hall
    cases hx with
    | @agg _ vs hl hr =>
      refine ⟨hl, hr, fun u hu => ?_⟩
      obtain ⟨i, hi, rfl⟩ := List.getElem_of_mem hu
      simp [Value.cells] at hi
      have := (hr i (by omega)).one (List.all_eq_true.1 hall _ (List.getElem_mem _))
      simpa [Value.cells, hi] using this
  · split at h <;> simp at h
    subst h
    rename_i ds hall
    cases hx with
    | imm hx =>
    cases hx with
    | agg _ vs hl hr =>
      refine ⟨by simpa [Value.cells] using hl, fun i hi => ?_, fun u hu => ?_⟩
      · simp at hi
        simpa [Value.cells] using RepA.imm (H := H) (ι := ι) (hr i hi)
      · obtain ⟨i, hi, rfl⟩ := List.getElem_of_mem hu
        simp [Value.cells] at hi
        have := (hr i (by omega)).one (List.all_eq_true.1 hall _ (List.getElem_mem _))
        simpa [Value.cells, hi] using this
  · rename_i d hd
    simp at h
    subst h
    exact lone hx (by cases d <;> first | rfl | exact absurd rfl (hd _))
  · simp at h; subst h; exact lone hx rfl
  · simp at h; subst h; exact lone hx rfl
  · simp at h; subst h; exact lone hx rfl
  · simp at h; subst h; exact lone hx rfl
  · simp at h; subst h; exact lone hx rfl
  · simp at h; subst h; exact lone hx rfl
  · simp at h; subst h; exact lone hx rfl
  · simp at h

/-- The laying of cells over a part of a block. -/
theorem run_storeVar {t : TypeId} {n b o : Nat} {arr : Array Value} {e : TypeId} {v : Value} (h : sizeT P t = some n) (hv : v.cells.size = n) (h1 : ∀ u ∈ v.cells.toList, u.oneCell' = true)
    (hg : w.heap[b]? = some (.cells arr e (0, 0))) (hle : o + n ≤ arr.size) :
    (storeVar t ⟨b, o, none⟩ v).run P w = .ok () (w.setRow b (spl arr.toList o v.cells.toList).toArray) := by
  have := run_storeCells_at P b o e v.cells.toList 0 arr w hg (by simp [hv]; omega) h1
  simp only [Nat.add_zero] at this
  simp only [storeVar, Sem.run_bind, run_sizeOf h, Result.andThen_ok, hv]
  simp [this, spl]

theorem setRow_facts (w : World) (b : Nat) (cs : Array Value) : (w.setRow b cs).os = w.os ∧ (w.setRow b cs).tape = w.tape ∧ (w.setRow b cs).output = w.output ∧ (w.setRow b cs).heap.size = w.heap.size :=
  ⟨rfl, rfl, rfl, by simp⟩

theorem storeA_sound {w0 : World} {S N0 : Nat → Prop} {t : TypeId} {x y : AV} {v u : Value} {H' : Heap} (hI : Inv P w0 S N0 H w N ι) (h : storeA P t H x y = some H') (hx : RepA P w N H ι x v) (hy : RepA P w N H ι y u) :
    ∃ w', (Instr.storeAt t v u).run P w = .ok () w' ∧ Inv P w0 S N0 H' w' N ι ∧ Fwd N ι H w N ι H' w' := by
  unfold storeA at h
  simp only [Option.bind_eq_some_iff] at h
  obtain ⟨n, hn, h⟩ := h
  split at h
  case h_2 => simp at h
  rename_i id i j
  cases hx with
  | @ptr _ _ _ x hid hp =>
  split at h
  · rename_i cs hH
    simp only [Option.bind_eq_some_iff] at h
    obtain ⟨ys, h1, h2⟩ := h
    split at h2
    case isFalse => simp at h2
    simp at h2
    subst h2
    rename_i hc
    obtain ⟨rfl, rfl, hle⟩ := hc
    obtain ⟨g1, g2, g3⟩ := cellsA_sound h1 hy
    obtain ⟨b, c, h3, rfl⟩ := hp _ hH rfl
    obtain ⟨b', c', arr, e, h4, h5, h6, h7, f, h8⟩ := hI.rows id _ hH
    rw [h3] at h4
    cases h4
    have hrun := run_storeVar (w := w) (b := b) (o := j) hn g1 g3 h5 (by omega)
    obtain ⟨q1, q2, q3, q4⟩ := setRow_facts w b (spl arr.toList j u.cells.toList).toArray
    refine ⟨_, by simp only [Instr.storeAt, Sem.run_bind, Instr.sureAddr, Sem.run_pure, Result.andThen_ok, Nat.zero_mul, Nat.zero_add]; exact hrun, ?_⟩
    have hsl : (spl arr.toList j u.cells.toList).length = arr.toList.length := spl_length _ _ _ (by simp; omega)
    refine hI.upd hH rfl h3 (by simp only [Row.dim, Row.sz, Row.len, spl_length _ _ _ hle]) q1 q2 q3 q4 (fun k hk => setRow_other w b k _ hk) ⟨arr, e, _, e, h5, setRow_heap w b arr _ e _ h5, by simpa using hsl⟩ fun hf => ?_
    refine ⟨b, c, _, e, h3, setRow_heap w b arr _ e _ h5, by simpa [hsl] using h6, by rw [spl_length _ _ _ hle]; exact h7, fun i => (spl arr.toList j u.cells.toList).toArray.getD i Go.undef, fun i hi => ?_⟩
    rw [spl_length _ _ _ hle] at hi
    have hi' : i < arr.size := by omega
    refine ⟨getD_some (by simp [hsl, hi']), ?_⟩
    have e1 := spl_get cs j ys hle i
    have e2 := spl_get arr.toList j u.cells.toList (by simp; omega) i
    have hu : u.cells.toList.length = ys.length := by simpa using g1
    rw [hu] at e2
    by_cases hb : j ≤ i ∧ i < j + ys.length
    · rw [if_pos hb] at e1 e2
      have hlt : i - j < ys.length := by omega
      rw [List.getElem?_eq_getElem hlt] at e1
      have e3 : (spl cs j ys)[i]'(by rw [spl_length _ _ _ hle]; exact hi) = ys[i - j] := List.getElem_eq_iff _ |>.2 e1
      rw [e3]
      have := (g2 (i - j) hlt).fwd hf
      have e4 : (spl arr.toList j u.cells.toList).toArray.getD i Go.undef = u.cells.getD (i - j) Go.undef := by simp [e2]
      show RepA P _ _ _ _ _ ((spl arr.toList j u.cells.toList).toArray.getD i Go.undef)
      rw [e4]
      exact this
    · rw [if_neg hb] at e1 e2
      rw [List.getElem?_eq_getElem hi] at e1
      have e3 : (spl cs j ys)[i]'(by rw [spl_length _ _ _ hle]; exact hi) = cs[i] := List.getElem_eq_iff _ |>.2 e1
      rw [e3]
      have h9 := h8 i hi
      have e4 : (spl arr.toList j u.cells.toList).toArray.getD i Go.undef = f i := by
        simp [e2, h9.1]
      show RepA P _ _ _ _ _ ((spl arr.toList j u.cells.toList).toArray.getD i Go.undef)
      rw [e4]
      exact h9.2.fwd hf
  · rename_i k xs hH
    split at h
    case h_2 => simp at h
    rename_i k' m
    split at h
    case isFalse => simp at h
    simp at h
    subst h
    rename_i hc
    obtain ⟨rfl, rfl, rfl, hlt⟩ := hc
    cases hy with
    | imm hy =>
    cases hy
    obtain ⟨b, c, h3, rfl⟩ := hp _ hH rfl
    rcases hI.rows id _ hH with ⟨h4, _⟩ | ⟨b', c', arr, e, h4, h5, h6, h7, h8⟩
    · rw [h3] at h4; cases h4
    · rw [h3] at h4
      cases h4
      have hrun := run_storeVar (w := w) (b := b) (o := i) (v := .int k' m) hn rfl (by simp [Value.cells, Value.oneCell']) h5 (by omega)
      rw [show (Value.int k' m).cells.toList = [Value.int k' m] from rfl] at hrun
      obtain ⟨q1, q2, q3, q4⟩ := setRow_facts w b (spl arr.toList i [Value.int k' m]).toArray
      refine ⟨_, by simp only [Instr.storeAt, Sem.run_bind, Instr.sureAddr, Sem.run_pure, Result.andThen_ok, Row.sz, Nat.mul_one, Nat.add_zero]; exact hrun, ?_⟩
      have hsl : (spl arr.toList i [Value.int k' m]).length = arr.toList.length := spl_length _ _ _ (by simp; omega)
      refine hI.upd hH rfl h3 (by simp [Row.dim, Row.sz, Row.len]) q1 q2 q3 q4 (fun k hk => setRow_other w b k _ hk) ⟨arr, e, _, e, h5, setRow_heap w b arr _ e _ h5, by simpa using hsl⟩ fun hf => ?_
      refine .inr ⟨b, c, _, e, h3, setRow_heap w b arr _ e _ h5, by simpa [hsl] using h6, by simpa using h7, fun q hq => ?_⟩
      simp at hq
      have e2 := spl_get arr.toList i [Value.int k' m] (by simp; omega) q
      simp only [List.getElem?_toArray]
      have h9 := h8 q hq
      by_cases hqi : q = i
      · subst hqi
        rw [e2, if_pos ⟨Nat.le_refl _, by simp⟩]
        simp
      · rw [e2, if_neg (by simp; omega)]
        simp [Ne.symm hqi]
        simpa using h9
  · rename_i s xs hH
    split at h
    case h_2 => simp at h
    rename_i d
    split at h
    case isFalse => simp at h
    simp at h
    subst h
    rename_i hc
    obtain ⟨rfl, hd1, rfl, rfl, hlt⟩ := hc
    cases hy with
    | imm hy =>
    have hu1 := hy.one hd1
    have hd0 : d.cells = [d] := by cases d <;> first | rfl | simp [D.one] at hd1
    obtain ⟨b, c, h3, rfl⟩ := hp _ hH rfl
    obtain ⟨hs1, hrow⟩ := hI.rows id _ hH
    have flat1 : ∀ ys : List D, (∀ x ∈ ys, x.cells.length = 1) → (D.flat ys).length = ys.length ∧ ∀ q (hq : q < ys.length), (D.flat ys)[q]? = (ys[q]).cells[0]? := by
      intro ys
      induction ys with
      | nil => intro _; exact ⟨rfl, fun q hq => by simp at hq⟩
      | cons y ys ih =>
        intro hy
        obtain ⟨i1, i2⟩ := ih fun z hz => hy z (by simp [hz])
        have h0 := hy y (by simp)
        obtain ⟨c0, hc0⟩ : ∃ c0, y.cells = [c0] := List.length_eq_one_iff.1 h0
        have e0 : D.flat (y :: ys) = c0 :: D.flat ys := by simp [D.flat, hc0]
        refine ⟨by rw [e0]; simp [i1], fun q hq => ?_⟩
        rw [e0]
        cases q with
        | zero => simp [hc0]
        | succ q => simpa using i2 q (by simpa using hq)
    rcases hrow with ⟨h4, _⟩ | ⟨b', c', arr, e, h4, h5, h6, h7, f, h8⟩
    · rw [h3] at h4; cases h4
    · rw [h3] at h4
      cases h4
      obtain ⟨fl, fg⟩ := flat1 xs hs1
      have hs2 : ∀ x ∈ xs.set i d, x.cells.length = 1 := fun x hx => by
        rcases List.mem_or_eq_of_mem_set hx with hx | rfl
        · exact hs1 x hx
        · rw [hd0]; rfl
      obtain ⟨fl2, fg2⟩ := flat1 (xs.set i d) hs2
      rw [List.length_set] at fl2
      have hrun := run_storeVar (w := w) (b := b) (o := i) (v := u) hn (by rw [cells_one hu1]; rfl) (by rw [cells_one hu1]; simpa using hu1) h5 (by omega)
      rw [show u.cells.toList = [u] by rw [cells_one hu1]] at hrun
      obtain ⟨q1, q2, q3, q4⟩ := setRow_facts w b (spl arr.toList i [u]).toArray
      refine ⟨_, by simp only [Instr.storeAt, Sem.run_bind, Instr.sureAddr, Sem.run_pure, Result.andThen_ok, Row.sz, Nat.mul_one, Nat.add_zero]; exact hrun, ?_⟩
      have hsl : (spl arr.toList i [u]).length = arr.toList.length := spl_length _ _ _ (by simp; omega)
      refine hI.upd hH rfl h3 (by simp [Row.dim, Row.sz, Row.len]) q1 q2 q3 q4 (fun k hk => setRow_other w b k _ hk) ⟨arr, e, _, e, h5, setRow_heap w b arr _ e _ h5, by simpa using hsl⟩ fun hf => ?_
      refine ⟨hs2, .inr ⟨b, c, _, e, h3, setRow_heap w b arr _ e _ h5, by simpa [hsl] using h6, by rw [fl2]; omega, fun q => (spl arr.toList i [u]).toArray.getD q Go.undef, fun q hq => ?_⟩⟩
      rw [fl2] at hq
      have e2 := spl_get arr.toList i [u] (by simp; omega) q
      have hq2 := hs2
      have h9 := h8 q (by omega)
      refine ⟨getD_some (by simp [hsl]; omega), ?_⟩
      by_cases hqi : q = i
      · subst hqi
        rw [if_pos ⟨Nat.le_refl _, by simp⟩] at e2
        have e4 : (spl arr.toList q [u]).toArray.getD q Go.undef = u := by simp [e2]
        have e5 : (D.flat (xs.set q d))[q]'(by omega) = d := by
          have := fg2 q (by simpa using hlt)
          rw [List.getElem?_eq_getElem (by omega)] at this
          simpa [hd0] using this
        show RepD P _ _ ((D.flat (xs.set q d))[q]'(by omega)) ((spl arr.toList q [u]).toArray.getD q Go.undef)
        rw [e4, e5]
        have := (RepA.imm (H := H) (ι := ι) hy).fwd hf
        cases this with
        | imm h => exact h
      · rw [if_neg (by simp; omega)] at e2
        have e4 : (spl arr.toList i [u]).toArray.getD q Go.undef = f q := by simp [e2, h9.1]
        have e5 : (D.flat (xs.set i d))[q]'(by omega) = (D.flat xs)[q]'(by omega) := by
          have t1 := fg2 q (by simpa using by omega)
          have t2 := fg q (by omega)
          rw [List.getElem?_eq_getElem (by omega)] at t1 t2
          rw [List.getElem_set_ne (by omega)] at t1
          exact Option.some.inj (t1.trans t2.symm)
        show RepD P _ _ ((D.flat (xs.set i d))[q]'(by omega)) ((spl arr.toList i [u]).toArray.getD q Go.undef)
        rw [e4, e5]
        have := (RepA.imm (H := H) (ι := ι) h9.2).fwd hf
        cases this with
        | imm h => exact h
  · simp at h
end
end Go.Ab
