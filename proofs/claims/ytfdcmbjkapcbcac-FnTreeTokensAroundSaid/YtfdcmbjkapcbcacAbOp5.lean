/-
  AN ABSTRACT LAYER, 7: stores, new variables.
-/
import Derived.Test.YtfdcmbjkapcbcacAbSh
namespace Go.Ab
variable {P : Program}

/-- ys laid over cs from place j on. -/
def spl {α : Type} (cs : List α) (j : Nat) (ys : List α) : List α := cs.take j ++ ys ++ cs.drop (j + ys.length)

theorem spl_length {α : Type} (cs : List α) (j : Nat) (ys : List α) (h : j + ys.length ≤ cs.length) : (spl cs j ys).length = cs.length := by
  simp [spl]; omega

theorem spl_get {α : Type} (cs : List α) (j : Nat) (ys : List α) (h : j + ys.length ≤ cs.length) (i : Nat) :
    (spl cs j ys)[i]? = if j ≤ i ∧ i < j + ys.length then ys[i - j]? else cs[i]? := by
  unfold spl
  by_cases h1 : i < j
  · rw [List.append_assoc, List.getElem?_append_left (by simp; omega), List.getElem?_take, if_pos h1, if_neg (by omega)]
  · by_cases h2 : i < j + ys.length
    · rw [List.append_assoc, List.getElem?_append_right (by simp; omega), if_pos ⟨by omega, h2⟩, List.getElem?_append_left (by simp; omega)]
      congr 1
      simp
      omega
    · rw [List.getElem?_append_right (by simp; omega), if_neg (by omega), List.getElem?_drop]
      congr 1
      simp
      omega

/-- Scalars. -/
def D.one : D → Bool
  | .agg _ => false
  | _ => true

def AV.one : AV → Bool
  | .imm d => d.one
  | .row .. | .all .. | .ptr .. | .eptr .. | .dptr .. | .clo .. | .yld _ => true
  | _ => false

/-- The cells of a value that is known. -/
def cellsA : AV → Option (List AV)
  | .agg cs => if cs.all AV.one then some cs else none
  | .imm (.agg cs) => if cs.all D.one then some (cs.map AV.imm) else none
  | .imm d => some [.imm d]
  | .row id s o l => some [.row id s o l]
  | .all id s => some [.all id s]
  | .ptr id i j => some [.ptr id i j]
  | .eptr d i j => some [.eptr d i j]
  | .dptr cs j => some [.dptr cs j]
  | .clo f cs => some [.clo f cs]
  | .yld id => some [.yld id]
  | _ => none

/-- The cells of data. -/
def cellsD : D → Option (List D)
  | .agg cs => if cs.all D.one then some cs else none
  | d => some [d]

def unImm : AV → Option D
  | .imm d => some d
  | _ => none

/-- Data out of an abstract value that holds no row. -/
def toD : AV → Option D
  | .imm d => some d
  | .agg cs => (cs.mapM unImm).map D.agg
  | _ => none

/-- Cell j of an element is set. -/
def putC : D → Nat → D → D
  | .agg cs, j, d => .agg (cs.set j d)
  | e, _, _ => e

def putE (s : Nat) (xs : List D) (i j : Nat) (d : D) : List D := if s = 1 then xs.set i d else xs.set i (putC (xs.getD i .junk) j d)

/-- A store into a row of data: a cell of an element, or a whole element. -/
def storeD (P : Program) (t : TypeId) (n s : Nat) (xs : List D) (i j : Nat) (y : AV) : Option (List D) :=
  (toD y).bind fun d0 => (aggT P t).bind fun b => match b with
    | false => if (fixD (shT P t) d0).one = true ∧ n = 1 ∧ j < s ∧ i < xs.length then some (putE s xs i j (fixD (shT P t) d0)) else none
    | true => match fixN P t d0 with
      | .agg cs => if cs.all D.one = true ∧ cs.length = s ∧ j = 0 ∧ n = s ∧ i < xs.length then some (xs.set i (.agg cs)) else none
      | _ => none

def storeA (P : Program) (t : TypeId) (H : Heap) (x y : AV) : Option Heap :=
  (sizeT P t).bind fun n =>
  match x with
  | .ptr id i j =>
    match H id with
    | some (.box cs) => (cellsA y).bind fun ys => if i = 0 ∧ ys.length = n ∧ j + n ≤ cs.length then some (H.set id (.box (spl cs j ys))) else none
    | some (.ints k xs) => match y with
      | .imm (.int k' m) => if k' = k ∧ j = 0 ∧ n = 1 ∧ i < xs.length then some (H.set id (.ints k (xs.set i m))) else none
      | _ => none
    | some (.ds s xs) => (storeD P t n s xs i j y).map fun xs' => H.set id (.ds s xs')
    | _ => none
  | _ => none

section
variable {P : Program} {w : World} {N : Nat → Prop} {H : Heap} {ι : Place}

theorem RepD.one {d : D} {v : Value} (h : RepD P w N d v) (h1 : d.one = true) : v.oneCell' = true := by
  cases h <;> first | rfl | assumption | (rename_i h2; obtain ⟨_, _, _, rfl, _⟩ := h2; rfl) | simp [D.one] at h1

theorem RepA.one {x : AV} {v : Value} (h : RepA P w N H ι x v) (h1 : x.one = true) : v.oneCell' = true := by
  cases h with
  | imm h => exact h.one h1
  | row => rfl
  | all => rfl
  | ptr => rfl
  | eptr _ _ hv => subst hv; rfl
  | dptr _ hv => subst hv; rfl
  | clo => rfl
  | yld _ hv _ => obtain ⟨_, rfl⟩ := hv; rfl
  | dfr => simp [AV.one] at h1
  | agg => simp [AV.one] at h1
  | tup => simp [AV.one] at h1
  | undef => simp [AV.one] at h1
  | dead => simp [AV.one] at h1

theorem cells_one {v : Value} (h : v.oneCell' = true) : v.cells = #[v] := by
  cases v <;> first | rfl | simp [Value.oneCell'] at h

theorem cellsA_sound {x : AV} {v : Value} {cs : List AV} (h : cellsA x = some cs) (hx : RepA P w N H ι x v) :
    v.cells.size = cs.length ∧ (∀ i (hi : i < cs.length), RepA P w N H ι cs[i] (v.cells.getD i Go.undef)) ∧ ∀ u ∈ v.cells.toList, u.oneCell' = true := by
  have lone : ∀ {x : AV}, RepA P w N H ι x v → x.one = true → v.cells.size = [x].length ∧ (∀ i (hi : i < [x].length), RepA P w N H ι [x][i] (v.cells.getD i Go.undef)) ∧ ∀ u ∈ v.cells.toList, u.oneCell' = true := by
    intro x hx h1
    have h2 := hx.one h1
    rw [cells_one h2]
    refine ⟨rfl, fun i hi => ?_, fun u hu => ?_⟩
    · simp at hi
      subst hi
      simpa using hx
    · simp at hu
      subst hu
      exact h2
  unfold cellsA at h
  split at h
  · split at h <;> simp at h
    subst h
    rename_i hall
    cases hx with
    | @agg _ vs hl hr =>
      refine ⟨hl, hr, fun u hu => ?_⟩
      obtain ⟨i, hi, rfl⟩ := List.getElem_of_mem hu
      simp [Value.cells] at hi
      have := (hr i (by omega)).one (List.all_eq_true.1 hall _ (List.getElem_mem _))
      simpa [Value.cells, hi] using this
  · split at h <;> simp at h
    subst h
    rename_i ds hall
    cases hx with
    | imm hx =>
    cases hx with
    | agg _ vs hl hr =>
      refine ⟨by simpa [Value.cells] using hl, fun i hi => ?_, fun u hu => ?_⟩
      · simp at hi
        simpa [Value.cells] using RepA.imm (H := H) (ι := ι) (hr i hi)
      · obtain ⟨i, hi, rfl⟩ := List.getElem_of_mem hu
        simp [Value.cells] at hi
        have := (hr i (by omega)).one (List.all_eq_true.1 hall _ (List.getElem_mem _))
        simpa [Value.cells, hi] using this
  · rename_i d hd
    simp at h
    subst h
    exact lone hx (by cases d <;> first | rfl | exact absurd rfl (hd _))
  · simp at h; subst h; exact lone hx rfl
  · simp at h; subst h; exact lone hx rfl
  · simp at h; subst h; exact lone hx rfl
  · simp at h; subst h; exact lone hx rfl
  · simp at h; subst h; exact lone hx rfl
  · simp at h; subst h; exact lone hx rfl
  · simp at h; subst h; exact lone hx rfl
  · simp at h

/-- The laying of cells over a part of a block. -/
theorem run_storeVar {t : TypeId} {n b o : Nat} {arr : Array Value} {e : TypeId} {v : Value} (h : sizeT P t = some n) (hv : v.cells.size = n) (h1 : ∀ u ∈ v.cells.toList, u.oneCell' = true)
    (hg : w.heap[b]? = some (.cells arr e (0, 0))) (hle : o + n ≤ arr.size) :
    (storeVar t ⟨b, o, none⟩ v).run P w = .ok () (w.setRow b (spl arr.toList o v.cells.toList).toArray) := by
  have := run_storeCells_at P b o e v.cells.toList 0 arr w hg (by simp [hv]; omega) h1
  simp only [Nat.add_zero] at this
  simp only [storeVar, Sem.run_bind, run_sizeOf h, Result.andThen_ok, hv]
  simp [this, spl]

theorem setRow_facts (w : World) (b : Nat) (cs : Array Value) : (w.setRow b cs).os = w.os ∧ (w.setRow b cs).tape = w.tape ∧ (w.setRow b cs).output = w.output ∧ (w.setRow b cs).heap.size = w.heap.size :=
  ⟨rfl, rfl, rfl, by simp⟩

theorem toD_rep {y : AV} {d : D} {u : Value} (h : toD y = some d) (hy : RepA P w N H ι y u) : RepD P w N d u := by
  unfold toD at h
  split at h
  · simp at h; subst h; cases hy; assumption
  · rename_i cs
    simp only [Option.map_eq_some_iff] at h
    obtain ⟨ds, h1, rfl⟩ := h
    cases hy with
    | @agg _ vs hl hr =>
    have key : ∀ (cs : List AV) (ds : List D), cs.mapM unImm = some ds → cs = ds.map AV.imm := by
      intro cs
      induction cs with
      | nil => intro ds h; simp at h; subst h; rfl
      | cons c cs ih =>
        intro ds h
        simp only [List.mapM_cons, Option.bind_eq_bind, Option.bind_eq_some_iff, Option.pure_def, Option.some.injEq] at h
        obtain ⟨x, h1, xs, h2, rfl⟩ := h
        rw [ih xs h2]
        unfold unImm at h1
        split at h1 <;> simp at h1
        subst h1
        rfl
    obtain rfl := key cs ds h1
    refine .agg ds vs (by simpa using hl) fun i hi => ?_
    have := hr i (by simpa using hi)
    simp only [List.getElem_map] at this
    cases this with
    | imm h => exact h
  · cases h

theorem flat_set {s : Nat} (xs : List D) (h : ∀ x ∈ xs, x.cells.length = s) (i : Nat) (hi : i < xs.length) (e : D) (he : e.cells.length = s) :
    (∀ x ∈ xs.set i e, x.cells.length = s) ∧ ∀ q, (D.flat (xs.set i e))[q]? = if i * s ≤ q ∧ q < i * s + s then e.cells[q - i * s]? else (D.flat xs)[q]? := by
  have h2 : ∀ x ∈ xs.set i e, x.cells.length = s := fun x hx => by
    rcases List.mem_or_eq_of_mem_set hx with hx | rfl
    · exact h x hx
    · exact he
  refine ⟨h2, fun q => ?_⟩
  have f1 := flat_length xs h
  have f2 := flat_length _ h2
  rw [List.length_set] at f2
  have hmul : i * s + s ≤ xs.length * s := by
    have := Nat.mul_le_mul_right s (show i + 1 ≤ xs.length by omega)
    rw [Nat.add_mul, Nat.one_mul] at this
    exact this
  by_cases hq : q < xs.length * s
  · have hs : 0 < s := by
      rcases Nat.eq_zero_or_pos s with rfl | h
      · simp at hq
      · exact h
    have ha : q / s < xs.length := (Nat.div_lt_iff_lt_mul hs).2 hq
    have hb : q % s < s := Nat.mod_lt _ hs
    have eq : q / s * s + q % s = q := by rw [Nat.mul_comm]; exact Nat.div_add_mod q s
    have g1 := flat_get xs h (q / s) (q % s) ha hb
    have g2 := flat_get _ h2 (q / s) (q % s) (by simpa using ha) hb
    rw [eq] at g1 g2
    rw [g1, g2]
    by_cases hai : q / s = i
    · rw [if_pos ⟨by rw [← hai]; omega, by rw [← hai]; omega⟩]
      simp only [hai, List.getElem_set_self]
      congr 1
      rw [← hai]
      omega
    · rw [List.getElem_set_ne (by omega), if_neg]
      rintro ⟨c1, c2⟩
      exact hai (Nat.div_eq_of_lt_le (by omega) (by rw [Nat.add_mul, Nat.one_mul]; omega))
  · rw [if_neg (by omega), List.getElem?_eq_none (by omega), List.getElem?_eq_none (by omega)]

theorem storeD_sound {t : TypeId} {n s i j : Nat} {xs xs' : List D} {y : AV} {u : Value} (h : storeD P t n s xs i j y = some xs') (hy : RepA P w N H ι y u) (hs : ∀ x ∈ xs, x.cells.length = s) :
    ∃ ys : List D, ys.length = n ∧ u.cells.size = n ∧ (∀ q (hq : q < ys.length), RepD P w N ys[q] (u.cells.getD q Go.undef)) ∧ (∀ v ∈ u.cells.toList, v.oneCell' = true) ∧ xs'.length = xs.length ∧ (∀ x ∈ xs', x.cells.length = s) ∧
      i * s + j + n ≤ xs.length * s ∧ ∀ q, (D.flat xs')[q]? = if i * s + j ≤ q ∧ q < i * s + j + n then ys[q - (i * s + j)]? else (D.flat xs)[q]? := by
  have hmul : i < xs.length → i * s + s ≤ xs.length * s := fun hi => by
    have := Nat.mul_le_mul_right s (show i + 1 ≤ xs.length by omega)
    rw [Nat.add_mul, Nat.one_mul] at this
    exact this
  unfold storeD at h
  simp only [Option.bind_eq_some_iff] at h
  obtain ⟨d0, h1, b, h2, h3⟩ := h
  have hd := toD_rep h1 hy
  cases b with
  | false =>
    simp only at h3
    split at h3
    case isFalse => simp at h3
    rename_i hc
    obtain ⟨c1, rfl, c3, c4⟩ := hc
    simp at h3
    subst h3
    have hd' := fixD_rep (s := shT P t) hd
    generalize fixD (shT P t) d0 = d at c1 hd'
    have hu1 := hd'.one c1
    have hm := hmul c4
    have base : u.cells.size = 1 ∧ (∀ q (hq : q < [d].length), RepD P w N [d][q] (u.cells.getD q Go.undef)) ∧ (∀ v ∈ u.cells.toList, v.oneCell' = true) := by
      rw [cells_one hu1]
      refine ⟨rfl, fun q hq => ?_, fun v hv => ?_⟩
      · simp at hq
        subst hq
        simpa using hd'
      · simp at hv
        subst hv
        exact hu1
    refine ⟨[d], rfl, base.1, base.2.1, base.2.2, ?_⟩
    have hdc : d.cells = [d] := by cases d <;> first | rfl | simp [D.one] at c1
    unfold putE
    by_cases hs1 : s = 1
    · subst hs1
      obtain rfl : j = 0 := by omega
      rw [if_pos rfl]
      obtain ⟨g1, g2⟩ := flat_set xs hs i c4 d (by rw [hdc]; rfl)
      exact ⟨List.length_set, g1, by omega, fun q => by rw [g2 q, hdc]; rfl⟩
    · rw [if_neg hs1]
      have hge : xs.getD i .junk = xs[i] := by simp [List.getD_eq_getElem?_getD, c4]
      have hcl := hs _ (List.getElem_mem c4)
      rw [hge]
      obtain ⟨cs, hcs⟩ : ∃ cs, xs[i] = .agg cs := by
        cases hx : xs[i] with
        | agg cs => exact ⟨cs, rfl⟩
        | _ => rw [hx] at hcl; simp [D.cells] at hcl; omega
      rw [hcs] at hcl ⊢
      simp only [D.cells] at hcl
      obtain ⟨g1, g2⟩ := flat_set xs hs i c4 (.agg (cs.set j d)) (by simpa [D.cells] using hcl)
      refine ⟨List.length_set, g1, by omega, fun q => ?_⟩
      rw [putC, g2 q]
      simp only [D.cells]
      have hold : ∀ b, b < s → (D.flat xs)[i * s + b]? = cs[b]? := fun b hb => by
        have := flat_get xs hs i b c4 hb
        rw [this, hcs]
        rfl
      by_cases hin : i * s ≤ q ∧ q < i * s + s
      · rw [if_pos hin]
        by_cases hj : q = i * s + j
        · subst hj
          rw [if_pos ⟨Nat.le_refl _, by omega⟩, Nat.add_sub_cancel_left, Nat.sub_self, List.getElem?_set_self (by omega)]
          rfl
        · rw [if_neg (by omega), List.getElem?_set_ne (by omega), ← hold (q - i * s) (by omega)]
          congr 1
          omega
      · rw [if_neg hin, if_neg (by omega)]
  | true =>
    simp only at h3
    have hd' := fixN_rep (t := t) hd
    split at h3
    case h_2 => simp at h3
    rename_i cs hfx
    rw [hfx] at hd'
    split at h3
    case isFalse => simp at h3
    rename_i hc
    obtain ⟨c1, c2, rfl, rfl, c5⟩ := hc
    simp at h3
    subst h3
    have hm := hmul c5
    cases hd' with
    | agg _ vs hl hr =>
    obtain ⟨g1, g2⟩ := flat_set xs hs i c5 (.agg cs) c2
    refine ⟨cs, c2, by simpa [Value.cells, ← c2] using hl, fun q hq => hr q hq, fun v hv => ?_, List.length_set, g1, by omega, fun q => by rw [g2 q]; rfl⟩
    obtain ⟨q, hq, rfl⟩ := List.getElem_of_mem hv
    simp only [Value.cells, Array.length_toList] at hq
    have := (hr q (by omega)).one (List.all_eq_true.1 c1 _ (List.getElem_mem _))
    simpa [Value.cells, hq] using this

theorem storeA_sound {w0 : World} {S N0 : Nat → Prop} {t : TypeId} {x y : AV} {v u : Value} {H' : Heap} (hI : Inv P w0 S N0 H w N ι) (h : storeA P t H x y = some H') (hx : RepA P w N H ι x v) (hy : RepA P w N H ι y u) :
    ∃ w', (Instr.storeAt t v u).run P w = .ok () w' ∧ Inv P w0 S N0 H' w' N ι ∧ Fwd N ι H w N ι H' w' := by
  unfold storeA at h
  simp only [Option.bind_eq_some_iff] at h
  obtain ⟨n, hn, h⟩ := h
  split at h
  case h_2 => simp at h
  rename_i id i j
  cases hx with
  | @ptr _ _ _ x hid hp =>
  split at h
  · rename_i cs hH
    simp only [Option.bind_eq_some_iff] at h
    obtain ⟨ys, h1, h2⟩ := h
    split at h2
    case isFalse => simp at h2
    simp at h2
    subst h2
    rename_i hc
    obtain ⟨rfl, rfl, hle⟩ := hc
    obtain ⟨g1, g2, g3⟩ := cellsA_sound h1 hy
    obtain ⟨b, c, h3, rfl⟩ := hp _ hH rfl
    obtain ⟨b', c', arr, e, h4, h5, h6, h7, f, h8⟩ := hI.rows id _ hH
    rw [h3] at h4
    cases h4
    have hrun := run_storeVar (w := w) (b := b) (o := j) hn g1 g3 h5 (by omega)
    obtain ⟨q1, q2, q3, q4⟩ := setRow_facts w b (spl arr.toList j u.cells.toList).toArray
    refine ⟨_, by simp only [Instr.storeAt, Sem.run_bind, Instr.sureAddr, Sem.run_pure, Result.andThen_ok, Nat.zero_mul, Nat.zero_add]; exact hrun, ?_⟩
    have hsl : (spl arr.toList j u.cells.toList).length = arr.toList.length := spl_length _ _ _ (by simp; omega)
    refine hI.upd hH rfl h3 (by simp only [Row.dim, Row.sz, Row.len, spl_length _ _ _ hle]) q1 q2 q3 q4 (fun k hk => setRow_other w b k _ hk) ⟨arr, e, _, e, h5, setRow_heap w b arr _ e _ h5, by simpa using hsl⟩ fun hf => ?_
    refine ⟨b, c, _, e, h3, setRow_heap w b arr _ e _ h5, by simpa [hsl] using h6, by rw [spl_length _ _ _ hle]; exact h7, fun i => (spl arr.toList j u.cells.toList).toArray.getD i Go.undef, fun i hi => ?_⟩
    rw [spl_length _ _ _ hle] at hi
    have hi' : i < arr.size := by omega
    refine ⟨getD_some (by simp [hsl, hi']), ?_⟩
    have e1 := spl_get cs j ys hle i
    have e2 := spl_get arr.toList j u.cells.toList (by simp; omega) i
    have hu : u.cells.toList.length = ys.length := by simpa using g1
    rw [hu] at e2
    by_cases hb : j ≤ i ∧ i < j + ys.length
    · rw [if_pos hb] at e1 e2
      have hlt : i - j < ys.length := by omega
      rw [List.getElem?_eq_getElem hlt] at e1
      have e3 : (spl cs j ys)[i]'(by rw [spl_length _ _ _ hle]; exact hi) = ys[i - j] := List.getElem_eq_iff _ |>.2 e1
      rw [e3]
      have := (g2 (i - j) hlt).fwd hf
      have e4 : (spl arr.toList j u.cells.toList).toArray.getD i Go.undef = u.cells.getD (i - j) Go.undef := by simp [e2]
      show RepA P _ _ _ _ _ ((spl arr.toList j u.cells.toList).toArray.getD i Go.undef)
      rw [e4]
      exact this
    · rw [if_neg hb] at e1 e2
      rw [List.getElem?_eq_getElem hi] at e1
      have e3 : (spl cs j ys)[i]'(by rw [spl_length _ _ _ hle]; exact hi) = cs[i] := List.getElem_eq_iff _ |>.2 e1
      rw [e3]
      have h9 := h8 i hi
      have e4 : (spl arr.toList j u.cells.toList).toArray.getD i Go.undef = f i := by
        simp [e2, h9.1]
      show RepA P _ _ _ _ _ ((spl arr.toList j u.cells.toList).toArray.getD i Go.undef)
      rw [e4]
      exact h9.2.fwd hf
  · rename_i k xs hH
    split at h
    case h_2 => simp at h
    rename_i k' m
    split at h
    case isFalse => simp at h
    simp at h
    subst h
    rename_i hc
    obtain ⟨rfl, rfl, rfl, hlt⟩ := hc
    cases hy with
    | imm hy =>
    cases hy
    obtain ⟨b, c, h3, rfl⟩ := hp _ hH rfl
    rcases hI.rows id _ hH with ⟨h4, _⟩ | ⟨b', c', arr, e, h4, h5, h6, h7, h8⟩
    · rw [h3] at h4; cases h4
    · rw [h3] at h4
      cases h4
      have hrun := run_storeVar (w := w) (b := b) (o := i) (v := .int k' m) hn rfl (by simp [Value.cells, Value.oneCell']) h5 (by omega)
      rw [show (Value.int k' m).cells.toList = [Value.int k' m] from rfl] at hrun
      obtain ⟨q1, q2, q3, q4⟩ := setRow_facts w b (spl arr.toList i [Value.int k' m]).toArray
      refine ⟨_, by simp only [Instr.storeAt, Sem.run_bind, Instr.sureAddr, Sem.run_pure, Result.andThen_ok, Row.sz, Nat.mul_one, Nat.add_zero]; exact hrun, ?_⟩
      have hsl : (spl arr.toList i [Value.int k' m]).length = arr.toList.length := spl_length _ _ _ (by simp; omega)
      refine hI.upd hH rfl h3 (by simp [Row.dim, Row.sz, Row.len]) q1 q2 q3 q4 (fun k hk => setRow_other w b k _ hk) ⟨arr, e, _, e, h5, setRow_heap w b arr _ e _ h5, by simpa using hsl⟩ fun hf => ?_
      refine .inr ⟨b, c, _, e, h3, setRow_heap w b arr _ e _ h5, by simpa [hsl] using h6, by simpa using h7, fun q hq => ?_⟩
      simp at hq
      have e2 := spl_get arr.toList i [Value.int k' m] (by simp; omega) q
      simp only [List.getElem?_toArray]
      have h9 := h8 q hq
      by_cases hqi : q = i
      · subst hqi
        rw [e2, if_pos ⟨Nat.le_refl _, by simp⟩]
        simp
      · rw [e2, if_neg (by simp; omega)]
        simp [Ne.symm hqi]
        simpa using h9
  · rename_i s xs hH
    simp only [Option.map_eq_some_iff] at h
    obtain ⟨xs', h, rfl⟩ := h
    obtain ⟨hs1, hrow⟩ := hI.rows id _ hH
    obtain ⟨ys, y1, y2, y3, y4, y5, y6, y7, y8⟩ := storeD_sound h hy hs1
    obtain ⟨b, c, h3, rfl⟩ := hp _ hH rfl
    have fl1 := flat_length xs hs1
    have fl2 := flat_length xs' y6
    rcases hrow with ⟨h4, _⟩ | ⟨b', c', arr, e, h4, h5, h6, h7, f, h8⟩
    · rw [h3] at h4; cases h4
    · rw [h3] at h4
      cases h4
      have hul : u.cells.toList.length = n := by simpa using y2
      have hrun := run_storeVar (w := w) (b := b) (o := i * s + j) (v := u) hn y2 y4 h5 (by omega)
      obtain ⟨q1, q2, q3, q4⟩ := setRow_facts w b (spl arr.toList (i * s + j) u.cells.toList).toArray
      refine ⟨_, by simp only [Instr.storeAt, Sem.run_bind, Instr.sureAddr, Sem.run_pure, Result.andThen_ok, Row.sz]; exact hrun, ?_⟩
      have hsl : (spl arr.toList (i * s + j) u.cells.toList).length = arr.toList.length := spl_length _ _ _ (by simp only [Array.length_toList]; omega)
      refine hI.upd hH rfl h3 (by simp [Row.dim, Row.sz, Row.len, y5]) q1 q2 q3 q4 (fun k hk => setRow_other w b k _ hk) ⟨arr, e, _, e, h5, setRow_heap w b arr _ e _ h5, by simpa using hsl⟩ fun hf => ?_
      refine ⟨y6, .inr ⟨b, c, _, e, h3, setRow_heap w b arr _ e _ h5, by simpa [hsl] using h6, by rw [fl2, y5, ← fl1]; exact h7, fun q => (spl arr.toList (i * s + j) u.cells.toList).toArray.getD q Go.undef, fun q hq => ?_⟩⟩
      have hq1 : q < (D.flat xs).length := by rw [fl1, ← y5, ← fl2]; exact hq
      have e2 := spl_get arr.toList (i * s + j) u.cells.toList (by simp only [Array.length_toList]; omega) q
      rw [hul] at e2
      refine ⟨getD_some (by simp [hsl]; omega), ?_⟩
      have e3 := y8 q
      rw [List.getElem?_eq_getElem hq] at e3
      by_cases hin : i * s + j ≤ q ∧ q < i * s + j + n
      · rw [if_pos hin] at e2 e3
        have hlt : q - (i * s + j) < ys.length := by omega
        rw [List.getElem?_eq_getElem hlt] at e3
        have e4 : (spl arr.toList (i * s + j) u.cells.toList).toArray.getD q Go.undef = u.cells.getD (q - (i * s + j)) Go.undef := by simp [e2]
        show RepD P _ _ ((D.flat xs')[q]) ((spl arr.toList (i * s + j) u.cells.toList).toArray.getD q Go.undef)
        rw [e4, Option.some.inj e3]
        exact (y3 _ hlt).mono hf.hN hf.hc
      · rw [if_neg hin] at e2 e3
        rw [List.getElem?_eq_getElem hq1] at e3
        have h9 := h8 q hq1
        have e4 : (spl arr.toList (i * s + j) u.cells.toList).toArray.getD q Go.undef = f q := by simp [e2, h9.1]
        show RepD P _ _ ((D.flat xs')[q]) ((spl arr.toList (i * s + j) u.cells.toList).toArray.getD q Go.undef)
        rw [e4, Option.some.inj e3]
        exact h9.2.mono hf.hN hf.hc
  · simp at h
end
end Go.Ab
