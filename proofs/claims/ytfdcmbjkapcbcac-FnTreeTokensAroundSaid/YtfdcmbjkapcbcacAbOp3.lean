/-
  AN ABSTRACT LAYER, 5: slices of slices, lengths, loads.
-/
import Derived.Test.YtfdcmbjkapcbcacAbOp2
namespace Go.Ab
variable {P : Program}

/-- Both ends, or the model's own word for 'none given'. -/
inductive RepO (P : Program) (w : World) (N : Nat → Prop) (H : Heap) (ι : Place) : Option AV → Option Value → Prop where
  | none : RepO P w N H ι none none
  | some {x v} (h : RepA P w N H ι x v) : RepO P w N H ι (some x) (some v)

section
variable {P : Program} {w : World} {N : Nat → Prop} {H : Heap} {ι : Place}

theorem cutEnds_sound {isS : Bool} {n cap l h : Nat} {lo hi : Option AV} {u v : Option Value} (hc : cutEnds n lo hi = some (l, h)) (hu : RepO P w N H ι lo u) (hv : RepO P w N H ι hi v) (hn : n ≤ cap) :
    (Instr.sliceBounds isS n cap u v none).run P w = .ok (l, h, cap) w ∧ l ≤ h ∧ h ≤ n := by
  unfold cutEnds at hc
  simp only [Option.bind_eq_some_iff] at hc
  obtain ⟨h', h1, l', h2, h3⟩ := hc
  simp at h3
  obtain ⟨rfl, rfl⟩ := h3
  have hh : h' ≤ n ∧ ((match v, (none : Option Value) with
    | some v, some _ => Instr.sliceBound v cap .slice3B
    | some v, none => Instr.sliceBound v cap (if isS then .sliceAcap else .sliceAlen)
    | none, none => pure n
    | none, some _ => stuck "Slice: max without high") : Sem Nat).run P w = .ok h' w := by
    cases hv with
    | none => simp at h1; subst h1; exact ⟨Nat.le_refl _, by simp⟩
    | some hv =>
      split at h1
      · rename_i heq; cases heq
      · rename_i heq
        cases heq
        split at h1 <;> simp at h1
        subst h1
        rename_i hb
        cases hv with
        | imm hv =>
        cases hv
        refine ⟨by omega, ?_⟩
        simp only [Instr.sliceBound, asIntOf, Sem.run_bind, Sem.run_pure, Result.andThen_ok]
        rw [if_pos ⟨hb.1, by omega⟩]
        rfl
      · simp at h1
  have hl : l' ≤ h' ∧ ((match u with
    | some v => Instr.sliceBound v h' .sliceB
    | none => pure 0) : Sem Nat).run P w = .ok l' w := by
    cases hu with
    | none => simp at h2; subst h2; exact ⟨Nat.zero_le _, rfl⟩
    | some hu =>
      split at h2
      · rename_i heq; cases heq
      · rename_i heq
        cases heq
        split at h2 <;> simp at h2
        subst h2
        rename_i hb
        cases hu with
        | imm hu =>
        cases hu
        refine ⟨by omega, ?_⟩
        simp only [Instr.sliceBound, asIntOf, Sem.run_bind, Sem.run_pure, Result.andThen_ok]
        rw [if_pos hb]
        rfl
      · simp at h2
  refine ⟨?_, hl.1, hh.1⟩
  obtain ⟨-, hh⟩ := hh
  obtain ⟨-, hl⟩ := hl
  cases u <;> cases v <;> (simp only [] at hh hl; simp only [Instr.sliceBounds, Sem.run_bind, Result.andThen_ok, Sem.run_pure, Option.isSome_none, Bool.false_eq_true, if_false] ; first | (rw [hh]; simp only [Result.andThen_ok]; first | (rw [hl]; rfl) | rfl) | skip)
  all_goals simp_all

theorem flat_drop {s : Nat} : ∀ (xs : List D) (n : Nat), (∀ x ∈ xs, x.cells.length = s) → D.flat (xs.drop n) = (D.flat xs).drop (n * s)
  | xs, 0, _ => by simp
  | [], n + 1, _ => by simp [D.flat]
  | x :: xs, n + 1, h => by
    have hx := h x (by simp)
    have := flat_drop xs n fun y hy => h y (by simp [hy])
    simp only [D.flat, List.drop_succ_cons, List.flatMap_cons] at *
    rw [this, Nat.add_mul, Nat.one_mul, Nat.add_comm, ← hx, List.drop_append]
    simp

theorem flat_length {s : Nat} : ∀ (xs : List D), (∀ x ∈ xs, x.cells.length = s) → (D.flat xs).length = xs.length * s
  | [], _ => by simp [D.flat]
  | x :: xs, h => by
    have := flat_length xs fun y hy => h y (by simp [hy])
    simp only [D.flat, List.flatMap_cons, List.length_append, List.length_cons] at *
    rw [this, h x (by simp), Nat.add_mul, Nat.one_mul, Nat.add_comm]

theorem flat_get {s : Nat} (xs : List D) (h : ∀ x ∈ xs, x.cells.length = s) (i j : Nat) (hi : i < xs.length) (hj : j < s) :
    (D.flat xs)[i * s + j]? = (xs[i]).cells[j]? := by
  have h1 := flat_drop (s := s) xs i h
  have h2 : (D.flat xs)[i * s + j]? = ((D.flat xs).drop (i * s))[j]? := by simp
  rw [h2, ← h1, List.drop_eq_getElem_cons hi]
  simp only [D.flat, List.flatMap_cons]
  rw [List.getElem?_append_left (by rw [h _ (List.getElem_mem hi)]; exact hj)]

theorem flat_take' {s : Nat} (xs : List D) (h : ∀ x ∈ xs, x.cells.length = s) (n : Nat) : D.flat (xs.take n) = (D.flat xs).take (n * s) := by
  induction xs generalizing n with
  | nil => simp [D.flat]
  | cons x xs ih =>
    cases n with
    | zero => simp [D.flat]
    | succ n =>
      have hx := h x (by simp)
      have := ih (fun y hy => h y (by simp [hy])) n
      simp only [D.flat, List.take_succ_cons, List.flatMap_cons] at *
      rw [this, Nat.add_mul, Nat.one_mul, Nat.add_comm (n * s), ← hx, List.take_append]
      simp
      exact (List.take_of_length_le (by omega)).symm

theorem cutD_sound {d : D} {n l h cap : Nat} {a : Option Addr} (hd : RepD P w N d (.slice a n cap)) (hn : dlen d = some n) (h1 : l ≤ h) (h2 : h ≤ n) :
    RepD P w N (cutD d l h) (.slice (if cap = l then a else a.map (·.add (l * d.sz))) (h - l) (cap - l)) := by
  cases hd
  case nils =>
    obtain rfl : h = 0 := by omega
    obtain rfl : l = 0 := by omega
    simpa [cutD] using RepD.nils
  case ints0 k =>
    obtain rfl : h = 0 := by omega
    obtain rfl : l = 0 := by omega
    simpa [cutD] using RepD.ints0 (P := P) (w := w) (N := N) k _ _
  case junk => simp [dlen] at hn
  case fn => simp [dlen] at hn
  case seq0 s =>
    obtain rfl : h = 0 := by omega
    obtain rfl : l = 0 := by omega
    simpa [cutD] using RepD.seq0 (P := P) (w := w) (N := N) s _ _
  case ints k xs b off hN hr hc =>
    simp only [cutD, D.sz, Nat.mul_one]
    have hlen : ((xs.drop l).take (h - l)).length = h - l := by simp; omega
    by_cases he : h = l
    · subst he
      simp only [Nat.sub_self, List.take_zero]
      exact .ints0 _ _ _
    · rw [if_neg (by omega)]
      have := RepD.ints (P := P) (w := w) (N := N) k ((xs.drop l).take (h - l)) b (off + l) (cap - l) hN (by omega) (fun i hi => by
        have := hr (l + i) (by omega)
        simp
        rw [Nat.add_assoc]
        exact this)
      rw [hlen] at this
      simpa [Addr.add_lit] using this
  case seq s xs b off f hN hs hr hf hc =>
    simp only [cutD, D.sz]
    have hlen : ((xs.drop l).take (h - l)).length = h - l := by simp; omega
    by_cases he : h = l
    · subst he
      simp only [Nat.sub_self, List.take_zero]
      exact .seq0 _ _ _
    · rw [if_neg (by omega)]
      have hs1 : ∀ x ∈ xs.drop l, x.cells.length = s := fun x hx => hs x (List.mem_of_mem_drop hx)
      have hfl : D.flat ((xs.drop l).take (h - l)) = ((D.flat xs).drop (l * s)).take ((h - l) * s) := by
        rw [flat_take' _ hs1, flat_drop _ _ hs]
      have hlt : ∀ i, i < (D.flat ((xs.drop l).take (h - l))).length → l * s + i < (D.flat xs).length := fun i hi => by
        rw [hfl] at hi
        simp at hi
        omega
      have hget : ∀ i (hi : i < (D.flat ((xs.drop l).take (h - l))).length), (D.flat ((xs.drop l).take (h - l)))[i] = (D.flat xs)[l * s + i]'(hlt i hi) := fun i hi => by
        have : (D.flat ((xs.drop l).take (h - l)))[i]? = (((D.flat xs).drop (l * s)).take ((h - l) * s))[i]? := congrArg (fun l => l[i]?) hfl
        rw [List.getElem?_eq_getElem hi, List.getElem?_take, if_pos (by rw [hfl] at hi; simp at hi; omega), List.getElem?_drop, List.getElem?_eq_getElem (hlt i hi)] at this
        exact Option.some.inj this
      have := RepD.seq (P := P) (w := w) (N := N) s ((xs.drop l).take (h - l)) b (off + l * s) (cap - l) (fun i => f (l * s + i)) hN (by omega) (fun x hx => hs1 x (List.mem_of_mem_take hx))
        (fun i hi => by rw [Nat.add_assoc]; exact hr _ (hlt i hi)) (fun i hi => by rw [hget i hi]; exact hf _ (hlt i hi))
      rw [hlen] at this
      simpa [Addr.add_lit] using this

theorem cutD_soundN {d : D} {n l h cap s : Nat} {a : Option Addr} (hs : s = d.szN s) (hd : RepD P w N d (.slice a n cap)) (hn : dlen d = some n) (h1 : l ≤ h) (h2 : h ≤ n) :
    RepD P w N (cutD d l h) (.slice (if cap = l then a else a.map (·.add (l * s))) (h - l) (cap - l)) := by
  by_cases hd' : d = .nils
  · subst hd'
    cases hd
    obtain rfl : h = 0 := by omega
    obtain rfl : l = 0 := by omega
    simpa [cutD] using RepD.nils
  · have e : s = d.sz := by cases d <;> first | exact absurd rfl hd' | exact hs
    subst e
    exact cutD_sound hd hn h1 h2

theorem run_sliceAt_plain {t e : TypeId} (hu : P.underlying t = some (.slice e)) (x : Value) (lo hi : Option Value) :
    (Instr.sliceAt t x lo hi none).run P w = (Instr.slice t x lo hi none).run P w := by
  simp only [Instr.sliceAt, Sem.run_bind, run_under hu, Result.andThen_ok]

theorem run_sliceAt_str {t : TypeId} (hu : P.underlying t = some .string) (x : Value) (lo hi : Option Value) :
    (Instr.sliceAt t x lo hi none).run P w = (Instr.slice t x lo hi none).run P w := by
  simp only [Instr.sliceAt, Sem.run_bind, run_under hu, Result.andThen_ok]

theorem sliceA_sound {t : TypeId} {x y : AV} {lo hi : Option AV} {v : Value} {ul uh : Option Value} (h : sliceA P t H x lo hi = some y) (hx : RepA P w N H ι x v) (hl : RepO P w N H ι lo ul) (hh : RepO P w N H ι hi uh) :
    ∃ z, (Instr.sliceAt t v ul uh none).run P w = .ok z w ∧ RepA P w N H ι y z := by
  unfold sliceA at h
  split at h
  · split at h
    · rename_i s hu
      simp only [Option.map_eq_some_iff] at h
      obtain ⟨⟨l, h'⟩, h1, rfl⟩ := h
      cases hx with
      | imm hx =>
      cases hx
      obtain ⟨h2, h3, h4⟩ := cutEnds_sound (P := P) (isS := false) h1 hl hh (Nat.le_refl _)
      exact ⟨_, by rw [run_sliceAt_str hu]; simp only [Instr.slice, Sem.run_bind, run_under hu, Result.andThen_ok, Option.isSome_none, Bool.false_eq_true, if_false, Sem.run_pure, h2], .imm (.str _)⟩
    · simp at h
  · rename_i id s off len
    simp only [Option.bind_eq_some_iff] at h
    obtain ⟨e, h1, s', h2, h3⟩ := h
    have hu := elemT_spec h1
    split at h3
    case isFalse => simp at h3
    rename_i hss
    subst hss
    simp only [Option.map_eq_some_iff] at h3
    obtain ⟨⟨l, h'⟩, h3, rfl⟩ := h3
    cases hx with
    | @row id _ off len a cap hid hs hc hp =>
      obtain ⟨h4, h5, h6⟩ := cutEnds_sound (P := P) (isS := true) h3 hl hh hc
      refine ⟨_, by rw [run_sliceAt_plain hu]; simp only [Instr.slice, Sem.run_bind, run_under hu, Result.andThen_ok, Sem.run_pure, h4, run_sizeOf h2]; rfl, ?_⟩
      refine .row hid ?_ (by omega) fun r hr hlv => ?_
      · rcases hs with rfl | ⟨x, rfl⟩
        · exact .inl (by omega)
        · refine .inr ?_
          by_cases hcl : cap = l
          · exact ⟨_, by rw [if_pos hcl]⟩
          · exact ⟨_, by rw [if_neg hcl]; rfl⟩
      · obtain ⟨hsz, hp⟩ := hp r hr hlv
        refine ⟨hsz, ?_⟩
        rcases hp with ⟨rfl, rfl⟩ | ⟨b, c, h7, rfl, h8, h9⟩
        · exact .inl ⟨by omega, by omega⟩
        · by_cases hcl : cap = l
          · exact .inl ⟨by omega, by omega⟩
          · refine .inr ⟨b, c, h7, ?_, ?_, by omega⟩
            · rw [if_neg hcl]; simp [Addr.add_lit, Nat.add_mul]
            · rw [show off + l + (cap - l) = off + cap by omega]; exact h8
  · rename_i id s
    simp only [Option.bind_eq_some_iff] at h
    obtain ⟨e, h1, s', h2, h3⟩ := h
    have hu := elemT_spec h1
    split at h3
    case isFalse => simp at h3
    rename_i hss
    subst hss
    simp only [Option.bind_eq_some_iff, Option.map_eq_some_iff] at h3
    obtain ⟨r, hH, n, hn, ⟨l, h'⟩, h3, rfl⟩ := h3
    obtain ⟨hlv, hln⟩ := rlen_spec hn
    cases hx with
    | @all _ _ a len cap hid hs hc hp =>
      obtain ⟨hdim, hp⟩ := hp r hH hlv
      obtain rfl : len = n := by rw [← hln]; exact (congrArg Prod.snd hdim).symm
      obtain ⟨h4, h5, h6⟩ := cutEnds_sound (P := P) (isS := true) h3 hl hh hc
      refine ⟨_, by rw [run_sliceAt_plain hu]; simp only [Instr.slice, Sem.run_bind, run_under hu, Result.andThen_ok, Sem.run_pure, h4, run_sizeOf h2]; rfl, ?_⟩
      refine .row hid ?_ (by omega) fun r' hr hlv => ?_
      · rcases hs with h0 | ⟨x, rfl⟩
        · exact .inl (by omega)
        · refine .inr ?_
          by_cases hcl : cap = l
          · exact ⟨_, by rw [if_pos hcl]⟩
          · exact ⟨_, by rw [if_neg hcl]; rfl⟩
      · rw [hH] at hr
        cases hr
        refine ⟨congrArg Prod.fst hdim, ?_⟩
        rcases hp with ⟨h0, h0'⟩ | ⟨b, c, h7, rfl, h8, h9⟩
        · exact .inl ⟨by omega, by omega⟩
        · by_cases hcl : cap = l
          · exact .inl ⟨by omega, by omega⟩
          · refine .inr ⟨b, c, h7, ?_, ?_, by omega⟩
            · rw [if_neg hcl]; simp [Addr.add_lit]
            · rw [show l + (cap - l) = 0 + cap by omega]; exact h8
  · rename_i d hnstr
    simp only [Option.bind_eq_some_iff] at h
    obtain ⟨e, h1, s', h2, h3⟩ := h
    have hu := elemT_spec h1
    split at h3
    case isFalse => simp at h3
    rename_i hss
    simp only [Option.bind_eq_some_iff, Option.map_eq_some_iff] at h3
    obtain ⟨n, hn, ⟨l, h'⟩, h3, rfl⟩ := h3
    cases hx with
    | imm hx =>
      obtain ⟨a, cap, rfl, hc, _⟩ := hx.slice hn
      obtain ⟨h4, h5, h6⟩ := cutEnds_sound (P := P) (isS := true) h3 hl hh hc
      exact ⟨_, by rw [run_sliceAt_plain hu]; simp only [Instr.slice, Sem.run_bind, run_under hu, Result.andThen_ok, Sem.run_pure, h4, run_sizeOf h2], .imm (cutD_soundN hss hx hn h5 h6)⟩
  · simp at h

theorem lenA_sound {t ty : TypeId} {x y : AV} {v : Value} (h : lenA P t H x = some y) (hx : RepA P w N H ι x v) :
    ∃ z, (Builtin.len_ #[t] ty #[v]).run P w = .ok z w ∧ RepA P w N H ι y z := by
  unfold lenA at h
  split at h
  · rename_i n e hu
    simp at h
    subst h
    exact ⟨_, by simp [Builtin.len_, run_under hu, goInt], .imm (.int _ _)⟩
  · rename_i hu
    split at h <;> simp at h
    subst h
    cases hx with
    | imm hx =>
    cases hx
    exact ⟨_, by simp [Builtin.len_, run_under hu, goInt], .imm (.int _ _)⟩
  · rename_i e hu
    split at h
    · simp at h
      subst h
      cases hx with
      | row => exact ⟨_, by simp [Builtin.len_, run_under hu, goInt], .imm (.int _ _)⟩
    · simp only [Option.bind_eq_some_iff, Option.map_eq_some_iff] at h
      obtain ⟨r, hH, n, hn, rfl⟩ := h
      obtain ⟨hlv, hln⟩ := rlen_spec hn
      cases hx with
      | @all _ _ a len cap hid hs hc hp =>
      obtain ⟨hdim, _⟩ := hp r hH hlv
      obtain rfl : len = n := by rw [← hln]; exact (congrArg Prod.snd hdim).symm
      exact ⟨_, by simp [Builtin.len_, run_under hu, goInt], .imm (.int _ _)⟩
    · simp only [Option.map_eq_some_iff] at h
      obtain ⟨n, hn, rfl⟩ := h
      cases hx with
      | imm hx =>
      obtain ⟨a, cap, rfl, _⟩ := hx.slice hn
      exact ⟨_, by simp [Builtin.len_, run_under hu, goInt], .imm (.int _ _)⟩
    · simp at h
  · simp at h

/-- cap of nothing. -/
def capB (P : Program) (t : TypeId) (x : AV) : Option AV :=
  match P.underlying t with
  | some (.slice _) => match x with
    | .imm .nils => some (.imm (.int .i64 0))
    | _ => none
  | _ => none
theorem capB_sound {t ty : TypeId} {x y : AV} {v : Value} (h : capB P t x = some y) (hx : RepA P w N H ι x v) :
    ∃ z, (Builtin.cap_ #[t] ty #[v]).run P w = .ok z w ∧ RepA P w N H ι y z := by
  unfold capB at h
  split at h
  · rename_i e hu
    split at h
    · simp at h
      subst h
      cases hx with
      | imm hx =>
      cases hx
      exact ⟨_, by simp [Builtin.cap_, run_under hu, goInt], .imm (.int _ _)⟩
    · simp at h
  · simp at h

end
end Go.Ab
