/-
  AN ABSTRACT LAYER, 17: a region that draws its order: the order of the text serves for every order.
-/
import Derived.Test.YtfdcmbjkapcbcacAbRegion
namespace Go.Ab
variable {P : Program}

/-- How an operation stands to rows: 0: it does not look at them; 1: it looks at them; 3: it turns or makes one. -/
def clsO1 (X : List Entry) (A : Ann) (o : Oper) : Nat :=
  match o.op with
  | .move _ | .pick .. | .build .. | .nilCheck _ | .binOp .. | .unOp .. | .convert .. | .fieldAddr .. | .field .. | .index .. | .extract .. | .makeInterface .. | .typeAssert .. => 0
  | .makeFunc (.func _) .. => 0
  | .assign _ => if polOf A o then 3 else 0
  | .load .. | .slice .. | .indexAddr .. => 1
  | .call c => match c.callee with
    | .builtin .len => 1
    | .builtin .max => 0
    | .builtin .min => 0
    | .value (.func f) => match findE X f with
      | some E => if E.quiet then 1 else if E.turns then 3 else if E.makes then 2 else 6
      | none => 0
    | .value _ => 1
    | _ => 3
  | .box .. => if polOf A o then 3 else 4
  | .alloc _ | .buildSlice .. | .makeSlice .. => 4
  | .store .. => 5
  | _ => 3

theorem mapM_congr' {α β : Type} {f g : α → Option β} : ∀ (l : List α), (∀ x ∈ l, f x = g x) → l.mapM f = l.mapM g
  | [], _ => by simp
  | x :: l, h => by
    simp only [List.mapM_cons, h x (by simp), mapM_congr' l fun y hy => h y (by simp [hy])]

section
variable {P : Program} {X : List Entry} {A : Ann} {ops : Array Oper}

theorem opF1_congr {o : Oper} {t t' : List AV} (H : Heap) (h : ∀ x ∈ o.op.operands, evalA t x = evalA t' x) : opF1 P X A o t H = opF1 P X A o t' H := by
  obtain ⟨dst, op, ty0, pos, after, guard⟩ := o
  have pairs : ∀ ps : Array (Nat × Operand), (∀ x ∈ ps.map (·.2), evalA t x = evalA t' x) →
      (ps.toList.map fun p => (p.1, evalA t p.2)) = ps.toList.map fun p => (p.1, evalA t' p.2) := fun ps hp =>
    List.map_congr_left fun p hm => by rw [hp p.2 (Array.mem_map.2 ⟨p, by simpa using hm, rfl⟩)]
  cases op <;> simp only [Op.operands] at h <;> simp only [opF1]
  case build t ps => rw [pairs ps fun x hx => h x (by simpa using hx)]
  case buildSlice t n ps => rw [pairs ps fun x hx => h x (by simpa using hx)]
  case slice t x lo hi mx => cases lo <;> cases hi <;> cases mx <;> simp_all
  case call c =>
    obtain ⟨callee, args, argTypes⟩ := c
    have hargs : args.toList.map (evalA t) = args.toList.map (evalA t') := List.map_congr_left fun x hx => h x (by simp only [Call.operands]; exact Array.mem_append.2 (.inr (by simpa using hx)))
    have hmem : ∀ x ∈ args.toList, evalA t x = evalA t' x := fun x hx => h x (by simp only [Call.operands]; exact Array.mem_append.2 (.inr (by simpa using hx)))
    have hev : ∀ f, evalArgs P f t args = evalArgs P f t' args := fun f => by unfold evalArgs; rw [hargs]
    simp only
    split
    · simp only [hev]
    · split
      · rename_i e1 e2
        rw [hmem _ (by rw [e2]; simp)]
      · rfl
    · split
      · rename_i e1 e2
        rw [hmem _ (by rw [e2]; simp), hmem _ (by rw [e2]; simp)]
      · rfl
    · split
      · rename_i e1 e2
        rw [hmem _ (by rw [e2]; simp), hmem _ (by rw [e2]; simp)]
      · rfl
    · split
      · rename_i e1 e2
        rw [hmem _ (by rw [e2]; simp)]
      · rfl
    · rename_i x0 hx0
      rw [hargs, h x0 (by simp [Call.operands])]
    · rename_i r nm
      rw [hargs, h r (by simp [Call.operands])]
    · rw [hargs]
    · rw [hargs]
    · rfl
  case makeFunc fn first captured =>
    have hc : captured.toList.map (evalA t) = captured.toList.map (evalA t') := List.map_congr_left fun x hx => h x (Array.mem_append.2 (.inr (by simpa using hx)))
    cases fn
    case func f => simp only [hc]
    all_goals rfl
  all_goals (first | rfl | (simp_all; done))

theorem noH_free {H : Heap} {x : Option AV} {y : AV} {H' : Heap} (h : noH H x = some (y, H')) : H' = H ∧ ∀ H2, noH H2 x = some (y, H2) := by
  obtain ⟨g, rfl⟩ := noH_some h
  exact ⟨rfl, fun H2 => by simp [noH, g]⟩

/-- An operation of class 0 does not look at rows. -/
theorem opF1_zero {o : Oper} {t : List AV} {H H' : Heap} {x : AV} (hc : clsO1 X A o = 0) (h : opF1 P X A o t H = some (x, H')) : H' = H ∧ ∀ H2, opF1 P X A o t H2 = some (x, H2) := by
  obtain ⟨dst, op, ty0, pos, after, guard⟩ := o
  cases op <;> simp only [clsO1] at hc <;> try (simp at hc; done)
  all_goals (simp only [opF1] at h ⊢)
  case move a => simp at h; obtain ⟨rfl, rfl⟩ := h; exact ⟨rfl, fun _ => rfl⟩
  case box e a => split at hc <;> simp at hc
  case assign a =>
    split at hc
    · simp at hc
    · rename_i hp
      have hp' : polOf A ⟨dst, .assign a, ty0, pos, after, guard⟩ = false := by simpa using hp
      rw [hp'] at h ⊢
      simp [assignA] at h ⊢
      obtain ⟨rfl, rfl⟩ := h
      exact ⟨rfl, rfl⟩
  case unOp op t0 a => split at h <;> first | exact noH_free h | simp at h
  case call c =>
    obtain ⟨callee, args, argTypes⟩ := c
    simp only at hc h ⊢
    split at hc
    · simp at hc
    · exact noH_free h
    · exact noH_free h
    · rename_i f
      split at hc
      · rename_i E _
        exfalso
        revert hc
        cases E.quiet <;> cases E.turns <;> cases E.makes <;> simp
      · rename_i hn
        simp [hn] at h
    · simp at hc
    · simp at hc
  case makeFunc fn first captured =>
    cases fn <;> simp only at hc <;> try (simp at hc; done)
    simp only at h ⊢
    split at h
    · simp at h
      obtain ⟨rfl, rfl⟩ := h
      exact ⟨rfl, fun _ => rfl⟩
    · simp at h
  all_goals exact noH_free h

theorem opF1_one {o : Oper} {t : List AV} {H H' : Heap} {x : AV} (hc : clsO1 X A o = 1) (h : opF1 P X A o t H = some (x, H')) : H' = H := by
  obtain ⟨dst, op, ty0, pos, after, guard⟩ := o
  cases op <;> simp only [clsO1] at hc <;> try (simp at hc; done)
  case assign a => split at hc <;> simp at hc
  case box e a => split at hc <;> simp at hc
  case makeFunc fn first captured => cases fn <;> simp at hc
  case load ty a => simp only [opF1] at h; exact (noH_some h).2
  case slice t0 a lo hi mx => cases mx <;> simp only [opF1] at h <;> first | exact (noH_some h).2 | simp at h
  case indexAddr ty a i => simp only [opF1] at h; exact (noH_some h).2
  case call c =>
    obtain ⟨callee, args, argTypes⟩ := c
    simp only [opF1] at hc h
    split at hc
    · simp only at h
      split at h
      · exact (noH_some h).2
      · simp at h
    · simp at hc
    · simp at hc
    · rename_i f
      split at hc
      · rename_i E hE
        split at hc
        · rename_i hq
          simp only [hE, Option.bind_some, hq, if_true] at h
          exact (noH_some h).2
        · exfalso
          revert hc
          cases E.turns <;> cases E.makes <;> simp
      · simp at hc
    · rename_i x0 hx0
      simp only at h
      split at h
      · simp only [Option.bind_eq_some_iff] at h
        obtain ⟨E, _, h⟩ := h
        split at h
        · exact (noH_some h).2
        · simp at h
      · exact (noH_some h).2
      · simp at h
    · simp at hc

/-- An operation of class 1 sees the same where there are more rows. -/
theorem opF1_one_mono {o : Oper} {t : List AV} {H H' H2 : Heap} {x : AV} (hc : clsO1 X A o = 1) (hg : Grow H H2) (h : opF1 P X A o t H = some (x, H')) : opF1 P X A o t H2 = some (x, H2) := by
  obtain ⟨dst, op, ty0, pos, after, guard⟩ := o
  cases op <;> simp only [clsO1] at hc <;> try (simp at hc; done)
  case assign a => split at hc <;> simp at hc
  case box e a => split at hc <;> simp at hc
  case makeFunc fn first captured => cases fn <;> simp at hc
  case load ty a => simp only [opF1] at h ⊢; exact noH_mono h fun z hz => loadA_mono hg hz
  case slice t0 a lo hi mx =>
    cases mx <;> simp only [opF1] at h ⊢
    · exact noH_mono h fun z hz => sliceA_mono hg hz
    · simp at h
  case indexAddr ty a i => simp only [opF1] at h ⊢; exact noH_mono h fun z hz => indexAddrA_mono hg hz
  case call c =>
    obtain ⟨callee, args, argTypes⟩ := c
    simp only [opF1] at hc h ⊢
    split at hc
    · simp only at h ⊢
      split at h
      · exact noH_mono h fun z hz => lenA_mono hg hz
      · simp at h
    · simp at hc
    · simp at hc
    · rename_i f
      split at hc
      · rename_i E hE
        split at hc
        · rename_i hq
          simp only [hE, Option.bind_some, hq, if_true] at h ⊢
          exact noH_mono h fun z hz => callQ_mono hg hz
        · exfalso
          revert hc
          cases E.turns <;> cases E.makes <;> simp
      · simp at hc
    · rename_i x0 hx0
      simp only at h ⊢
      split at h
      · rename_i f ds hx
        simp only [Option.bind_eq_some_iff] at h
        obtain ⟨E, hE, h⟩ := h
        split at h
        · rename_i hq
          simp only [hE, Option.bind_some, hq, if_true]
          exact noH_mono h fun z hz => callQ_mono hg hz
        · simp at h
      · rename_i rb dom G hx
        exact noH_mono h fun z hz => callFnA_mono hg hz
      · simp at h
    · simp at hc

/-- An operation of class 4 makes one row, and looks at none. -/
theorem opF1_four {o : Oper} {t : List AV} {H H' : Heap} {x : AV} (hc : clsO1 X A o = 4) (h : opF1 P X A o t H = some (x, H')) : ∃ nid r, H nid = none ∧ H' = H.set nid r ∧ ∀ H2, H2 nid = none → opF1 P X A o t H2 = some (x, H2.set nid r) := by
  obtain ⟨dst, op, ty0, pos, after, guard⟩ := o
  cases op <;> simp only [clsO1] at hc <;> try (simp at hc; done)
  case assign a => split at hc <;> simp at hc
  case makeFunc fn first captured => cases fn <;> simp at hc
  case alloc e =>
    simp only [opF1, allocA, Option.bind_eq_some_iff] at h ⊢
    obtain ⟨z, h0, h⟩ := h
    split at h <;> simp at h
    rename_i hn
    obtain ⟨rfl, rfl⟩ := h
    exact ⟨_, _, hn, rfl, fun H2 h2 => ⟨z, h0, by simp [h2]⟩⟩
  case box e a =>
    split at hc
    · simp at hc
    rename_i hp
    have hp' : polOf A ⟨dst, .box e a, ty0, pos, after, guard⟩ = false := by simpa using hp
    have hb : ∀ H2, opF1 P X A ⟨dst, .box e a, ty0, pos, after, guard⟩ t H2 = boxA (nidOf ⟨dst, .box e a, ty0, pos, after, guard⟩) H2 (evalA t a) := fun H2 => by
      simp only [opF1, hp', boxOwn]
    simp only [hb, boxA, Option.bind_eq_some_iff] at h ⊢
    obtain ⟨z, h0, h⟩ := h
    split at h <;> simp at h
    rename_i hn
    obtain ⟨rfl, rfl⟩ := h
    exact ⟨_, _, hn, rfl, fun H2 h2 => ⟨z, h0, by simp [h2]⟩⟩
  case buildSlice ty len parts =>
    have main : ∀ {x H'}, buildSliceA P ty len (parts.toList.map fun p => (p.1, evalA t p.2)) (nidOf ⟨dst, .buildSlice ty len parts, ty0, pos, after, guard⟩) H = some (x, H') → ∃ k xs, H (nidOf ⟨dst, .buildSlice ty len parts, ty0, pos, after, guard⟩) = none ∧ x = .all (nidOf ⟨dst, .buildSlice ty len parts, ty0, pos, after, guard⟩) 1 ∧ H' = H.set (nidOf ⟨dst, .buildSlice ty len parts, ty0, pos, after, guard⟩) (.ints k xs) ∧
        ∀ H2, H2 (nidOf ⟨dst, .buildSlice ty len parts, ty0, pos, after, guard⟩) = none → buildSliceA P ty len (parts.toList.map fun p => (p.1, evalA t p.2)) (nidOf ⟨dst, .buildSlice ty len parts, ty0, pos, after, guard⟩) H2 = some (x, H2.set (nidOf ⟨dst, .buildSlice ty len parts, ty0, pos, after, guard⟩) (.ints k xs)) := by
      intro x H' h
      simp only [buildSliceA, Option.bind_eq_some_iff] at h ⊢
      obtain ⟨e, g1, s, g2, k, g3, z, g4, h⟩ := h
      split at h
      case h_2 => simp at h
      split at h
      case isFalse => simp at h
      rename_i hcd
      simp only [Option.bind_eq_some_iff] at h
      obtain ⟨ps, g5, xs, g6, h⟩ := h
      split at h <;> simp at h
      rename_i hn
      obtain ⟨rfl, rfl⟩ := h
      refine ⟨_, _, hn, rfl, rfl, fun H2 h2 => ⟨e, g1, s, g2, k, g3, _, g4, ?_⟩⟩
      simp only [if_pos hcd, g5, g6, Option.bind_some, h2]
    have mainX : ∀ {r}, buildSeqX P ty len (parts.toList.map fun p => (p.1, evalA t p.2)) (nidOf ⟨dst, .buildSlice ty len parts, ty0, pos, after, guard⟩) H = some r → H (nidOf ⟨dst, .buildSlice ty len parts, ty0, pos, after, guard⟩) = none ∧
        ∀ H2, H2 (nidOf ⟨dst, .buildSlice ty len parts, ty0, pos, after, guard⟩) = none → buildSeqX P ty len (parts.toList.map fun p => (p.1, evalA t p.2)) (nidOf ⟨dst, .buildSlice ty len parts, ty0, pos, after, guard⟩) H2 = some r := by
      intro r h
      simp only [buildSeqX, Option.bind_eq_some_iff] at h ⊢
      obtain ⟨e, g1, s, g2, z, g4, h⟩ := h
      split at h
      case isFalse => simp at h
      rename_i hcd
      simp only [Option.bind_eq_some_iff] at h
      obtain ⟨ps, g5, xs, g6, h⟩ := h
      split at h
      case h_2 => cases h
      rename_i hn
      exact ⟨hn, fun H2 h2 => ⟨e, g1, s, g2, z, g4, by simp only [if_pos hcd, g5, g6, Option.bind_some, h2]; exact h⟩⟩
    simp only [opF1] at h ⊢
    split at h
    · unfold buildRow at h ⊢
      split at h
      · obtain ⟨k, xs, q1, rfl, rfl, q4⟩ := main h
        exact ⟨_, _, q1, rfl, q4⟩
      · unfold buildSeqA at h ⊢
        simp only [Option.bind_eq_some_iff, Option.some.injEq, Prod.mk.injEq] at h
        obtain ⟨r, h, rfl, rfl⟩ := h
        obtain ⟨q1, q2⟩ := mainX h
        exact ⟨_, _, q1, rfl, fun H2 h2 => by rw [q2 H2 h2]; rfl⟩
    · unfold buildLit at h ⊢
      split at h
      case h_2 =>
        unfold buildSeqD at h ⊢
        simp only [Option.bind_eq_some_iff, Option.some.injEq, Prod.mk.injEq] at h
        obtain ⟨r, h, rfl, rfl⟩ := h
        obtain ⟨q1, q2⟩ := mainX h
        exact ⟨_, _, q1, rfl, fun H2 h2 => by rw [q2 H2 h2]; rfl⟩
      unfold buildSliceD at h ⊢
      simp only [Option.bind_eq_some_iff] at h
      obtain ⟨⟨x1, H1⟩, h0, h⟩ := h
      obtain ⟨k, xs, q1, rfl, rfl, q4⟩ := main h0
      simp [Heap.set] at h
      obtain ⟨rfl, rfl⟩ := h
      exact ⟨_, _, q1, rfl, fun H2 h2 => by rw [q4 H2 h2]; simp [Heap.set]⟩
  case makeSlice ty l c =>
    simp only [opF1, makeSliceA] at h ⊢
    split at h
    · rename_i hkt
      simp only [makeIntsA, Option.bind_eq_some_iff] at h ⊢
      obtain ⟨e, g1, i, g2, k, g3, z, g4, h⟩ := h
      split at h
      case h_2 => simp at h
      rename_i hl hcp
      split at h
      case isFalse => simp at h
      rename_i hcd
      split at h <;> simp at h
      rename_i hn
      obtain ⟨rfl, rfl⟩ := h
      refine ⟨_, _, hn, rfl, fun H2 h2 => ⟨e, g1, i, g2, k, g3, _, g4, ?_⟩⟩
      simp only [hl, hcp, if_pos hcd, h2]
    · rename_i hkt
      simp only [makeSeqA, Option.bind_eq_some_iff] at h ⊢
      obtain ⟨e, g1, i, g2, z, g4, k, g3, h⟩ := h
      split at h
      case h_2 => simp at h
      rename_i hl hcp
      split at h
      case isFalse => simp at h
      rename_i hcd
      split at h <;> simp at h
      rename_i hn
      obtain ⟨rfl, rfl⟩ := h
      refine ⟨_, _, hn, rfl, fun H2 h2 => ⟨e, g1, i, g2, z, g4, k, g3, ?_⟩⟩
      simp only [if_pos hcd, h2]
  case call c =>
    obtain ⟨callee, args, argTypes⟩ := c
    simp only at hc
    split at hc
    · simp at hc
    · simp at hc
    · simp at hc
    · split at hc
      · rename_i E _
        exfalso
        revert hc
        cases E.quiet <;> cases E.turns <;> cases E.makes <;> simp
      · simp at hc
    · simp at hc
    · simp at hc

theorem opF1_two {o : Oper} {t : List AV} {H H' : Heap} {x : AV} (hc : clsO1 X A o = 2) (h : opF1 P X A o t H = some (x, H')) : Grow H H' ∧ ∀ nid r, H' nid = none → opF1 P X A o t (H.set nid r) = some (x, H'.set nid r) := by
  obtain ⟨dst, op, ty0, pos, after, guard⟩ := o
  cases op <;> simp only [clsO1] at hc <;> try (simp at hc; done)
  case assign a => split at hc <;> simp at hc
  case box e a => split at hc <;> simp at hc
  case makeFunc fn first captured => cases fn <;> simp at hc
  case call c =>
    obtain ⟨callee, args, argTypes⟩ := c
    simp only [opF1] at hc h ⊢
    split at hc
    · simp at hc
    · simp at hc
    · simp at hc
    · rename_i f
      split at hc
      · rename_i E hE
        split at hc
        · simp at hc
        · rename_i hq
          split at hc
          · simp at hc
          · rename_i ht
            split at hc
            · rename_i hm
              simp only [hE, Option.bind_some, hq, ht, hm, if_true] at h ⊢
              exact ⟨callN_grow h, fun nid r hn => callN_ext h hn⟩
            · simp at hc
      · simp at hc
    · simp at hc
    · simp at hc

/-- An operation of class 6 is a call that is lent variables: it does not look at rows that are made beside it. -/
theorem opF1_six {o : Oper} {t : List AV} {H H' : Heap} {x : AV} (hc : clsO1 X A o = 6) (h : opF1 P X A o t H = some (x, H')) : ∀ nid r, H' nid = none → H nid = none ∧ opF1 P X A o t (H.set nid r) = some (x, H'.set nid r) := by
  obtain ⟨dst, op, ty0, pos, after, guard⟩ := o
  cases op <;> simp only [clsO1] at hc <;> try (simp at hc; done)
  case assign a => split at hc <;> simp at hc
  case box e a => split at hc <;> simp at hc
  case makeFunc fn first captured => cases fn <;> simp at hc
  case call c =>
    obtain ⟨callee, args, argTypes⟩ := c
    simp only [opF1] at hc h ⊢
    split at hc
    · simp at hc
    · simp at hc
    · simp at hc
    · rename_i f
      split at hc
      · rename_i E hE
        split at hc
        · simp at hc
        · rename_i hq
          split at hc
          · simp at hc
          · rename_i ht
            split at hc
            · simp at hc
            · rename_i hm
              simp only [hE, Option.bind_some, hq, ht, hm] at h ⊢
              exact fun nid r hn => callA_ext h hn
      · simp at hc
    · simp at hc
    · simp at hc

/-- The class: what looks at data alone does not look at rows. -/
def clsO (X : List Entry) (A : Ann) (o : Oper) : Nat := match litOf A o && dataOp o with
  | true => 0
  | false => clsO1 X A o

theorem opF_congr {o : Oper} {t t' : List AV} (H : Heap) (h : ∀ x ∈ o.op.operands, evalA t x = evalA t' x) : opF P X A o t H = opF P X A o t' H := by
  unfold opF
  split
  · rw [opF1_congr _ h]
  · exact opF1_congr H h

theorem opF_zero {o : Oper} {t : List AV} {H H' : Heap} {x : AV} (hc : clsO X A o = 0) (h : opF P X A o t H = some (x, H')) : H' = H ∧ ∀ H2, opF P X A o t H2 = some (x, H2) := by
  unfold opF at h ⊢
  unfold clsO at hc
  split at h
  · simp only [Option.map_eq_some_iff] at h
    obtain ⟨⟨y, H1⟩, h1, h2⟩ := h
    cases h2
    exact ⟨rfl, fun H2 => by simp [h1]⟩
  · rename_i hb
    rw [hb] at hc
    exact opF1_zero hc h

theorem opF_one {o : Oper} {t : List AV} {H H' : Heap} {x : AV} (hc : clsO X A o = 1) (h : opF P X A o t H = some (x, H')) : H' = H := by
  unfold clsO at hc
  split at hc
  · simp at hc
  · exact opF1_one hc (opF_is h)

theorem opF_one_mono {o : Oper} {t : List AV} {H H' H2 : Heap} {x : AV} (hc : clsO X A o = 1) (hg : Grow H H2) (h : opF P X A o t H = some (x, H')) : opF P X A o t H2 = some (x, H2) := by
  unfold opF at h ⊢
  unfold clsO at hc
  split at h
  · rename_i hb
    rw [hb] at hc
    simp at hc
  · rename_i hb
    rw [hb] at hc
    exact opF1_one_mono hc hg h

theorem opF_four {o : Oper} {t : List AV} {H H' : Heap} {x : AV} (hc : clsO X A o = 4) (h : opF P X A o t H = some (x, H')) : ∃ nid r, H nid = none ∧ H' = H.set nid r ∧ ∀ H2, H2 nid = none → opF P X A o t H2 = some (x, H2.set nid r) := by
  unfold opF at h ⊢
  unfold clsO at hc
  split at h
  · rename_i hb
    rw [hb] at hc
    simp at hc
  · rename_i hb
    rw [hb] at hc
    exact opF1_four hc h

theorem opF_six {o : Oper} {t : List AV} {H H' : Heap} {x : AV} (hc : clsO X A o = 6) (h : opF P X A o t H = some (x, H')) : ∀ nid r, H' nid = none → H nid = none ∧ opF P X A o t (H.set nid r) = some (x, H'.set nid r) := by
  unfold opF at h ⊢
  unfold clsO at hc
  split at h
  · rename_i hb
    rw [hb] at hc
    simp at hc
  · rename_i hb
    rw [hb] at hc
    exact opF1_six hc h

theorem storeA_at {ty : TypeId} {H H' : Heap} {x y : AV} (h : storeA P ty H x y = some H') : ∃ b i j r r', x = .ptr b i j ∧ H b = some r ∧ H' = H.set b r' ∧ ∀ H2 : Heap, H2 b = some r → storeA P ty H2 x y = some (H2.set b r') := by
  unfold storeA at h ⊢
  simp only [Option.bind_eq_some_iff] at h
  obtain ⟨n, hn, h⟩ := h
  split at h
  · rename_i id i j
    split at h
    · rename_i cs hH
      simp only [Option.bind_eq_some_iff] at h
      obtain ⟨ys, hy, h⟩ := h
      split at h
      · rename_i hc
        simp only [Option.some.injEq] at h
        exact ⟨id, i, j, _, _, rfl, hH, h.symm, fun H2 h2 => by simp [hn, h2, hy, hc]⟩
      · cases h
    · rename_i k xs hH
      split at h
      · rename_i k' m
        split at h
        · rename_i hc
          simp only [Option.some.injEq] at h
          exact ⟨id, i, j, _, _, rfl, hH, h.symm, fun H2 h2 => by simp [hn, h2, hc]⟩
        · cases h
      · cases h
    · rename_i s xs hH
      simp only [Option.map_eq_some_iff] at h
      obtain ⟨xs', h, rfl⟩ := h
      exact ⟨id, i, j, _, _, rfl, hH, rfl, fun H2 h2 => by simp [hn, h2, h]⟩
    · cases h
  · cases h

theorem opF_five {o : Oper} {t : List AV} {H H' : Heap} {x : AV} (hc : clsO X A o = 5) (h : opF P X A o t H = some (x, H')) : ∃ b r r', H b = some r ∧ H' = H.set b r' ∧ ∀ H2 : Heap, H2 b = some r → opF P X A o t H2 = some (x, H2.set b r') := by
  unfold opF at h ⊢
  unfold clsO at hc
  split at h
  · rename_i hb
    rw [hb] at hc
    simp at hc
  · rename_i hb
    rw [hb] at hc
    obtain ⟨dst, op, ty0, pos, after, guard⟩ := o
    cases op <;> simp only [clsO1] at hc <;> try (simp at hc; done)
    case store ty a b =>
      simp only [opF1, Option.map_eq_some_iff] at h ⊢
      obtain ⟨H1, h1, h2⟩ := h
      cases h2
      obtain ⟨b', i, j, r, r', e1, e2, e3, e4⟩ := storeA_at h1
      exact ⟨b', r, r', e2, e3, fun H2 h2 => ⟨_, e4 H2 h2, rfl⟩⟩
    case assign a => split at hc <;> simp at hc
    case makeFunc fn first captured => cases fn <;> simp at hc
    case box e a => split at hc <;> simp at hc
    case call c =>
      split at hc <;> try (simp at hc; done)
      split at hc
      · split at hc
        · simp at hc
        · split at hc
          · simp at hc
          · split at hc <;> simp at hc
      · simp at hc

/-- A load from another row than the one that is written. -/
def DyP (t : List AV) (oi oj : Oper) : Prop := ∃ ty z ty' x y a i1 j1 b i2 j2, oi.op = .load ty (.tmp z) ∧ oj.op = .store ty' (.tmp x) y ∧ t[z]? = some (.ptr a i1 j1) ∧ t[x]? = some (.ptr b i2 j2) ∧ a ≠ b

theorem opF_two {o : Oper} {t : List AV} {H H' : Heap} {x : AV} (hc : clsO X A o = 2) (h : opF P X A o t H = some (x, H')) : Grow H H' ∧ ∀ nid r, H' nid = none → opF P X A o t (H.set nid r) = some (x, H'.set nid r) := by
  unfold opF at h ⊢
  unfold clsO at hc
  split at h
  · rename_i hb
    rw [hb] at hc
    simp at hc
  · rename_i hb
    rw [hb] at hc
    exact opF1_two hc h

def okPair (X : List Entry) (A : Ann) (i j : Oper) : Bool :=
  match clsO X A i, clsO X A j with
  | 0, _ => true
  | _, 0 => true
  | 1, 1 => true
  | 1, 2 => true
  | 1, 4 => true
  | 2, 4 => true
  | 4, 4 => true
  | 5, 4 => true
  | 6, 4 => true
  | _, _ => false

theorem evalA_put {t : List AV} {dst : Option Tmp} {v : AV} {x : Operand} (h : ∀ d, dst = some d → x ≠ .tmp d) : evalA (putA t dst v) x = evalA t x := by
  cases dst with
  | none => rfl
  | some d =>
    cases x with
    | tmp i =>
      have hne : d ≠ i := fun e => h d rfl (e ▸ rfl)
      simp [evalA, putA, List.getD, List.getElem?_set_ne hne]
    | _ => rfl

theorem opF_put {o : Oper} {t : List AV} {dst : Option Tmp} {v : AV} {H : Heap} (h : ∀ d, dst = some d → d ∉ o.looksAt ops) : opF P X A o (putA t dst v) H = opF P X A o t H :=
  opF_congr H fun x hx => evalA_put fun d hd hxd => h d hd (by
    subst hxd
    exact List.mem_append_left _ (List.mem_filterMap.2 ⟨.tmp d, by simpa using hx, rfl⟩))

theorem wantedA_put {o : Oper} {t : List AV} {dst : Option Tmp} {v : AV} (h : ∀ d, dst = some d → d ∉ o.looksAt ops) : wantedA ops o (putA t dst v) = wantedA ops o t := by
  cases dst with
  | none => rfl
  | some d =>
    unfold wantedA
    cases hg : o.guard with
    | none => rfl
    | some gw =>
      obtain ⟨g, want⟩ := gw
      simp only
      cases ht : (ops[g]?).bind (·.dst) with
      | none => rfl
      | some e =>
        have hne : d ≠ e := fun he => h d rfl (by subst he; simp [Oper.looksAt, hg, ht])
        simp [putA, List.getElem?_set_ne hne]

theorem putA_comm (t : List AV) {x y : Option Tmp} (v u : AV) (h : ∀ d, x = some d → y ≠ some d) : putA (putA t x v) y u = putA (putA t y u) x v := by
  cases x with
  | none => rfl
  | some d =>
    cases y with
    | none => rfl
    | some e =>
      have hne : d ≠ e := fun he => h d rfl (he ▸ rfl)
      simp [putA, List.set_comm _ _ hne]

/-- The row that an operation looks at. -/
def readsAt (t : List AV) (o : Oper) : Option Nat := match o.op with
  | .load _ (.tmp z) => match t[z]? with
    | some (.ptr a _ _) => some a
    | _ => none
  | .indexAddr _ (.tmp z) _ => match t[z]? with
    | some (.all a _) => some a
    | _ => none
  | _ => none

/-- The arguments of a call that is lent variables and turns nothing else. -/
def lentCall (X : List Entry) (o : Oper) : Option (Array Operand) := match o.op with
  | .call cl => match cl.callee with
    | .value (.func f) => match findE X f with
      | some E => if !E.quiet && !E.turns && !E.makes then some cl.args else none
      | none => none
    | _ => none
  | _ => none

/-- A look at another row than those that are lent to a call. -/
def DyP2 (X : List Entry) (t : List AV) (oi oj : Oper) : Prop := ∃ a args, readsAt t oi = some a ∧ lentCall X oj = some args ∧ ∀ q ∈ args.toList, ∀ i j, evalA t q ≠ .ptr a i j

theorem postBack_frame : ∀ {ps : List (List D)} {ids : List Nat} {H H' : Heap}, postBack ps ids H = some H' → ∀ a, a ∉ ids → H' a = H a
  | [], [], H, H', h, a, _ => by simp [postBack] at h; rw [h]
  | [], _ :: _, _, _, h, _, _ => by simp [postBack] at h
  | _ :: _, [], _, _, h, _, _ => by simp [postBack] at h
  | cs :: ps, id :: ids, H, H', h, a, ha => by
    unfold postBack at h
    split at h
    · split at h
      · have := postBack_frame h a (fun hm => ha (List.mem_cons_of_mem _ hm))
        rw [this]
        have hne : a ≠ id := fun e => ha (by rw [e]; simp)
        simp [Heap.set, hne]
      · cases h
    · cases h

theorem argX_ptr {H : Heap} {x : AV} {r : XA × Bool × Option Nat} {a : Nat} (h : argX H x = some r) (h2 : r.2.2 = some a) : ∃ i j, x = .ptr a i j := by
  unfold argX at h
  split at h
  · simp only [Option.map_eq_some_iff] at h
    obtain ⟨_, _, rfl⟩ := h
    cases h2
  · split at h
    · simp only [Option.map_eq_some_iff] at h
      obtain ⟨_, _, rfl⟩ := h
      cases h2
      exact ⟨0, 0, rfl⟩
    · cases h
  · simp only [Option.map_eq_some_iff] at h
    obtain ⟨⟨d, l⟩, _, rfl⟩ := h
    cases h2

theorem callA_frame {E : Entry} {pol : Bool} {args : List AV} {nid : Nat} {H H' : Heap} {x : AV} (h : callA E pol args nid H = some (x, H')) {a : Nat} {r : Row} (hr : H a = some r) (ha : ∀ y ∈ args, ∀ i j, y ≠ .ptr a i j) : H' a = some r := by
  unfold callA at h
  simp only [Option.bind_eq_some_iff] at h
  obtain ⟨as, h1, ⟨rs, ps⟩, h2, h3⟩ := h
  split at h3
  case isFalse => cases h3
  simp only [Option.bind_eq_some_iff, Option.map_eq_some_iff] at h3
  obtain ⟨H1, h4, ⟨xs, H2⟩, h5, h6⟩ := h3
  cases h6
  have hn : a ∉ as.filterMap (·.2.2) := fun hm => by
    obtain ⟨q, hq, hqa⟩ := List.mem_filterMap.1 hm
    obtain ⟨i, hi, rfl⟩ := List.getElem_of_mem hq
    obtain ⟨g1, g2⟩ := mapM_some h1
    have g3 := g2 i (by omega) hi
    obtain ⟨i', j', e⟩ := argX_ptr g3 hqa
    exact ha _ (List.getElem_mem (by omega)) i' j' e
  have e1 := postBack_frame h4 a hn
  exact resBack_grow h5 a r (by rw [e1, hr])

theorem nilKs_ptr {P : Program} {a i j : Nat} : ∀ {ts : List TypeId} {xs : List AV}, (.ptr a i j) ∈ nilKs P ts xs → (.ptr a i j) ∈ xs
  | [], xs, h => by unfold nilKs at h; exact h
  | t :: ts, [], h => by unfold nilKs at h; exact h
  | t :: ts, x :: xs, h => by
    unfold nilKs at h
    rcases List.mem_cons.1 h with h | h
    · have : x = .ptr a i j := by
        unfold nilK2 at h
        split at h
        · cases h
        · cases h
        unfold nilK at h
        split at h
        · split at h
          · split at h
            · cases h
            · split at h <;> cases h
          · cases h
        · exact h.symm
      rw [this]; simp
    · exact List.mem_cons_of_mem _ (nilKs_ptr h)

theorem evalArgs_ptr {P : Program} {f : FuncId} {t : List AV} {args : Array Operand} {a i j : Nat} (h : (.ptr a i j) ∈ evalArgs P f t args) : ∃ q ∈ args.toList, evalA t q = .ptr a i j := by
  unfold evalArgs argsN at h
  have : (.ptr a i j) ∈ args.toList.map (evalA t) := by
    split at h
    · exact nilKs_ptr h
    · exact h
  exact List.mem_map.1 this

/-- What is looked at is there, and what follows depends on it alone. -/
theorem opF_reads {P : Program} {X : List Entry} {A : Ann} {o : Oper} {t : List AV} {H H1 : Heap} {x : AV} {a : Nat} (hr : readsAt t o = some a) (h : opF P X A o t H = some (x, H1)) :
    H1 = H ∧ ((∃ r, H a = some r ∧ ∀ H2 : Heap, H2 a = some r → opF P X A o t H2 = some (x, H2)) ∨ ∀ H2 : Heap, opF P X A o t H2 = some (x, H2)) := by
  unfold readsAt at hr
  cases hb : litOf A o && dataOp o with
  | true =>
    have key : ∀ H2 : Heap, opF P X A o t H2 = (opF1 P X A o t fun _ => none).map fun r => (r.1, H2) := fun H2 => by unfold opF; simp only [hb]
    rw [key] at h
    simp only [Option.map_eq_some_iff] at h
    obtain ⟨⟨v, H3⟩, h1, h2⟩ := h
    cases h2
    exact ⟨rfl, .inr fun H2 => by rw [key, h1]; rfl⟩
  | false =>
    have key : ∀ H2 : Heap, opF P X A o t H2 = opF1 P X A o t H2 := fun H2 => by unfold opF; simp only [hb]
    simp only [key] at h ⊢
    split at hr
    · rename_i ty z ho
      split at hr
      case h_2 => cases hr
      rename_i i j ht
      cases hr
      have hev : evalA t (.tmp z) = .ptr a i j := by simp [evalA, List.getD, ht]
      simp only [opF1, ho, hev, noH, Option.map_eq_some_iff] at h ⊢
      obtain ⟨v, h1, h2⟩ := h
      cases h2
      refine ⟨rfl, .inl ?_⟩
      have h1' := h1
      cases hH : H a with
      | none => exfalso; simp [loadA, hH] at h1
      | some r =>
        refine ⟨r, rfl, fun H2 h2 => ⟨x, ?_, rfl⟩⟩
        rw [← h1']
        unfold loadA
        simp only [h2, hH]
    · rename_i ty z ix ho
      split at hr
      case h_2 => cases hr
      rename_i s ht
      cases hr
      have hev : evalA t (.tmp z) = .all a s := by simp [evalA, List.getD, ht]
      simp only [opF1, ho, hev, noH, Option.map_eq_some_iff] at h ⊢
      obtain ⟨v, h1, h2⟩ := h
      cases h2
      refine ⟨rfl, .inl ?_⟩
      have h1' := h1
      cases hH : H a with
      | none =>
        exfalso
        unfold indexAddrA at h1
        split at h1
        · simp [hH] at h1
        · cases h1
      | some r =>
        refine ⟨r, rfl, fun H2 h2 => ⟨x, ?_, rfl⟩⟩
        rw [← h1']
        unfold indexAddrA
        simp only [h2, hH]
    · cases hr

/-- Two operations that are apart may change places. -/
theorem stepF_comm {oi oj : Oper} {s s1 s2 : St} (hap : oi.apart ops oj = true) (hok : (okPair X A oi oj = true ∨ ((∃ ty z, oi.op = .load ty z) ∧ (wantedA ops oi s.t = some true → DyP s.t oi oj))) ∨ (wantedA ops oi s.t = some true → DyP2 X s.t oi oj) ∧ (clsO X A oi = 0 ∨ clsO X A oi = 1)) (h1 : stepF P X A ops oi s = some s1) (h2 : stepF P X A ops oj s1 = some s2) :
    ∃ s1', stepF P X A ops oj s = some s1' ∧ stepF P X A ops oi s1' = some s2 := by
  obtain ⟨a1, a2, a3⟩ := Oper.apart_spec hap
  obtain ⟨t, H, p, q⟩ := s
  have look : ∀ {o : Oper} {s s' : St}, stepF P X A ops o s = some s' → ∃ x H', s' = ⟨putA s.t o.dst x, H', s.p, s.d⟩ ∧ ((wantedA ops o s.t = some true ∧ opF P X A o s.t s.H = some (x, H')) ∨ (wantedA ops o s.t = some false ∧ x = .undef ∧ H' = s.H)) := by
    intro o s s' h
    unfold stepF at h
    split at h
    · rename_i hw
      simp only [Option.map_eq_some_iff] at h
      obtain ⟨⟨x, H'⟩, h, rfl⟩ := h
      exact ⟨x, H', rfl, .inl ⟨hw, h⟩⟩
    · rename_i hw
      simp at h
      subst h
      exact ⟨_, _, rfl, .inr ⟨hw, rfl, rfl⟩⟩
    · simp at h
  have back : ∀ {o : Oper} {t : List AV} {H : Heap} {x : AV} {H' : Heap}, ((wantedA ops o t = some true ∧ opF P X A o t H = some (x, H')) ∨ (wantedA ops o t = some false ∧ x = .undef ∧ H' = H)) → stepF P X A ops o ⟨t, H, p, q⟩ = some ⟨putA t o.dst x, H', p, q⟩ := by
    intro o t H x H' h
    unfold stepF
    rcases h with ⟨hw, h⟩ | ⟨hw, rfl, rfl⟩
    · simp only [hw, h, Option.map_some]
    · simp only [hw]
  obtain ⟨x, H1, rfl, c1⟩ := look h1
  obtain ⟨y, H2, rfl, c2⟩ := look h2
  simp only at c1 c2 ⊢
  rw [wantedA_put a1, opF_put (ops := ops) a1] at c2
  -- what class 0 and class 1 give
  have ci : clsO X A oi = 0 → H1 = H ∧ ∀ H3, ((wantedA ops oi t = some true ∧ opF P X A oi t H3 = some (x, H3)) ∨ (wantedA ops oi t = some false ∧ x = .undef ∧ H3 = H3)) := fun h0 => by
    rcases c1 with ⟨hw, h⟩ | ⟨hw, rfl, rfl⟩
    · obtain ⟨e, h'⟩ := opF_zero h0 h; exact ⟨e, fun H3 => .inl ⟨hw, h' H3⟩⟩
    · exact ⟨rfl, fun H3 => .inr ⟨hw, rfl, rfl⟩⟩
  have cj : clsO X A oj = 0 → H2 = H1 ∧ ∀ H3, ((wantedA ops oj t = some true ∧ opF P X A oj t H3 = some (y, H3)) ∨ (wantedA ops oj t = some false ∧ y = .undef ∧ H3 = H3)) := fun h0 => by
    rcases c2 with ⟨hw, h⟩ | ⟨hw, rfl, rfl⟩
    · obtain ⟨e, h'⟩ := opF_zero h0 h; exact ⟨e, fun H3 => .inl ⟨hw, h' H3⟩⟩
    · exact ⟨rfl, fun H3 => .inr ⟨hw, rfl, rfl⟩⟩
  have di : clsO X A oi = 1 → H1 = H := fun h0 => by
    rcases c1 with ⟨hw, h⟩ | ⟨hw, rfl, rfl⟩
    · exact opF_one h0 h
    · rfl
  have dj : clsO X A oj = 1 → H2 = H1 := fun h0 => by
    rcases c2 with ⟨hw, h⟩ | ⟨hw, rfl, rfl⟩
    · exact opF_one h0 h
    · rfl
  have fin : ∀ Hm, ((wantedA ops oj t = some true ∧ opF P X A oj t H = some (y, Hm)) ∨ (wantedA ops oj t = some false ∧ y = .undef ∧ Hm = H)) →
      ((wantedA ops oi t = some true ∧ opF P X A oi t Hm = some (x, H2)) ∨ (wantedA ops oi t = some false ∧ x = .undef ∧ H2 = Hm)) →
      ∃ s1', stepF P X A ops oj ⟨t, H, p, q⟩ = some s1' ∧ stepF P X A ops oi s1' = some ⟨putA (putA t oi.dst x) oj.dst y, H2, p, q⟩ := by
    intro Hm k1 k2
    refine ⟨_, back k1, ?_⟩
    have := back (o := oi) (t := putA t oj.dst y) (H := Hm) (x := x) (H' := H2) (by rw [wantedA_put a3, opF_put (ops := ops) a3]; exact k2)
    rw [this, putA_comm t x y a2]
  have grow4 : clsO X A oj = 4 → Grow H1 H2 := fun h0 => by
    rcases c2 with ⟨_, h⟩ | ⟨_, _, rfl⟩
    · obtain ⟨nid, r, g1, g2, _⟩ := opF_four h0 h
      rw [g2]; exact Grow.set g1 _
    · exact Grow.refl _
  have grow2 : clsO X A oj = 2 → Grow H1 H2 := fun h0 => by
    rcases c2 with ⟨_, h⟩ | ⟨_, _, rfl⟩
    · exact (opF_two h0 h).1
    · exact Grow.refl _
  have one : clsO X A oi = 1 → Grow H1 H2 → ∃ s1', stepF P X A ops oj ⟨t, H, p, q⟩ = some s1' ∧ stepF P X A ops oi s1' = some ⟨putA (putA t oi.dst x) oj.dst y, H2, p, q⟩ := fun h0 hgr => by
    have e1 := di h0
    subst e1
    refine fin H2 c2 ?_
    rcases c1 with ⟨hw, h⟩ | ⟨hw, hx, _⟩
    · exact .inl ⟨hw, opF_one_mono h0 hgr h⟩
    · exact .inr ⟨hw, hx, rfl⟩
  rcases hok with hok | ⟨hdy, hcl⟩
  rotate_left
  · rcases c1 with ⟨hw1, z1⟩ | ⟨hw1, hx, e1⟩
    · obtain ⟨a, args, d1, d2, d3⟩ := hdy hw1
      obtain ⟨rfl, hrd⟩ := opF_reads d1 z1
      refine fin H2 c2 (.inl ⟨hw1, ?_⟩)
      rcases hrd with ⟨r, hr, hrd⟩ | hrd
      · refine hrd H2 ?_
        rcases c2 with ⟨hw2, z2⟩ | ⟨_, _, e2⟩
        · unfold lentCall at d2
          split at d2
          case h_2 => cases d2
          rename_i cl ho
          split at d2
          case h_2 => cases d2
          rename_i f hcl'
          split at d2
          case h_2 => cases d2
          rename_i E hE
          split at d2
          case isFalse => cases d2
          rename_i hq
          simp only [Bool.and_eq_true, Bool.not_eq_true'] at hq
          cases d2
          have hdo : dataOp oj = false := by unfold dataOp; rw [ho]; simp [hcl']
          unfold opF at z2
          rw [hdo, Bool.and_false] at z2
          simp only [opF1, ho, hcl', hE, Option.bind_some, hq.1.1, hq.1.2, hq.2, Bool.false_eq_true, if_false] at z2
          exact callA_frame z2 hr fun y hy i j e => by
            rw [e] at hy
            obtain ⟨q, q1, q2⟩ := evalArgs_ptr hy
            exact d3 q q1 i j q2
        · rw [e2]; exact hr
      · exact hrd H2
    · refine fin H2 (e1 ▸ c2) (.inr ⟨hw1, hx, rfl⟩)
  rcases hok with hok | ⟨⟨lty, lz, hlo⟩, hdy⟩
  rotate_left
  · have hcl : clsO X A oi = 0 ∨ clsO X A oi = 1 := by
      unfold clsO
      split
      · exact .inl rfl
      · right; unfold clsO1; rw [hlo]
    rcases hcl with h0 | h0
    · obtain ⟨rfl, g⟩ := ci h0
      exact fin H2 c2 (g H2)
    · obtain rfl := di h0
      rcases c2 with ⟨hw2, z2⟩ | ⟨hw2, hy, e2⟩
      · rcases c1 with ⟨hw1, z1⟩ | ⟨hw1, hx, e1⟩
        · obtain ⟨ty, z, ty', xs, ys, a, i1, j1, b, i2, j2, d1, d2, d3, d4, d5⟩ := hdy hw1
          refine fin H2 (.inl ⟨hw2, z2⟩) (.inl ⟨hw1, ?_⟩)
          have hj5 : clsO X A oj = 5 := by
            unfold clsO
            have : dataOp oj = false := by unfold dataOp; rw [d2]
            rw [this, Bool.and_false]
            unfold clsO1; rw [d2]
          have key : ∃ r', H2 = Heap.set H1 b r' := by
            unfold opF at z2
            have : dataOp oj = false := by unfold dataOp; rw [d2]
            rw [this, Bool.and_false] at z2
            simp only [opF1, d2, Option.map_eq_some_iff] at z2
            obtain ⟨H3, k1, k2⟩ := z2
            cases k2
            obtain ⟨b', i', j', r, r', e1, _, e3, _⟩ := storeA_at k1
            have : evalA t (.tmp xs) = .ptr b i2 j2 := by simp [evalA, List.getD, d4]
            rw [this] at e1
            cases e1
            exact ⟨r', e3⟩
          obtain ⟨r', rfl⟩ := key
          have hev : evalA t (.tmp z) = .ptr a i1 j1 := by simp [evalA, List.getD, d3]
          unfold opF at z1 ⊢
          split at z1
          · rename_i hb
            exact absurd h0 (by unfold clsO; rw [hb]; simp)
          · rename_i hb
            simp only [opF1, d1, hev] at z1 ⊢
            have e : loadA P ty (Heap.set H1 b r') (.ptr a i1 j1) = loadA P ty H1 (.ptr a i1 j1) := by
              unfold loadA
              have : (Heap.set H1 b r') a = H1 a := by simp [Heap.set, d5]
              simp only [this]
            rw [e]
            unfold noH at z1 ⊢
            simp only [Option.map_eq_some_iff] at z1 ⊢
            obtain ⟨v, k1, k2⟩ := z1
            cases k2
            exact ⟨_, k1, rfl⟩
        · exact fin H2 (.inl ⟨hw2, z2⟩) (.inr ⟨hw1, hx, rfl⟩)
      · subst e2
        exact fin _ (.inr ⟨hw2, hy, rfl⟩) c1
  unfold okPair at hok
  split at hok
  · rename_i h0
    obtain ⟨rfl, g⟩ := ci h0
    exact fin H2 c2 (g H2)
  · rename_i h0 _
    obtain ⟨rfl, g⟩ := cj h0
    exact fin H (g H) c1
  · rename_i h0 h0'
    obtain rfl := di h0
    obtain rfl := dj h0'
    exact fin _ c2 c1
  · rename_i h0 h0'
    exact one h0 (grow2 h0')
  · rename_i h0 h0'
    exact one h0 (grow4 h0')
  · rename_i h0 h0'
    rcases c2 with ⟨hw2, z2⟩ | ⟨hw2, hy, e2⟩
    · obtain ⟨nid, r, g1, g2, g3⟩ := opF_four h0' z2
      rcases c1 with ⟨hw1, h1⟩ | ⟨hw1, hx, e1⟩
      · obtain ⟨q1, q2⟩ := opF_two h0 h1
        refine fin (H.set nid r) (.inl ⟨hw2, g3 H (q1.none g1)⟩) (.inl ⟨hw1, ?_⟩)
        rw [g2]
        exact q2 nid r g1
      · subst e1
        exact fin H2 (.inl ⟨hw2, z2⟩) (.inr ⟨hw1, hx, rfl⟩)
    · subst e2
      exact fin H (.inr ⟨hw2, hy, rfl⟩) c1
  · rename_i h0 h0'
    rcases c2 with ⟨hw2, z2⟩ | ⟨hw2, hy, e2⟩
    · obtain ⟨nid, r, g1, g2, g3⟩ := opF_four h0' z2
      rcases c1 with ⟨hw1, h1⟩ | ⟨hw1, hx, e1⟩
      · obtain ⟨nid', r', q1, q2, q3⟩ := opF_four h0 h1
        subst q2
        have hne : nid ≠ nid' := by rintro rfl; simp [Heap.set] at g1
        have hHn : H nid = none := by simpa [Heap.set, hne] using g1
        refine fin (H.set nid r) (.inl ⟨hw2, g3 H hHn⟩) (.inl ⟨hw1, ?_⟩)
        rw [g2, set_comm' (Ne.symm hne)]
        exact q3 _ (by simp [Heap.set, Ne.symm hne, q1])
      · subst e1
        exact fin H2 (.inl ⟨hw2, z2⟩) (.inr ⟨hw1, hx, rfl⟩)
    · subst e2
      exact fin H (.inr ⟨hw2, hy, rfl⟩) c1
  · rename_i h0 h0'
    rcases c2 with ⟨hw2, z2⟩ | ⟨hw2, hy, e2⟩
    · obtain ⟨nid, r, g1, g2, g3⟩ := opF_four h0' z2
      rcases c1 with ⟨hw1, h1⟩ | ⟨hw1, hx, e1⟩
      · obtain ⟨b, rb, rb', q1, q2, q3⟩ := opF_five h0 h1
        subst q2
        have hne : nid ≠ b := by rintro rfl; simp [Heap.set] at g1
        have hHn : H nid = none := by simpa [Heap.set, hne] using g1
        refine fin (H.set nid r) (.inl ⟨hw2, g3 H hHn⟩) (.inl ⟨hw1, ?_⟩)
        rw [g2, set_comm' (Ne.symm hne)]
        exact q3 _ (by simp [Heap.set, Ne.symm hne, q1])
      · subst e1
        exact fin H2 (.inl ⟨hw2, z2⟩) (.inr ⟨hw1, hx, rfl⟩)
    · subst e2
      exact fin H (.inr ⟨hw2, hy, rfl⟩) c1
  · rename_i h0 h0'
    rcases c2 with ⟨hw2, z2⟩ | ⟨hw2, hy, e2⟩
    · obtain ⟨nid, r, g1, g2, g3⟩ := opF_four h0' z2
      rcases c1 with ⟨hw1, h1⟩ | ⟨hw1, hx, e1⟩
      · obtain ⟨q1, q2⟩ := opF_six h0 h1 nid r g1
        refine fin (H.set nid r) (.inl ⟨hw2, g3 H q1⟩) (.inl ⟨hw1, ?_⟩)
        rw [g2]
        exact q2
      · subst e1
        exact fin H2 (.inl ⟨hw2, z2⟩) (.inr ⟨hw1, hx, rfl⟩)
    · subst e2
      exact fin H (.inr ⟨hw2, hy, rfl⟩) c1
  · simp at hok

/-- One operation: a call that is run where it stands by its meaning 'Sem', another one by the layer. -/
def stepC (P : Program) (X : List Entry) (A : Ann) (ops : Array Oper) (Sem : Oper → St → (St → Prop) → Prop) (o : Oper) (s : St) (T : St → Prop) : Prop :=
  match inlOf A o with
  | true => Sem o s T
  | false => ∃ s', stepF P X A ops o s = some s' ∧ T s'

/-- Whatever order is picked from here on. -/
def anyF (P : Program) (X : List Entry) (A : Ann) (ops : Array Oper) (Sem : Oper → St → (St → Prop) → Prop) (Q : St → Prop) : Nat → Array Bool → St → Prop
  | 0, listed, s => Region.ready .any ops listed = [] ∧ Q s
  | fuel + 1, listed, s => (Region.ready .any ops listed = [] → Q s) ∧
    ∀ i ∈ Region.ready .any ops listed, ∀ o, ops[i]? = some o → stepC P X A ops Sem o s (anyF P X A ops Sem Q fuel (listed.setIfInBounds i true))

/-- What has come up is closed: nothing has come up ahead of what it waits for. -/
def Closed (ops : Array Oper) (listed : Array Bool) : Prop :=
  ∀ j o, ops[j]? = some o → listed.getD j false = true → ∀ e ∈ o.after, Region.binds .any e = true → listed.getD e.on false = true

/-- j waits for i, by way of others too. -/
def Waits (ops : Array Oper) (j i : Nat) : Bool := ((Region.before ops).getD j 0).testBit i

theorem foldl_bits (acc : Array Nat) (i : Nat) : ∀ (l : List Edge) (s : Nat), (l.foldl (fun s e => if Region.binds .any e then s ||| 2 ^ e.on ||| acc.getD e.on 0 else s) s).testBit i = true →
    s.testBit i = true ∨ ∃ e ∈ l, Region.binds .any e = true ∧ (e.on = i ∨ (acc.getD e.on 0).testBit i = true)
  | [], s, h => .inl h
  | e :: l, s, h => by
    simp only [List.foldl_cons] at h
    rcases foldl_bits acc i l _ h with h | ⟨e', h1, h2, h3⟩
    · split at h
      · rename_i hb
        rw [Nat.testBit_or, Nat.testBit_or, Bool.or_eq_true, Bool.or_eq_true] at h
        rcases h with (h | h) | h
        · exact .inl h
        · exact .inr ⟨e, by simp, hb, .inl (by rw [Nat.testBit_two_pow] at h; simpa using h)⟩
        · exact .inr ⟨e, by simp, hb, .inr h⟩
      · exact .inl h
    · exact .inr ⟨e', by simp [h1], h2, h3⟩

theorem before_spec (ops : Array Oper) : ∀ n, n ≤ ops.size → ∃ acc : Array Nat, (ops.toList.take n).foldl (fun acc o => acc.push (o.after.foldl (fun s e => if Region.binds .any e then s ||| 2 ^ e.on ||| acc.getD e.on 0 else s) 0)) #[] = acc ∧ acc.size = n ∧
    ∀ j o i, ops[j]? = some o → j < n → (acc.getD j 0).testBit i = true → ∃ e ∈ o.after, Region.binds .any e = true ∧ (e.on = i ∨ (e.on < j ∧ (acc.getD e.on 0).testBit i = true))
  | 0, _ => ⟨#[], by simp, rfl, fun j o i _ h => by omega⟩
  | n + 1, hn => by
    obtain ⟨acc, h1, h2, h3⟩ := before_spec ops n (by omega)
    have ho : ops.toList[n]? = some (ops[n]'(by omega)) := by simp
    refine ⟨_, rfl, ?_, ?_⟩
    · rw [List.take_add_one, ho, Option.toList_some, List.foldl_append, h1]
      simp [h2]
    · intro j o i hj hlt hbit
      rw [List.take_add_one, ho, Option.toList_some, List.foldl_append, h1] at hbit ⊢
      simp only [List.foldl_cons, List.foldl_nil] at hbit ⊢
      have old : ∀ k, k < n → ∀ v, (acc.push v).getD k 0 = acc.getD k 0 := fun k hk v => by
        simp [Array.getElem?_push, show k ≠ acc.size by omega]
      by_cases hjn : j < n
      · rw [old j hjn] at hbit
        obtain ⟨e, e1, e2, e3 | ⟨e3, e4⟩⟩ := h3 j o i hj hjn hbit
        · exact ⟨e, e1, e2, .inl e3⟩
        · exact ⟨e, e1, e2, .inr ⟨e3, by rw [old _ (by omega)]; exact e4⟩⟩
      · obtain rfl : j = n := by omega
        have hoo : ops[j]'(by omega) = o := by
          have := (Array.getElem?_eq_some_iff.1 hj).2
          exact this
        rw [hoo] at hbit ⊢
        have hv : ∀ v, (acc.push v).getD j 0 = v := fun v => by
          rw [Array.getD_eq_getD_getElem?, Array.getElem?_push, if_pos h2.symm]
          rfl
        rw [hv, ← Array.foldl_toList] at hbit
        rcases foldl_bits acc i _ _ hbit with h | ⟨e, e1, e2, e3 | e3⟩
        · simp at h
        · exact ⟨e, by simpa using e1, e2, .inl e3⟩
        · have hk : e.on < acc.size := by
            by_cases hk : e.on < acc.size
            · exact hk
            · rw [show acc.getD e.on 0 = 0 by simp [Array.getElem?_eq_none (Nat.le_of_not_lt hk)]] at e3
              simp at e3
          exact ⟨e, by simpa using e1, e2, .inr ⟨by omega, by rw [old _ (by omega)]; exact e3⟩⟩

theorem waits_step {j i : Nat} {o : Oper} (hj : ops[j]? = some o) (h : Waits ops j i = true) : ∃ e ∈ o.after, Region.binds .any e = true ∧ (e.on = i ∨ (e.on < j ∧ Waits ops e.on i = true)) := by
  obtain ⟨acc, h1, h2, h3⟩ := before_spec ops ops.size (Nat.le_refl _)
  have hb : Region.before ops = acc := by
    unfold Region.before
    rw [← Array.foldl_toList, ← h1, List.take_of_length_le (by simp)]
  unfold Waits at h ⊢
  rw [hb] at h ⊢
  exact h3 j o i hj (Array.getElem?_eq_some_iff.1 hj).1 h

theorem closed_waits {listed : Array Bool} (hc : Closed ops listed) {i : Nat} : ∀ (j : Nat), listed.getD j false = true → j < ops.size → Waits ops j i = true → listed.getD i false = true := by
  intro j
  induction j using Nat.strongRecOn with
  | _ j ih =>
    intro hl hj hw
    have ho : ops[j]? = some ops[j] := by simp [hj]
    obtain ⟨e, e1, e2, e3 | ⟨e3, e4⟩⟩ := waits_step ho hw
    · rw [← e3]; exact hc j _ ho hl e e1 e2
    · exact ih e.on e3 (hc j _ ho hl e e1 e2) (by omega) e4

/-- What is known of a load beside a write that no order parts. -/
def DyQ (ops : Array Oper) (listed : Array Bool) (i : Nat) (oi oj : Oper) (t : List AV) : Prop :=
  (∃ ty z, oi.op = .load ty z) ∧ (wantedA ops oi t = some true → DyP t oi oj) ∧ ∀ ty x y, oj.op = .store ty (.tmp x) y → ∀ q oq, ops[q]? = some oq → q ≠ i → listed.getD q true = false → oq.dst ≠ some x

/-- A slice literal: never a pointer. -/
def isBS (o : Oper) : Bool := match o.op with
  | .buildSlice _ _ _ => true
  | _ => false

theorem bs_noptr {P : Program} {X : List Entry} {A : Ann} {o : Oper} {t : List AV} {H H' : Heap} {x : AV} (hb : isBS o = true) (h : opF P X A o t H = some (x, H')) {a i j : Nat} : x ≠ .ptr a i j := by
  unfold isBS at hb
  split at hb
  case h_2 => cases hb
  rename_i ty len parts ho
  have hd : dataOp o = false := by unfold dataOp; rw [ho]
  unfold opF at h
  rw [hd, Bool.and_false] at h
  simp only [opF1, ho] at h
  rintro rfl
  split at h
  · unfold buildRow at h
    split at h
    case h_2 =>
      unfold buildSeqA at h
      simp only [Option.bind_eq_some_iff] at h
      obtain ⟨r, _, h⟩ := h
      cases h
    simp only [buildSliceA, Option.bind_eq_some_iff] at h
    obtain ⟨e, _, s, _, k, _, z, _, h⟩ := h
    split at h
    case h_2 => cases h
    split at h
    case isFalse => cases h
    simp only [Option.bind_eq_some_iff] at h
    obtain ⟨ps, _, xs, _, h⟩ := h
    split at h <;> cases h
  · unfold buildLit at h
    split at h
    · unfold buildSliceD at h
      simp only [Option.bind_eq_some_iff] at h
      obtain ⟨⟨y, H1⟩, _, h⟩ := h
      split at h <;> cases h
    · unfold buildSeqD at h
      simp only [Option.bind_eq_some_iff] at h
      obtain ⟨r, _, h⟩ := h
      cases h

/-- What is known of a look beside a call that no order parts. -/
def DyR (X : List Entry) (A : Ann) (ops : Array Oper) (listed : Array Bool) (i : Nat) (oi oj : Oper) (t : List AV) : Prop :=
  (wantedA ops oi t = some true → DyP2 X t oi oj) ∧ (clsO X A oi = 0 ∨ clsO X A oi = 1) ∧ ∀ args, lentCall X oj = some args → ∀ x, .tmp x ∈ args.toList → ∀ q oq, ops[q]? = some oq → q ≠ i → listed.getD q true = false → oq.dst ≠ some x ∨ isBS oq = true

theorem putA_get {t : List AV} {dst : Option Tmp} {v : AV} {z : Tmp} (h : dst ≠ some z) : (putA t dst v)[z]? = t[z]? := by
  cases dst with
  | none => rfl
  | some d =>
    have : d ≠ z := fun e => h (by rw [e])
    simp [putA, List.getElem?_set_ne this]

theorem DyQ.step {listed : Array Bool} {i j : Nat} {oi oj oq : Oper} {s s' : St} (h : DyQ ops listed i oi oq s.t) (hoj : ops[j]? = some oj) (hji : j ≠ i) (hjun : listed.getD j true = false) (ha : oi.apart ops oj = true) (hs : stepF P X A ops oj s = some s') :
    DyQ ops (listed.setIfInBounds j true) i oi oq s'.t := by
  obtain ⟨a1, a2, a3⟩ := Oper.apart_spec ha
  obtain ⟨h1, h2, h3⟩ := h
  have ht : ∃ v, s'.t = putA s.t oj.dst v := by
    unfold stepF at hs
    split at hs
    · simp only [Option.map_eq_some_iff] at hs
      obtain ⟨⟨x, H'⟩, _, rfl⟩ := hs
      exact ⟨x, rfl⟩
    · simp at hs
      subst hs
      exact ⟨_, rfl⟩
    · simp at hs
  obtain ⟨v, ht⟩ := ht
  refine ⟨h1, fun hw => ?_, fun ty x y ho q oq' hq hqi hun => h3 ty x y ho q oq' hq hqi ?_⟩
  · rw [ht, wantedA_put a3] at hw
    obtain ⟨ty, z, ty', x, y, a, i1, j1, b, i2, j2, d1, d2, d3, d4, d5⟩ := h2 hw
    refine ⟨ty, z, ty', x, y, a, i1, j1, b, i2, j2, d1, d2, ?_, ?_, d5⟩
    · rw [ht, putA_get (fun e => a3 z e ?_)]
      · exact d3
      · unfold Oper.looksAt
        refine List.mem_append_left _ (List.mem_filterMap.2 ⟨.tmp z, ?_, rfl⟩)
        rw [d1]
        simp [Op.operands]
    · rw [ht, putA_get (h3 ty' x y d2 j oj hoj hji hjun)]
      exact d4
  · by_cases hjq : j = q
    · subst hjq; exact hjun
    · rw [getD_set_ne true hjq] at hun; exact hun

theorem readsAt_put {o : Oper} {t : List AV} {dst : Option Tmp} {v : AV} (h : ∀ d, dst = some d → d ∉ o.looksAt ops) : readsAt (putA t dst v) o = readsAt t o := by
  have key : ∀ z, (.tmp z) ∈ o.op.operands.toList → (putA t dst v)[z]? = t[z]? := fun z hz => putA_get fun e => h z e (by
    unfold Oper.looksAt
    exact List.mem_append_left _ (List.mem_filterMap.2 ⟨.tmp z, hz, rfl⟩))
  unfold readsAt
  split
  · rename_i ty z ho
    rw [key z (by rw [ho]; simp [Op.operands])]
  · rename_i ty z ix ho
    rw [key z (by rw [ho]; simp [Op.operands])]
  · rfl

theorem DyR.step {listed : Array Bool} {i j : Nat} {oi oj oq : Oper} {s s' : St} (h : DyR X A ops listed i oi oq s.t) (hoj : ops[j]? = some oj) (hji : j ≠ i) (hjun : listed.getD j true = false) (ha : oi.apart ops oj = true) (hs : stepF P X A ops oj s = some s') :
    DyR X A ops (listed.setIfInBounds j true) i oi oq s'.t := by
  obtain ⟨a1, a2, a3⟩ := Oper.apart_spec ha
  obtain ⟨h1, h2, h3⟩ := h
  have ht : ∃ v, s'.t = putA s.t oj.dst v ∧ (isBS oj = true → ∀ a i j, v ≠ .ptr a i j) := by
    unfold stepF at hs
    split at hs
    · simp only [Option.map_eq_some_iff] at hs
      obtain ⟨⟨x, H'⟩, hx, rfl⟩ := hs
      exact ⟨x, rfl, fun hb a i j => bs_noptr hb hx⟩
    · simp at hs
      subst hs
      exact ⟨_, rfl, fun _ _ _ _ e => by cases e⟩
    · simp at hs
  obtain ⟨v, ht, hv⟩ := ht
  refine ⟨fun hw => ?_, h2, fun args ho x hx q oq' hq hqi hun => h3 args ho x hx q oq' hq hqi ?_⟩
  · rw [ht, wantedA_put a3] at hw
    obtain ⟨a, args, d1, d2, d3⟩ := h1 hw
    refine ⟨a, args, by rw [ht, readsAt_put a3]; exact d1, d2, fun q hq i' j' => ?_⟩
    rw [ht]
    by_cases hqd : ∃ d, oj.dst = some d ∧ q = .tmp d
    · obtain ⟨d, hd, rfl⟩ := hqd
      rcases h3 args d2 d hq j oj hoj hji hjun with h4 | h4
      · exact absurd hd h4
      · rw [hd]
        simp only [evalA, putA, List.getD]
        by_cases hl : d < s.t.length
        · rw [List.getElem?_set_self hl]
          exact hv h4 a i' j'
        · rw [List.getElem?_eq_none (by simpa using hl)]
          intro e; cases e
    · rw [evalA_put fun d hd e => hqd ⟨d, hd, e⟩]
      exact d3 q hq i' j'
  · by_cases hjq : j = q
    · subst hjq; exact hjun
    · rw [getD_set_ne true hjq] at hun; exact hun

/-- An operation that may come up now may be taken first, if all that has not come up yet waits for it, or is apart from it and may change places with it. -/
theorem anyF_first {Sem : Oper → St → (St → Prop) → Prop} {Q : St → Prop} {i : Nat} {oi : Oper} (hi : ops[i]? = some oi) (hni : inlOf A oi = false) :
    ∀ (fuel : Nat) (listed : Array Bool) (s s1 : St), Closed ops listed →
      (∀ j oj, ops[j]? = some oj → j ≠ i → listed.getD j true = false → Waits ops j i = false → oi.apart ops oj = true ∧ inlOf A oj = false ∧ (okPair X A oi oj = true ∨ DyQ ops listed i oi oj s.t ∨ DyR X A ops listed i oi oj s.t)) →
      i ∈ Region.ready .any ops listed → stepF P X A ops oi s = some s1 → anyF P X A ops Sem Q fuel (listed.setIfInBounds i true) s1 → anyF P X A ops Sem Q (fuel + 1) listed s := by
  intro fuel
  induction fuel with
  | zero =>
    intro listed s s1 hcl hfree hr hy H
    refine ⟨fun h => (by rw [h] at hr; cases hr), fun j hj oj hoj => ?_⟩
    by_cases hji : j = i
    · subst hji
      rw [hi] at hoj
      cases hoj
      unfold stepC
      rw [hni]
      exact ⟨s1, hy, H⟩
    · have := ready_mono hj hji
      rw [H.1] at this
      cases this
  | succ fuel ih =>
    intro listed s s1 hcl hfree hr hy H
    refine ⟨fun h => (by rw [h] at hr; cases hr), fun j hj oj hoj => ?_⟩
    by_cases hji : j = i
    · subst hji
      rw [hi] at hoj
      cases hoj
      unfold stepC
      rw [hni]
      exact ⟨s1, hy, H⟩
    · have hst := H.2 j (ready_mono hj hji) oj hoj
      obtain ⟨hjun, oj', hoj', hall⟩ := mem_ready.1 hj
      rw [hoj] at hoj'
      cases hoj'
      have hiun := (mem_ready.1 hr).1
      have hiun' : listed.getD i false = false := by
        rcases Nat.lt_or_ge i listed.size with h' | h'
        · simp [h'] at hiun ⊢; exact hiun
        · simp [Array.getElem?_eq_none h'] at hiun
      have hnot : Waits ops j i = false := by
        cases hw : Waits ops j i
        · rfl
        · exfalso
          obtain ⟨e, e1, e2, e3 | ⟨e3, e4⟩⟩ := waits_step hoj hw
          · have := hall e e1 e2
            rw [e3, hiun'] at this
            cases this
          · have hlt : e.on < ops.size := Nat.lt_trans e3 (Array.getElem?_eq_some_iff.1 hoj).1
            have := closed_waits hcl e.on (hall e e1 e2) hlt e4
            rw [hiun'] at this
            cases this
      obtain ⟨ha, hnj, hk⟩ := hfree j oj hoj hji hjun hnot
      unfold stepC at hst ⊢
      rw [hnj] at hst ⊢
      obtain ⟨s2, h1, h2⟩ := hst
      obtain ⟨s1', g1, g2⟩ := stepF_comm ha (by
        rcases hk with hk | hk | hk
        · exact .inl (.inl hk)
        · exact .inl (.inr ⟨hk.1, hk.2.1⟩)
        · exact .inr ⟨hk.1, hk.2.1⟩) hy h1
      refine ⟨s1', g1, ih (listed.setIfInBounds j true) s1' s2 ?_ ?_ (ready_mono hr (Ne.symm hji)) g2 ?_⟩
      · intro q o hq hlq e he hb
        by_cases hqj : q = j
        · subst hqj
          rw [hoj] at hq
          cases hq
          exact getD_set_true (hall e he hb)
        · exact getD_set_true (hcl q o hq (by rw [getD_set_ne false (Ne.symm hqj)] at hlq; exact hlq) e he hb)
      · intro q oq hq hqi hun hno
        have hun' : listed.getD q true = false := by
          by_cases hjq : j = q
          · subst hjq; exact hjun
          · rw [getD_set_ne true hjq] at hun; exact hun
        obtain ⟨b1, b2, b3⟩ := hfree q oq hq hqi hun' hno
        exact ⟨b1, b2, b3.imp id fun h => h.imp (fun h => h.step hoj hji hjun ha g1) fun h => h.step hoj hji hjun ha g1⟩
      · rw [Array.setIfInBounds_comm _ _ hji]
        exact h2

/-- An operation for which all others wait that have not come up yet. -/
theorem anyF_only {Sem : Oper → St → (St → Prop) → Prop} {Q : St → Prop} {i : Nat} {oi : Oper} (hi : ops[i]? = some oi) {fuel : Nat} {listed : Array Bool} {s : St} (hcl : Closed ops listed)
    (hfree : ∀ j oj, ops[j]? = some oj → j ≠ i → listed.getD j true = false → Waits ops j i = true) (hr : i ∈ Region.ready .any ops listed) (h : stepC P X A ops Sem oi s (anyF P X A ops Sem Q fuel (listed.setIfInBounds i true))) :
    anyF P X A ops Sem Q (fuel + 1) listed s := by
  refine ⟨fun h => (by rw [h] at hr; cases hr), fun j hj oj hoj => ?_⟩
  by_cases hji : j = i
  · subst hji
    rw [hi] at hoj
    cases hoj
    exact h
  · exfalso
    obtain ⟨hjun, oj', hoj', hall⟩ := mem_ready.1 hj
    rw [hoj] at hoj'
    cases hoj'
    have hiun := (mem_ready.1 hr).1
    have hiun' : listed.getD i false = false := by
      rcases Nat.lt_or_ge i listed.size with h' | h'
      · simp [h'] at hiun ⊢; exact hiun
      · simp [Array.getElem?_eq_none h'] at hiun
    obtain ⟨e, e1, e2, e3 | ⟨e3, e4⟩⟩ := waits_step hoj (hfree j oj hoj hji hjun)
    · have := hall e e1 e2
      rw [e3, hiun'] at this
      cases this
    · have hlt : e.on < ops.size := Nat.lt_trans e3 (Array.getElem?_eq_some_iff.1 hoj).1
      have := closed_waits hcl e.on (hall e e1 e2) hlt e4
      rw [hiun'] at this
      cases this

/-- Whether what a load reads is another row than those that are written beside it. -/
def dynAt1 (A : Ann) (o : Oper) (t : List AV) : Bool := match o.op, o.dst with
  | .load _ (.tmp z), some d => (frzAt A (5000000 + d)).all fun x => match t[z]?, t[x]? with
    | some (.ptr a _ _), some (.ptr b _ _) => a != b
    | _, _ => false
  | _, _ => true

/-- Whether what is looked at is another row than those that are lent to a call beside it. -/
def dynAt2 (A : Ann) (o : Oper) (t : List AV) : Bool := match o.dst with
  | some d => (frzAt A (6000000 + d)).all fun x => match readsAt t o with
    | some a => match t[x]? with
      | some (.ptr b _ _) => a != b
      | _ => true
    | none => false
  | none => true

def dynAt (A : Ann) (o : Oper) (t : List AV) : Bool := dynAt1 A o t && dynAt2 A o t

def dynPair1 (A : Ann) (ops : Array Oper) (listed : Array Bool) (i : Nat) (oi oj : Oper) : Bool := match oi.op, oi.dst, oj.op with
  | .load _ (.tmp _), some d, .store _ (.tmp x) _ => (frzAt A (5000000 + d)).contains x && (List.range ops.size).all fun q => q == i || listed.getD q true || match ops[q]? with
    | some oq => oq.dst != some x
    | none => true
  | _, _, _ => false

def dynArg (A : Ann) (ops : Array Oper) (listed : Array Bool) (i d : Nat) : Operand → Bool
  | .tmp x => (frzAt A (6000000 + d)).contains x && (List.range ops.size).all fun q => q == i || listed.getD q true || match ops[q]? with
    | some oq => oq.dst != some x || isBS oq
    | none => true
  | .func _ => true
  | .const _ => true
  | _ => false

def clsLow (X : List Entry) (A : Ann) (o : Oper) : Bool := match clsO X A o with
  | 0 => true
  | 1 => true
  | _ => false

def dynPair2 (X : List Entry) (A : Ann) (ops : Array Oper) (listed : Array Bool) (i : Nat) (oi oj : Oper) : Bool := match oi.dst, lentCall X oj with
  | some d, some args => clsLow X A oi && !(frzAt A (6000000 + d)).isEmpty && args.toList.all (dynArg A ops listed i d)
  | _, _ => false

def dynPair (X : List Entry) (A : Ann) (ops : Array Oper) (listed : Array Bool) (i : Nat) (oi oj : Oper) : Bool := dynPair1 A ops listed i oi oj || dynPair2 X A ops listed i oi oj

theorem dynPair_dy1 {listed : Array Bool} {i : Nat} {oi oj : Oper} {t : List AV} (h1 : wantedA ops oi t = some true → dynAt1 A oi t = true) (h2 : dynPair1 A ops listed i oi oj = true) : DyQ ops listed i oi oj t := by
  unfold dynPair1 at h2
  split at h2
  · rename_i ty z d ty' x y e1 e2 e3
    simp only [Bool.and_eq_true, List.all_eq_true, List.mem_range, Bool.or_eq_true, beq_iff_eq] at h2
    obtain ⟨h2, h4⟩ := h2
    refine ⟨⟨ty, _, e1⟩, fun hw => ?_, fun ty2 x2 y2 ho q oq hq hqi hun => ?_⟩
    · have h5 := h1 hw
      unfold dynAt1 at h5
      rw [e1, e2] at h5
      simp only [List.all_eq_true] at h5
      have h6 := h5 x (by simpa using h2)
      split at h6
      · rename_i a i1 j1 b i2 j2 f1 f2
        exact ⟨ty, z, ty', x, y, a, i1, j1, b, i2, j2, e1, e3, f1, f2, by simpa using h6⟩
      · cases h6
    · rw [e3] at ho
      cases ho
      have h5 := h4 q (Array.getElem?_eq_some_iff.1 hq).1
      rw [hq] at h5
      rcases h5 with (h5 | h5) | h5
      · exact absurd h5 hqi
      · rw [hun] at h5; cases h5
      · simpa using h5
  · cases h2

theorem ofConst_ptr {v : Value} {a i j : Nat} : ofConst v ≠ .ptr a i j := by
  unfold ofConst
  split <;> simp

theorem dynPair_dy2 {listed : Array Bool} {i : Nat} {oi oj : Oper} {t : List AV} (h1 : wantedA ops oi t = some true → dynAt2 A oi t = true) (h2 : dynPair2 X A ops listed i oi oj = true) : DyR X A ops listed i oi oj t := by
  unfold dynPair2 at h2
  split at h2
  case h_2 => cases h2
  rename_i d args e1 e2
  simp only [Bool.and_eq_true, Bool.not_eq_true'] at h2
  obtain ⟨⟨g1, g2⟩, g3⟩ := h2
  have garg : ∀ x, .tmp x ∈ args.toList → (frzAt A (6000000 + d)).contains x = true ∧ ∀ q oq, ops[q]? = some oq → q ≠ i → listed.getD q true = false → oq.dst ≠ some x ∨ isBS oq = true := fun x hx => by
    have := List.all_eq_true.1 g3 _ hx
    simp only [dynArg, Bool.and_eq_true, List.all_eq_true, List.mem_range, Bool.or_eq_true, beq_iff_eq] at this
    refine ⟨this.1, fun q oq hq hqi hun => ?_⟩
    have h5 := this.2 q (Array.getElem?_eq_some_iff.1 hq).1
    rw [hq] at h5
    rcases h5 with (h5 | h5) | h5
    · exact absurd h5 hqi
    · rw [hun] at h5; cases h5
    · simpa [bne_iff_ne] using h5
  refine ⟨fun hw => ?_, ?_, fun args' ho x hx q oq hq hqi hun => ?_⟩
  · have h5 := h1 hw
    unfold dynAt2 at h5
    rw [e1] at h5
    simp only [List.all_eq_true] at h5
    obtain ⟨x0, hx0⟩ : ∃ x0, x0 ∈ frzAt A (6000000 + d) := by
      cases hf : frzAt A (6000000 + d) with
      | nil => rw [hf] at g2; cases g2
      | cons y ys => exact ⟨y, by simp⟩
    have h6 := h5 x0 hx0
    cases hr : readsAt t oi with
    | none => rw [hr] at h6; cases h6
    | some a =>
      refine ⟨a, args, hr, e2, fun q hq i' j' hev => ?_⟩
      cases q with
      | tmp x =>
        obtain ⟨k1, _⟩ := garg x hq
        have h7 := h5 x (by simpa using k1)
        rw [hr] at h7
        simp only [evalA, List.getD] at hev
        cases hx : t[x]? with
        | none => rw [hx] at hev; cases hev
        | some y =>
          rw [hx] at hev h7
          simp only [Option.getD_some] at hev
          subst hev
          simp at h7
      | const v => exact ofConst_ptr hev
      | func f => cases hev
      | global g =>
        have := List.all_eq_true.1 g3 _ hq
        cases this
  · unfold clsLow at g1
    split at g1
    · rename_i h; exact .inl h
    · rename_i h; exact .inr h
    · cases g1
  · rw [e2] at ho
    cases ho
    exact (garg x hx).2 q oq hq hqi hun

theorem dynPair_dy {listed : Array Bool} {i : Nat} {oi oj : Oper} {t : List AV} (h1 : wantedA ops oi t = some true → dynAt A oi t = true) (h2 : dynPair X A ops listed i oi oj = true) : DyQ ops listed i oi oj t ∨ DyR X A ops listed i oi oj t := by
  unfold dynPair at h2
  rw [Bool.or_eq_true] at h2
  have g1 : wantedA ops oi t = some true → dynAt1 A oi t = true ∧ dynAt2 A oi t = true := fun hw => by
    have := h1 hw
    unfold dynAt at this
    rwa [Bool.and_eq_true] at this
  exact h2.imp (dynPair_dy1 fun hw => (g1 hw).1) (dynPair_dy2 fun hw => (g1 hw).2)

/-- May operation i be taken first? -/
def freeA (X : List Entry) (A : Ann) (ops : Array Oper) (listed : Array Bool) (i : Nat) : Bool :=
  match ops[i]? with
  | none => false
  | some oi => (List.range ops.size).all fun j => j == i || listed.getD j true || Waits ops j i || match ops[j]? with
      | some oj => !inlOf A oi && !inlOf A oj && oi.apart ops oj && (okPair X A oi oj || dynPair X A ops listed i oi oj)
      | none => true

/-- An order serves. -/
def lexL (X : List Entry) (A : Ann) (ops : Array Oper) : List Nat → Array Bool → Bool
  | [], listed => (Region.ready .any ops listed).isEmpty
  | k :: ks, listed => (Region.ready .any ops listed).contains k && freeA X A ops listed k && lexL X A ops ks (listed.setIfInBounds k true)

def drawOK (X : List Entry) (A : Ann) (ops : Array Oper) (ks : List Nat) : Bool := ks.length == ops.size && lexL X A ops ks (Array.replicate ops.size false)

/-- Operations by their numbers. -/
def pickOps (ops : Array Oper) (ks : List Nat) : List Oper := ks.filterMap fun k => ops[k]?

theorem Closed.next {listed : Array Bool} (hcl : Closed ops listed) {k : Nat} {o : Oper} (h0 : ops[k]? = some o) (hall : ∀ e ∈ o.after, Region.binds .any e = true → listed.getD e.on false = true) : Closed ops (listed.setIfInBounds k true) := by
  intro q o' hq hlq e he hb
  by_cases hqk : q = k
  · subst hqk
    rw [h0] at hq
    cases hq
    exact getD_set_true (hall e he hb)
  · exact getD_set_true (hcl q o' hq (by rw [getD_set_ne false (Ne.symm hqk)] at hlq; exact hlq) e he hb)

theorem Rel.drew {w0 : World} {S N0 : Nat → Prop} {pv : List Value} {s : St} {a : Act} {w : World} (h : Rel P w0 S N0 pv s a w) : Rel P w0 S N0 pv s a { w with drawn := w.drawn + 1 } := by
  obtain ⟨N, ι, hI, hd, hs, ht, hpl, hp⟩ := h
  exact ⟨N, ι, hI.drew, hd.fwd Fwd.drew, hs, fun i hi => (ht i hi).fwd Fwd.drew, hpl, fun i hi hv => (hp i hi hv).fwd Fwd.drew⟩
end
end Go.Ab
