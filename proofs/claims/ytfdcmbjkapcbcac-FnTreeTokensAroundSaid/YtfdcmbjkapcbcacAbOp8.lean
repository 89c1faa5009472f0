/-
  AN ABSTRACT LAYER, 10: append, copy.
-/
import Derived.Test.YtfdcmbjkapcbcacAbOp7
namespace Go.Ab
variable {P : Program}

/-- The integers of a slice. -/
def intsOf (k : IntKind) (H : Heap) : AV → Option (List Int)
  | .imm .nils => some []
  | .imm (.ints k' xs) => if k' = k then some xs else none
  | .row id _ off len => match H id with
    | some (.ints k' xs) => if k' = k ∧ off + len ≤ xs.length then some ((xs.drop off).take len) else none
    | _ => none
  | .all id _ => match H id with
    | some (.ints k' xs) => if k' = k then some xs else none
    | _ => none
  | _ => none

/-- append, of integers: the slice goes up to the end of its row. -/
def appendA (P : Program) (t : TypeId) (s x : AV) (nid : Nat) (H : Heap) : Option (AV × Heap) :=
  (elemT P t).bind fun e => (P.info? e).bind fun info => (kindT P e).bind fun k => (zeroT P e).bind fun z => (intsOf k H x).bind fun ys =>
    if z.cells.size = 1 ∧ info.size = 1 then
      match H nid, s with
      | none, .imm .nils => if ys.length * info.bytes ≤ 140737488355328 ∧ ys.length ≤ 4611686018427387904 then some (.all nid 1, H.set nid (.ints k ys)) else none
      | none, .all id _ => match H id with
        | some (.ints k' xs) => if k' = k ∧ (xs.length + ys.length) * info.bytes ≤ 140737488355328 ∧ xs.length + ys.length ≤ 4611686018427387904 then
            some (.all nid 1, (H.set id .dead).set nid (.ints k (xs ++ ys))) else none
        | _ => none
      | none, .row id s' off len => match H id with
        | some (.ints k' zs) => if off = 0 ∧ k' = k ∧ s' = 1 ∧ len ≤ zs.length ∧ (len + ys.length) * info.bytes ≤ 140737488355328 ∧ len + ys.length ≤ 4611686018427387904 then
            some (.all nid 1, (H.set id .dead).set nid (.ints k (zs.take len ++ ys))) else none
        | _ => none
      | _, _ => none
    else none

/-- The data of a slice. -/
def dsOf (n : Nat) (H : Heap) : AV → Option (List D)
  | .imm .nils => some []
  | .imm (.seq s xs) => if s = n then some xs else none
  | .row id _ off len => match H id with
    | some (.ds n' xs) => if n' = n ∧ off + len ≤ xs.length then some ((xs.drop off).take len) else none
    | _ => none
  | .all id _ => match H id with
    | some (.ds n' xs) => if n' = n then some xs else none
    | _ => none
  | _ => none

/-- Elements of n scalars. -/
def okDs (n : Nat) (ys : List D) : Bool := (D.flat ys).all D.one && ys.all (fun y => y.cells.length == n)

/-- append, of data. -/
def appendDsA (P : Program) (t : TypeId) (s x : AV) (nid : Nat) (H : Heap) : Option (AV × Heap) :=
  (elemT P t).bind fun e => (P.info? e).bind fun info => (zeroT P e).bind fun z => (dsOf info.size H x).bind fun ys =>
    if z.cells.size = info.size ∧ okDs info.size ys = true then
      match H nid, s with
      | none, .imm .nils => if ys.length * info.bytes ≤ 140737488355328 ∧ ys.length ≤ 4611686018427387904 then some (.all nid info.size, H.set nid (.ds info.size ys)) else none
      | none, .all id _ => match H id with
        | some (.ds n' xs) => if n' = info.size ∧ (xs.length + ys.length) * info.bytes ≤ 140737488355328 ∧ xs.length + ys.length ≤ 4611686018427387904 then
            some (.all nid info.size, (H.set id .dead).set nid (.ds info.size (xs ++ ys))) else none
        | _ => none
      | none, .row id s' off len => match H id with
        | some (.ds n' zs) => if off = 0 ∧ n' = info.size ∧ s' = info.size ∧ len ≤ zs.length ∧ (len + ys.length) * info.bytes ≤ 140737488355328 ∧ len + ys.length ≤ 4611686018427387904 then
            some (.all nid info.size, (H.set id .dead).set nid (.ds info.size (zs.take len ++ ys))) else none
        | _ => none
      | _, _ => none
    else none

/-- append: of integers, or of data. -/
def appendSA (P : Program) (t : TypeId) (s x : AV) (nid : Nat) (H : Heap) : Option (AV × Heap) :=
  match (elemT P t).bind (kindT P) with
  | some _ => appendA P t s x nid H
  | none => appendDsA P t s x nid H

section
variable {P : Program} {w : World} {N : Nat → Prop} {H : Heap} {ι : Place} {w0 : World} {S N0 : Nat → Prop}

/-- Where the integers of a slice lie. -/
theorem intsOf_sound {k : IntKind} {x : AV} {v : Value} {ys : List Int} (hI : Inv P w0 S N0 H w N ι) (h : intsOf k H x = some ys) (hx : RepA P w N H ι x v) :
    ∃ a c, v = .slice a ys.length c ∧ ys.length ≤ c ∧ (ys ≠ [] → ∃ b, a = some b ∧ ∀ (j : Nat) u, (ys.map (Value.int k))[j]? = some u → w.cell? (b.add j) = some u) := by
  unfold intsOf at h
  split at h
  · simp at h
    subst h
    cases hx with
    | imm hx =>
    cases hx
    exact ⟨_, _, rfl, Nat.le_refl _, fun h => absurd rfl h⟩
  · split at h <;> simp at h
    subst h
    rename_i hk
    subst hk
    cases hx with
    | imm hx =>
    cases hx with
    | ints0 => exact ⟨_, _, rfl, Nat.zero_le _, fun h => absurd rfl h⟩
    | ints _ _ b off cap hN hc hr =>
      refine ⟨_, _, rfl, hc, fun _ => ⟨_, rfl, fun j u hu => ?_⟩⟩
      rw [Addr.add_lit]
      simp only [List.getElem?_map, Option.map_eq_some_iff] at hu
      obtain ⟨n, hu, rfl⟩ := hu
      obtain ⟨hlt, rfl⟩ := List.getElem?_eq_some_iff.1 hu
      exact hr j hlt
  · rename_i id s off len
    split at h
    case h_2 => simp at h
    rename_i k' xs hH
    split at h <;> simp at h
    subst h
    rename_i hc
    obtain ⟨rfl, hle⟩ := hc
    have hl : ((xs.drop off).take len).length = len := by simp; omega
    cases hx with
    | @row _ _ _ _ a cap hid hs hcp hp =>
      refine ⟨a, cap, by rw [hl], by rw [hl]; exact hcp, fun hne => ?_⟩
      obtain ⟨hsz, hp⟩ := hp _ hH rfl
      have hlen : len ≠ 0 := by rintro rfl; simp at hne
      simp only [Row.sz] at hsz
      subst hsz
      rcases hp with ⟨h0, _⟩ | ⟨b, c, h1, rfl, h3, h4⟩
      · omega
      · refine ⟨_, rfl, fun j u hu => ?_⟩
        rcases hI.rows id _ hH with ⟨h5, _⟩ | ⟨b', c', arr, e, h5, h6, h7, h8, h9⟩
        · rw [h1] at h5; cases h5
        · rw [h1] at h5
          cases h5
          simp only [List.getElem?_map, Option.map_eq_some_iff] at hu
          obtain ⟨n, hu, rfl⟩ := hu
          rw [List.getElem?_take] at hu
          split at hu
          case isFalse => simp at hu
          rw [List.getElem?_drop] at hu
          obtain ⟨hlt, rfl⟩ := List.getElem?_eq_some_iff.1 hu
          rw [Addr.add_lit, Nat.mul_one, cell_of_blk h6]
          exact h9 _ hlt
  · rename_i id s
    split at h
    case h_2 => simp at h
    rename_i k' xs hH
    split at h <;> simp at h
    subst h
    rename_i hk
    subst hk
    cases hx with
    | @all _ _ a len cap hid hs hcp hp =>
      obtain ⟨hdim, hp⟩ := hp _ hH rfl
      obtain rfl : len = xs.length := (congrArg Prod.snd hdim).symm
      obtain rfl : s = 1 := (congrArg Prod.fst hdim).symm
      refine ⟨a, cap, rfl, hcp, fun hne => ?_⟩
      rcases hp with ⟨h0, _⟩ | ⟨b, c, h1, rfl, h3, h4⟩
      · exact absurd (List.eq_nil_of_length_eq_zero h0) hne
      · refine ⟨_, rfl, fun j u hu => ?_⟩
        rcases hI.rows id _ hH with ⟨h5, _⟩ | ⟨b', c', arr, e, h5, h6, h7, h8, h9⟩
        · rw [h1] at h5; cases h5
        · rw [h1] at h5
          cases h5
          simp only [List.getElem?_map, Option.map_eq_some_iff] at hu
          obtain ⟨n, hu, rfl⟩ := hu
          obtain ⟨hlt, rfl⟩ := List.getElem?_eq_some_iff.1 hu
          rw [Addr.add_lit, Nat.mul_one, Nat.zero_add, cell_of_blk h6]
          exact h9 _ hlt
  · simp at h

theorem run_append_room' (t ty e e' : TypeId) (i : TypeInfo) (ht : P.underlying t = some (.slice e)) (hi : P.info? e = some i)
    (g sLen sCap : Nat) (cur : Array Value) (hg : w.heap[g]? = some (.cells cur e' (0, 0)))
    (a : Addr) (m c : Nat) (news : List Value) (hl : news.length = m * i.size) (hnews : ∀ j u, news[j]? = some u → w.cell? (a.add j) = some u) (h1 : ∀ u ∈ news, u.oneCell' = true)
    (hroom : sLen + m ≤ sCap) (hfit : sLen * i.size + news.length ≤ cur.size) :
    (Builtin.append_ #[t, t] ty #[.slice (some ⟨g, 0, none⟩) sLen sCap, .slice (some a) m c]).run P w =
      .ok (.slice (some ⟨g, 0, none⟩) (sLen + m) sCap) (w.setRow g (cur.toList.take (sLen * i.size) ++ news ++ cur.toList.drop (sLen * i.size + news.length)).toArray) := by
  have hf := run_firstCells_some (P := P) w i.size m a m c news hl hnews
  have hst := run_storeCells_at P g (sLen * i.size) e' news 0 cur w hg (by simpa using hfit) h1
  simp only [Nat.add_zero] at hst
  simp [Builtin.append_, run_under ht, sizeOf, typeInfo, hi, Builtin.lenOf, hroom, hf, Addr.add_lit, hst]

/-- Nothing is appended. -/
theorem run_append_none (t ty e : TypeId) (i : TypeInfo) (ht : P.underlying t = some (.slice e)) (hi : P.info? e = some i) (base a : Option Addr) (sLen sCap c : Nat) (hle : sLen ≤ sCap) :
    (Builtin.append_ #[t, t] ty #[.slice base sLen sCap, .slice a 0 c]).run P w = .ok (.slice base sLen sCap) w := by
  have hf : (Builtin.firstCells i.size 0 (.slice a 0 c)).run P w = .ok #[] w := by
    cases a <;> simp [Builtin.firstCells, loadCells, loadCellsFrom]
  cases base <;> simp [Builtin.append_, run_under ht, sizeOf, typeInfo, hi, Builtin.lenOf, hle, hf, storeCells]

theorem bare_sound (hI : Inv P w0 S N0 H w N ι) {nid : Nat} (hn : H nid = none) (k : IntKind) (a : Option Addr) :
    ∃ ι', Inv P w0 S N0 (H.set nid (.ints k [])) w N ι' ∧ Fwd N ι H w N ι' (H.set nid (.ints k [])) w ∧ RepA P w N (H.set nid (.ints k [])) ι' (.all nid 1) (.slice a 0 0) := by
  obtain ⟨ι', h1, h2, h3⟩ := hI.bare hn (.ints k []) (fun H' ι' h => .inl ⟨h, rfl⟩)
  refine ⟨ι', h2, h3, .all (by simp [Heap.set]) (.inl rfl) (Nat.le_refl _) fun r hr hl => ?_⟩
  simp [Heap.set] at hr
  subst hr
  exact ⟨rfl, .inl ⟨rfl, rfl⟩⟩

theorem grown_size {z : Value} (hz : z.cells.size = 1) {n m c : Nat} (hm : n = m) (h : m ≤ c) (olds news : List Value) (ho : olds.length + news.length = n) :
    (olds.toArray ++ news.toArray ++ Builtin.zeroCells z.cells (c - m)).size = c := by
  simp [size_zeroCells, hz]
  omega

/-- append to the front part of a row, or to the whole: a new row, at the same place or at a new one. -/
theorem append_core {t ty e : TypeId} {info : TypeInfo} {z : Value} {nid id : Nat} {k' : IntKind} {zs xs ys : List Int} {base a : Option Addr} {cap c : Nat} (hI : Inv P w0 S N0 H w N ι)
    (hu : P.underlying t = some (.slice e)) (h2 : P.info? e = some info) (hzz : info.zero = some z) (hz1 : z.cells.size = 1) (hs1 : info.size = 1) (hn : H nid = none) (hH : H id = some (.ints k' zs)) (hzx : ∃ rest, zs = xs ++ rest)
    (hyc : ys.length ≤ c) (hya : ys ≠ [] → ∃ b, a = some b ∧ ∀ (j : Nat) u, (ys.map (Value.int k'))[j]? = some u → w.cell? (b.add j) = some u) (hone : ∀ q ∈ ys.map (Value.int k'), q.oneCell' = true)
    (hb1 : (xs.length + ys.length) * info.bytes ≤ 140737488355328) (hb2 : xs.length + ys.length ≤ 4611686018427387904) (hsh : xs.length = 0 ∨ ∃ x, base = some x) (hcp : xs.length ≤ cap) (hp : SlPos ι id 1 0 xs.length base cap) :
    ∃ z w' ι', (Builtin.append_ #[t, t] ty #[.slice base xs.length cap, .slice a ys.length c]).run P w = .ok z w' ∧ Inv P w0 S N0 ((H.set id .dead).set nid (.ints k' (xs ++ ys))) w' N ι' ∧ Fwd N ι H w N ι' ((H.set id .dead).set nid (.ints k' (xs ++ ys))) w' ∧ RepA P w' N ((H.set id .dead).set nid (.ints k' (xs ++ ys))) ι' (.all nid 1) z := by
  have hrow : (ι id = none ∧ xs = []) ∨ ∃ b c arr e, ι id = some (b, c) ∧ w.heap[b]? = some (.cells arr e (0, 0)) ∧ arr.size = c ∧ xs.length ≤ c ∧ ∀ i (_ : i < xs.length), arr[i]? = some (.int k' xs[i]) := by
    obtain ⟨rest, rfl⟩ := hzx
    rcases hI.rows id _ hH with ⟨h7, h8⟩ | ⟨b, c, arr, e, h7, h8, h9, h10, h11⟩
    · exact .inl ⟨h7, (List.append_eq_nil_iff.1 h8).1⟩
    · refine .inr ⟨b, c, arr, e, h7, h8, h9, by simp at h10; omega, fun i hi => ?_⟩
      have := h11 i (by simp; omega)
      rw [List.getElem_append_left hi] at this
      exact this
  unfold SlPos at hp
  simp only [Nat.zero_add, Nat.mul_one] at hp
  obtain ⟨k1, k2⟩ := hI.kill hH (N' := N) (fun _ h => h) (fun _ h => .inl h)
  have hne : nid ≠ id := by rintro rfl; rw [hH] at hn; cases hn
  have hn' : (H.set id .dead) nid = none := by simp [Heap.set, hne, hn]
  have hnt : ∀ b c, ι id = some (b, c) → ¬ Taken (H.set id .dead) ι b := by
    rintro b c hb ⟨x, r, c', hx, hl, hι⟩
    have hxi : x ≠ id := by rintro rfl; simp [Heap.set] at hx; subst hx; simp [Row.live] at hl
    exact hxi (hI.inj x id r _ b c' c (by simpa [Heap.set, hxi] using hx) hH hl rfl hι hb)
  by_cases hy : ys = []
  · subst hy
    rcases hp with ⟨hx0, hc0⟩ | ⟨b, c', q1, q2, q3, q4⟩
    · have hxs : xs = [] := List.eq_nil_of_length_eq_zero hx0
      subst hxs
      subst hc0
      obtain ⟨ι', g1, g2, g3⟩ := bare_sound k1 hn' k' base
      exact ⟨_, _, ι', run_append_none t ty e info hu h2 base a 0 0 c (Nat.le_refl _), by simpa using g1, k2.trans (by simpa using g2), by simpa using g3⟩
    · obtain ⟨o1, o2⟩ := hI.own id _ b c' hH rfl q1
      rcases hrow with ⟨h7, _⟩ | ⟨b', c2, arr, e', h7, h8, h9, h10, h11⟩
      · rw [q1] at h7; cases h7
      · rw [q1] at h7
        cases h7
        obtain ⟨ι', g0, g1, g2, _⟩ := k1.adopt (c := c') (r := .ints k' xs) hn' (hnt b c' q1) o1 o2 (fun H' ι' hι hf => .inr ⟨b, c', arr, e', hι, h8, h9, h10, h11⟩)
        refine ⟨_, _, ι', run_append_none t ty e info hu h2 base a xs.length cap c hcp, by simpa using g1, k2.trans (by simpa using g2), ?_⟩
        simp only [List.append_nil]
        refine .all (by simp [Heap.set]) hsh hcp fun r hr hl => ?_
        simp [Heap.set] at hr
        subst hr
        exact ⟨rfl, .inr ⟨b, c', g0, by simpa using q2, by simpa using q3, q4⟩⟩
  · obtain ⟨b, rfl, hcell⟩ := hya hy
    have hpos : 0 < ys.length := List.length_pos_iff.2 hy
    -- a new block
    have grow : ∀ (olds : List Value), (∀ i (hi : i < xs.length), olds[i]? = some (.int k' xs[i])) → olds.length = xs.length →
        ∃ ι', Inv P w0 S N0 ((H.set id .dead).set nid (.ints k' (xs ++ ys))) (w.drew.alloc (.cells (olds.toArray ++ (ys.map (Value.int k')).toArray ++ Builtin.zeroCells z.cells (grownCap w (xs.length + ys.length) cap e - (xs.length + ys.length))) e)) N ι' ∧
          Fwd N ι H w N ι' ((H.set id .dead).set nid (.ints k' (xs ++ ys))) (w.drew.alloc (.cells (olds.toArray ++ (ys.map (Value.int k')).toArray ++ Builtin.zeroCells z.cells (grownCap w (xs.length + ys.length) cap e - (xs.length + ys.length))) e)) ∧
          RepA P (w.drew.alloc (.cells (olds.toArray ++ (ys.map (Value.int k')).toArray ++ Builtin.zeroCells z.cells (grownCap w (xs.length + ys.length) cap e - (xs.length + ys.length))) e)) N ((H.set id .dead).set nid (.ints k' (xs ++ ys))) ι'
            (.all nid 1) (.slice (some ⟨w.heap.size, 0, none⟩) (xs.length + ys.length) (grownCap w (xs.length + ys.length) cap e)) := by
      intro olds ho hol
      have hge := grownCap_ge w (xs.length + ys.length) cap e
      have hsize := grown_size (z := z) hz1 (n := xs.length + ys.length) rfl hge olds (ys.map (Value.int k')) (by simp [hol])
      obtain ⟨ι', g1, g2, g3⟩ := newInts_sound k1.drew hn' (k := k') (xs := xs ++ ys) (vs := olds.toArray ++ (ys.map (Value.int k')).toArray ++ Builtin.zeroCells z.cells (grownCap w (xs.length + ys.length) cap e - (xs.length + ys.length))) (by rw [hsize]; simpa using hge) (fun i hi => by
        have hi' : i < xs.length + ys.length := by simpa using hi
        rw [Array.getElem?_append_left (by simp [hol]; omega)]
        by_cases hlt : i < xs.length
        · rw [Array.getElem?_append_left (by simp [hol]; exact hlt)]
          simp only [List.getElem?_toArray, ho i hlt]
          rw [List.getElem_append_left hlt]
        · rw [Array.getElem?_append_right (by simp [hol]; omega)]
          simp only [List.size_toArray, hol, List.getElem?_toArray]
          rw [List.getElem_append_right (by omega), List.getElem?_map, List.getElem?_eq_getElem (by omega)]
          rfl) e
      rw [hsize] at g3
      simp only [List.length_append] at g3
      exact ⟨ι', g1, (k2.trans Fwd.drew).trans g2, g3⟩
    have holds : ∀ bb c', ι id = some (bb, c') → ∃ arr e', w.heap[bb]? = some (.cells arr e' (0, 0)) ∧ arr.size = c' ∧ xs.length ≤ c' ∧ ∀ i (hi : i < xs.length), arr[i]? = some (.int k' xs[i]) := by
      intro bb c' hbb
      rcases hrow with ⟨h7, _⟩ | ⟨b', c2, arr, e', h7, h8, h9, h10, h11⟩
      · rw [hbb] at h7; cases h7
      · rw [hbb] at h7; cases h7; exact ⟨arr, e', h8, h9, h10, h11⟩
    rcases hp with ⟨hx0, rfl⟩ | ⟨bb, c', q1, rfl, q3, q4⟩
    · have hxs : xs = [] := List.eq_nil_of_length_eq_zero hx0
      subst hxs
      obtain ⟨ι', g1, g2, g3⟩ := grow [] (by simp) rfl
      simp only [List.length_nil, Nat.zero_add] at g1 g2 g3 ⊢
      have key : (Builtin.append_ #[t, t] ty #[.slice base 0 0, .slice (some b) ys.length c]).run P w =
          .ok (.slice (some ⟨w.heap.size, 0, none⟩) ys.length (grownCap w ys.length 0 e)) (w.drew.alloc (.cells (([] : List Value).toArray ++ (ys.map (Value.int k')).toArray ++ Builtin.zeroCells z.cells (grownCap w ys.length 0 e - ys.length)) e)) := by
        cases base with
        | none =>
          have hr := run_append_nil (P := P) w t ty e info z hu h2 hzz b ys.length c (ys.map (Value.int k')) (by simp [hs1]) hcell hpos (by omega) (by simp at hb1; omega)
          simpa using hr
        | some ba =>
          have hr := run_append_grow (P := P) w t ty e info z hu h2 hzz ba 0 0 [] (by simp) (by simp) b ys.length c (ys.map (Value.int k')) (by simp [hs1]) hcell (by omega) (by omega) (growslice_fits (by omega) (by simpa using hb1))
          simpa using hr
      exact ⟨_, _, ι', key, g1, g2, g3⟩
    · obtain ⟨arr, e', h8, h9, h10, h11⟩ := holds bb c' q1
      by_cases hroom : xs.length + ys.length ≤ cap
      · have hr := run_append_room' (P := P) (w := w) t ty e e' info hu h2 bb xs.length cap arr h8 b ys.length c (ys.map (Value.int k')) (by simp [hs1]) hcell hone hroom (by simp [hs1]; omega)
        simp only [hs1, Nat.mul_one] at hr
        have hspl : (arr.toList.take xs.length ++ ys.map (Value.int k') ++ arr.toList.drop (xs.length + (ys.map (Value.int k')).length)) = spl arr.toList xs.length (ys.map (Value.int k')) := rfl
        rw [hspl] at hr
        obtain ⟨w1, w2, w3, w4⟩ := setRow_facts w bb (spl arr.toList xs.length (ys.map (Value.int k'))).toArray
        have hsl : (spl arr.toList xs.length (ys.map (Value.int k'))).length = arr.toList.length := spl_length _ _ _ (by simp; omega)
        obtain ⟨o1, o2⟩ := hI.own id _ bb c' hH rfl q1
        obtain ⟨p1, p2⟩ := k1.poke (w' := w.setRow bb (spl arr.toList xs.length (ys.map (Value.int k'))).toArray) (hnt bb c' q1) o1 o2 w1 w2 w3 w4 (fun q hq => setRow_other w bb q _ hq) ⟨arr, e', _, e', h8, setRow_heap w bb arr _ e' _ h8, by simpa using hsl⟩
        obtain ⟨ι1, m0, m1, m2, _⟩ := p1.adopt (c := c') (r := .ints k' (xs ++ ys)) hn' (hnt bb c' q1) o1 o2 (fun H' ι' hι hf => by
          refine .inr ⟨bb, c', _, e', hι, setRow_heap w bb arr _ e' _ h8, by simpa [hsl] using h9, by simp; omega, fun i hi => ?_⟩
          have hi' : i < xs.length + ys.length := by simpa using hi
          have e2 := spl_get arr.toList xs.length (ys.map (Value.int k')) (by simp; omega) i
          simp only [List.length_map] at e2
          simp only [List.getElem?_toArray, e2]
          by_cases hlt : i < xs.length
          · rw [if_neg (by omega)]
            rw [List.getElem_append_left hlt]
            simpa using h11 i hlt
          · rw [if_pos ⟨by omega, hi'⟩]
            rw [List.getElem_append_right (by omega), List.getElem?_map, List.getElem?_eq_getElem (by omega)]
            rfl)
        refine ⟨_, _, ι1, hr, m1, (k2.trans p2).trans m2, .all (by simp [Heap.set]) (.inr ⟨_, rfl⟩) hroom fun r hr' hl => ?_⟩
        simp [Heap.set] at hr'
        subst hr'
        exact ⟨by simp [Row.dim, Row.sz, Row.len], .inr ⟨bb, c', m0, by simp, by simpa using q3, hroom⟩⟩
      · have ho : ∀ (j : Nat) q, (xs.map (Value.int k'))[j]? = some q → w.cell? ((⟨bb, 0, none⟩ : Addr).add j) = some q := by
          intro j q hq
          simp only [List.getElem?_map, Option.map_eq_some_iff] at hq
          obtain ⟨n, hq, rfl⟩ := hq
          obtain ⟨hlt, rfl⟩ := List.getElem?_eq_some_iff.1 hq
          rw [Addr.add_lit, Nat.zero_add, cell_of_blk h8]
          exact h11 j hlt
        have hr := run_append_grow (P := P) w t ty e info z hu h2 hzz ⟨bb, 0, none⟩ xs.length cap (xs.map (Value.int k')) (by simp [hs1]) ho b ys.length c (ys.map (Value.int k')) (by simp [hs1]) hcell (by omega) (by omega) (growslice_fits (by omega) hb1)
        obtain ⟨ι', g1, g2, g3⟩ := grow (xs.map (Value.int k')) (fun i hi => by simp [hi]) (by simp)
        exact ⟨_, _, ι', hr, g1, g2, g3⟩

theorem appendA_sound {t ty : TypeId} {nid : Nat} {s x y : AV} {u v : Value} {H' : Heap} (hI : Inv P w0 S N0 H w N ι) (h : appendA P t s x nid H = some (y, H')) (hs : RepA P w N H ι s u) (hx : RepA P w N H ι x v) :
    ∃ z w' ι', (Builtin.append_ #[t, t] ty #[u, v]).run P w = .ok z w' ∧ Inv P w0 S N0 H' w' N ι' ∧ Fwd N ι H w N ι' H' w' ∧ RepA P w' N H' ι' y z := by
  unfold appendA at h
  simp only [Option.bind_eq_some_iff] at h
  obtain ⟨e, h1, info, h2, k, h3, z, h4, ys, h5, h6⟩ := h
  split at h6
  case isFalse => simp at h6
  rename_i hsz
  obtain ⟨hz1, hs1⟩ := hsz
  have hu := elemT_spec h1
  have hzz : info.zero = some z := by simpa [zeroT, h2] using h4
  obtain ⟨a, c, rfl, hyc, hya⟩ := intsOf_sound hI h5 hx
  have hone : ∀ q ∈ ys.map (Value.int k), q.oneCell' = true := by
    intro q hq
    obtain ⟨n, _, rfl⟩ := List.mem_map.1 hq
    rfl
  split at h6
  · rename_i hn
    split at h6
    case isFalse => simp at h6
    simp at h6
    obtain ⟨rfl, rfl⟩ := h6
    rename_i hb
    cases hs with
    | imm hs =>
    cases hs
    by_cases hy : ys = []
    · subst hy
      obtain ⟨ι', g1, g2, g3⟩ := bare_sound hI hn k none
      exact ⟨_, _, ι', run_append_none t ty e info hu h2 none a 0 0 c (Nat.le_refl _), g1, g2, g3⟩
    · obtain ⟨b, rfl, hcell⟩ := hya hy
      have hpos : 0 < ys.length := List.length_pos_iff.2 hy
      have hr := run_append_nil (P := P) w t ty e info z hu h2 hzz b ys.length c (ys.map (Value.int k)) (by simp [hs1]) hcell hpos (by omega) (by omega)
      have hge := grownCap_ge w ys.length 0 e
      have hsize : ((ys.map (Value.int k)).toArray ++ Builtin.zeroCells z.cells (grownCap w ys.length 0 e - ys.length)).size = grownCap w ys.length 0 e := by
        simp [size_zeroCells, hz1]
        omega
      obtain ⟨ι', g1, g2, g3⟩ := newInts_sound hI.drew hn (k := k) (xs := ys) (vs := (ys.map (Value.int k)).toArray ++ Builtin.zeroCells z.cells (grownCap w ys.length 0 e - ys.length)) (by rw [hsize]; exact hge) (fun i hi => by
        rw [Array.getElem?_append_left (by simpa using hi)]
        simp [hi]) e
      rw [hsize] at g3
      exact ⟨_, _, ι', hr, g1, Fwd.drew.trans g2, g3⟩
  · rename_i id s' hn
    split at h6
    case h_2 => simp at h6
    rename_i k' xs hH
    split at h6
    case isFalse => simp at h6
    simp at h6
    obtain ⟨rfl, rfl⟩ := h6
    rename_i hb
    obtain ⟨rfl, hb1, hb2⟩ := hb
    cases hs with
    | @all _ _ base len cap hid hsh hcp hp =>
    obtain ⟨hdim, hp⟩ := hp _ hH rfl
    obtain rfl : len = xs.length := (congrArg Prod.snd hdim).symm
    obtain rfl : s' = 1 := (congrArg Prod.fst hdim).symm
    exact append_core hI hu h2 hzz hz1 hs1 hn hH ⟨[], by simp⟩ hyc hya hone hb1 hb2 hsh hcp hp
  · rename_i id s' off len hn
    split at h6
    case h_2 => simp at h6
    rename_i k' zs hH
    split at h6
    case isFalse => simp at h6
    simp at h6
    obtain ⟨rfl, rfl⟩ := h6
    rename_i hb
    obtain ⟨rfl, rfl, rfl, hlz, hb1, hb2⟩ := hb
    cases hs with
    | @row _ _ _ _ base cap hid hsh hcp hp =>
    obtain ⟨_, hp⟩ := hp _ hH rfl
    have hl : (zs.take len).length = len := by simp; omega
    have := append_core (ty := ty) (xs := zs.take len) (base := base) (cap := cap) hI hu h2 hzz hz1 hs1 hn hH ⟨zs.drop len, by simp⟩ hyc hya hone (by rw [hl]; exact hb1) (by rw [hl]; exact hb2) (by rw [hl]; exact hsh) (by rw [hl]; exact hcp) (by rw [hl]; exact hp)
    rw [hl] at this
    exact this
  · simp at h6

/-- append of zeros to nothing: how make with a length behind append is run. -/
def appendZ (P : Program) (t u : TypeId) (s x : AV) (nid : Nat) (H : Heap) : Option (AV × Heap) :=
  (elemT P t).bind fun e => (P.info? e).bind fun info => (kindT P e).bind fun k => (zeroT P e).bind fun z => (kindT P u).bind fun _ =>
    match z, s, x with
    | .int k' 0, .imm .nils, .imm (.int _ n) => if k' = k ∧ info.size = 1 ∧ 0 ≤ n ∧ n.toNat * info.bytes ≤ 140737488355328 ∧ n.toNat ≤ 4611686018427387904 then match H nid with
        | none => some (.all nid 1, H.set nid (.ints k (List.replicate n.toNat 0)))
        | some _ => none
      else none
    | _, _, _ => none

theorem appendZ_sound {t u ty : TypeId} {nid : Nat} {s x y : AV} {us v : Value} {H' : Heap} (hI : Inv P w0 S N0 H w N ι) (h : appendZ P t u s x nid H = some (y, H')) (hs : RepA P w N H ι s us) (hx : RepA P w N H ι x v) :
    ∃ z w' ι', (Builtin.append_ #[t, u] ty #[us, v]).run P w = .ok z w' ∧ Inv P w0 S N0 H' w' N ι' ∧ Fwd N ι H w N ι' H' w' ∧ RepA P w' N H' ι' y z := by
  unfold appendZ at h
  simp only [Option.bind_eq_some_iff] at h
  obtain ⟨e, h1, info, h2, k, h3, z, h4, ku, h5, h6⟩ := h
  split at h6
  case h_2 => simp at h6
  rename_i k' k2 n
  split at h6
  case isFalse => simp at h6
  rename_i hc
  obtain ⟨rfl, hs1, hn0, hb1, hb2⟩ := hc
  split at h6 <;> simp at h6
  obtain ⟨rfl, rfl⟩ := h6
  rename_i hn
  have hu := elemT_spec h1
  have hku := kindT_spec h5
  have hzz : info.zero = some (.int k' 0) := by simpa [zeroT, h2] using h4
  cases hs with
  | imm hs =>
  cases hs
  cases hx with
  | imm hx =>
  cases hx
  have wl : IntKind.i64.wrap n = n := IntWalk.i64_in _ (by omega)
  have h48 : ¬ (2 ^ 48 < n * (info.bytes : Int)) := by
    have : n * (info.bytes : Int) = ((n.toNat * info.bytes : Nat) : Int) := by rw [Int.natCast_mul, Int.toNat_of_nonneg hn0]
    rw [this]
    have : (2 : Int) ^ 48 = 281474976710656 := by decide
    omega
  by_cases h0 : n = 0
  · subst h0
    obtain ⟨ι', g1, g2, g3⟩ := bare_sound hI hn k' none
    refine ⟨_, _, ι', ?_, g1, g2, g3⟩
    simp [Builtin.append_, run_under hu, run_under hku, sizeOf, typeInfo, h2, asInt, asIntOf, wl]
  · obtain ⟨m, rfl⟩ : ∃ m : Nat, n = m := ⟨n.toNat, by omega⟩
    simp only [Int.toNat_natCast] at hb1 hb2 ⊢
    have hpos : 0 < m := by omega
    have hm : m ≠ 0 := by omega
    have h63' : ¬ (9223372036854775807 < (m : Int)) := by omega
    have hnl : ¬ ((m : Int) < 0) := by omega
    have h48' : ¬ (281474976710656 < Builtin.nextslicecap m 0 * info.bytes) := by rw [nextslicecap_zero hpos]; omega
    have hge := grownCap_ge w m 0 e
    have hr : (Builtin.append_ #[t, u] ty #[.slice none 0 0, .int k2 (m : Int)]).run P w =
        .ok (.slice (some ⟨w.heap.size, 0, none⟩) m (grownCap w m 0 e)) (w.drew.alloc (.cells (Builtin.zeroCells (Value.int k' 0).cells m ++ Builtin.zeroCells (Value.int k' 0).cells (grownCap w m 0 e - m)) e)) := by
      have h48b : ¬ (281474976710656 < (m : Int) * (info.bytes : Int)) := by
        have : (2 : Int) ^ 48 = 281474976710656 := by decide
        omega
      simp [Builtin.append_, run_under hu, run_under hku, sizeOf, typeInfo, zeroValue, h2, hzz, hs1, asInt, asIntOf, wl, hnl, h48b, hm, h63', h48', Question.forced, run_firstCells_none, newRow, grownCap]
    have hsz : (Builtin.zeroCells (Value.int k' 0).cells m ++ Builtin.zeroCells (Value.int k' 0).cells (grownCap w m 0 e - m)).size = grownCap w m 0 e := by
      simp [size_zeroCells, Value.cells]
      omega
    obtain ⟨ι', g1, g2, g3⟩ := newInts_sound hI.drew hn (k := k') (xs := List.replicate m 0) (vs := Builtin.zeroCells (Value.int k' 0).cells m ++ Builtin.zeroCells (Value.int k' 0).cells (grownCap w m 0 e - m)) (by rw [hsz]; simpa using hge) (fun i hi => by
      have hi' : i < m := by simpa using hi
      rw [Array.getElem?_append_left (by simp [size_zeroCells, Value.cells]; exact hi')]
      simp [Builtin.zeroCells, Value.cells, hi', Nat.mod_one]) e
    rw [hsz] at g3
    simp only [List.length_replicate] at g3
    exact ⟨_, _, ι', hr, g1, Fwd.drew.trans g2, g3⟩


/-- append of zeros to nothing, of data. -/
def appendZD (P : Program) (t u : TypeId) (s x : AV) (nid : Nat) (H : Heap) : Option (AV × Heap) :=
  (elemT P t).bind fun e => (P.info? e).bind fun info => (zeroT P e).bind fun z => (zeroD P e).bind fun d => (kindT P u).bind fun _ =>
    match s, x with
    | .imm .nils, .imm (.int _ n) => if (d.cells.length = info.size ∧ d.cells.all D.one = true ∧ z.cells.size = info.size ∧ 0 < info.size) ∧ 0 ≤ n ∧ n.toNat * info.bytes ≤ 140737488355328 ∧ n.toNat ≤ 4611686018427387904 then match H nid with
        | none => some (.all nid info.size, H.set nid (.ds info.size (List.replicate n.toNat d)))
        | some _ => none
      else none
    | _, _ => none

def appendZZ (P : Program) (t u : TypeId) (s x : AV) (nid : Nat) (H : Heap) : Option (AV × Heap) :=
  match (elemT P t).bind (kindT P) with
  | some _ => appendZ P t u s x nid H
  | none => appendZD P t u s x nid H

theorem bareD0_sound (hI : Inv P w0 S N0 H w N ι) {nid : Nat} (hn : H nid = none) (n : Nat) (a : Option Addr) :
    ∃ ι', Inv P w0 S N0 (H.set nid (.ds n [])) w N ι' ∧ Fwd N ι H w N ι' (H.set nid (.ds n [])) w ∧ RepA P w N (H.set nid (.ds n [])) ι' (.all nid n) (.slice a 0 0) := by
  obtain ⟨ι', h1, h2, h3⟩ := hI.bare hn (.ds n []) (fun H' ι' h => ⟨fun x hx => by simp at hx, .inl ⟨h, rfl⟩⟩)
  refine ⟨ι', h2, h3, .all (by simp [Heap.set]) (.inl rfl) (Nat.le_refl _) fun r hr hl => ?_⟩
  simp [Heap.set] at hr
  subst hr
  exact ⟨rfl, .inl ⟨rfl, rfl⟩⟩

theorem appendZD_sound {t u ty : TypeId} {nid : Nat} {s x y : AV} {us v : Value} {H' : Heap} (hI : Inv P w0 S N0 H w N ι) (h : appendZD P t u s x nid H = some (y, H')) (hs : RepA P w N H ι s us) (hx : RepA P w N H ι x v) :
    ∃ z w' ι', (Builtin.append_ #[t, u] ty #[us, v]).run P w = .ok z w' ∧ Inv P w0 S N0 H' w' N ι' ∧ Fwd N ι H w N ι' H' w' ∧ RepA P w' N H' ι' y z := by
  unfold appendZD at h
  simp only [Option.bind_eq_some_iff] at h
  obtain ⟨e, h1, info, h2, z, h4, d, h3, ku, h5, h6⟩ := h
  split at h6
  case h_2 => simp at h6
  rename_i k2 n
  split at h6
  case isFalse => simp at h6
  rename_i hc
  obtain ⟨⟨hds, hdo, hzs, hpos0⟩, hn0, hb1, hb2⟩ := hc
  split at h6 <;> simp at h6
  obtain ⟨rfl, rfl⟩ := h6
  rename_i hn
  have hu := elemT_spec h1
  have hku := kindT_spec h5
  have hzz : info.zero = some z := by simpa [zeroT, h2] using h4
  obtain ⟨zl, zr⟩ := zeroD_rep (P := P) (w := w) (N := N) h4 h3
  cases hs with
  | imm hs =>
  cases hs
  cases hx with
  | imm hx =>
  cases hx
  have wl : IntKind.i64.wrap n = n := IntWalk.i64_in _ (by omega)
  by_cases h0 : n = 0
  · subst h0
    obtain ⟨ι', g1, g2, g3⟩ := bareD0_sound hI hn info.size none
    refine ⟨_, _, ι', ?_, g1, g2, g3⟩
    simp [Builtin.append_, run_under hu, run_under hku, sizeOf, typeInfo, h2, asInt, asIntOf, wl]
  · obtain ⟨m, rfl⟩ : ∃ m : Nat, n = m := ⟨n.toNat, by omega⟩
    simp only [Int.toNat_natCast] at hb1 hb2 ⊢
    have hpos : 0 < m := by omega
    have hm : m ≠ 0 := by omega
    have h63' : ¬ (9223372036854775807 < (m : Int)) := by omega
    have hnl : ¬ ((m : Int) < 0) := by omega
    have h48' : ¬ (281474976710656 < Builtin.nextslicecap m 0 * info.bytes) := by rw [nextslicecap_zero hpos]; omega
    have hge := grownCap_ge w m 0 e
    have hr : (Builtin.append_ #[t, u] ty #[.slice none 0 0, .int k2 (m : Int)]).run P w =
        .ok (.slice (some ⟨w.heap.size, 0, none⟩) m (grownCap w m 0 e)) (w.drew.alloc (.cells (Builtin.zeroCells z.cells m ++ Builtin.zeroCells z.cells (grownCap w m 0 e - m)) e)) := by
      have h48b : ¬ (281474976710656 < (m : Int) * (info.bytes : Int)) := by
        have : (m : Int) * (info.bytes : Int) = ((m * info.bytes : Nat) : Int) := by rw [Int.natCast_mul]
        rw [this]
        omega
      simp [Builtin.append_, run_under hu, run_under hku, sizeOf, typeInfo, zeroValue, h2, hzz, asInt, asIntOf, wl, hnl, h48b, hm, h63', h48', Question.forced, run_firstCells_none, newRow, grownCap]
      intro hz0
      exact absurd hz0 (Nat.mul_ne_zero hm (by omega))
    have hsz : (Builtin.zeroCells z.cells m ++ Builtin.zeroCells z.cells (grownCap w m 0 e - m)).size = grownCap w m 0 e * info.size := by
      rw [Array.size_append, size_zeroCells, size_zeroCells, hzs, ← Nat.add_mul]
      congr 1
      omega
    have hcl : ∀ x ∈ List.replicate m d, x.cells.length = info.size := fun x hx => by rw [(List.mem_replicate.1 hx).2]; exact hds
    have hfl := flat_length _ hcl
    rw [List.length_replicate] at hfl
    obtain ⟨ι', g1, g2, g3⟩ := newDsN_sound hI.drew hn (n := info.size) (cap := grownCap w m 0 e) (xs := List.replicate m d) (vs := Builtin.zeroCells z.cells m ++ Builtin.zeroCells z.cells (grownCap w m 0 e - m)) (by simpa using hge) (by rw [hsz]; exact Nat.le_refl _) hcl (fun i hi => by
      rw [hfl] at hi
      have ha : i / info.size < (List.replicate m d).length := by rw [List.length_replicate]; exact (Nat.div_lt_iff_lt_mul hpos0).2 hi
      have hb : i % info.size < info.size := Nat.mod_lt _ hpos0
      have eq : i / info.size * info.size + i % info.size = i := by rw [Nat.mul_comm]; exact Nat.div_add_mod i info.size
      have g1 := flat_get _ hcl (i / info.size) (i % info.size) ha hb
      rw [eq, List.getElem_replicate, List.getElem?_eq_getElem (show i < (D.flat (List.replicate m d)).length by rw [hfl]; exact hi), List.getElem?_eq_getElem (show i % info.size < d.cells.length by omega)] at g1
      refine ⟨z.cells.getD (i % info.size) Go.undef, ?_, ?_⟩
      · have h7 : i % info.size < z.cells.size := by omega
        rw [Array.getElem?_append_left (by rw [size_zeroCells, hzs]; exact hi)]
        unfold Builtin.zeroCells
        rw [Array.getElem?_map, Array.getElem?_range, hzs, if_pos hi]
        simp only [Option.map_some]
        rw [getElem!_pos z.cells _ h7, Array.getD_eq_getD_getElem?, Array.getElem?_eq_getElem h7]
        rfl
      · rw [Option.some.inj g1]
        exact (zr _ (by omega)).mono (fun _ h => h) fun _ _ _ => rfl) e
    simp only [List.length_replicate] at g3
    exact ⟨_, _, ι', hr, g1, Fwd.drew.trans g2, g3⟩

theorem appendZZ_sound {t u ty : TypeId} {nid : Nat} {s x y : AV} {us v : Value} {H' : Heap} (hI : Inv P w0 S N0 H w N ι) (h : appendZZ P t u s x nid H = some (y, H')) (hs : RepA P w N H ι s us) (hx : RepA P w N H ι x v) :
    ∃ z w' ι', (Builtin.append_ #[t, u] ty #[us, v]).run P w = .ok z w' ∧ Inv P w0 S N0 H' w' N ι' ∧ Fwd N ι H w N ι' H' w' ∧ RepA P w' N H' ι' y z := by
  unfold appendZZ at h
  split at h
  · exact appendZ_sound hI h hs hx
  · exact appendZD_sound hI h hs hx

theorem flat_app (xs ys : List D) : D.flat (xs ++ ys) = D.flat xs ++ D.flat ys := by simp [D.flat]

theorem bareD_sound (hI : Inv P w0 S N0 H w N ι) {nid : Nat} (hn : H nid = none) (n : Nat) (a : Option Addr) :
    ∃ ι', Inv P w0 S N0 (H.set nid (.ds n [])) w N ι' ∧ Fwd N ι H w N ι' (H.set nid (.ds n [])) w ∧ RepA P w N (H.set nid (.ds n [])) ι' (.all nid n) (.slice a 0 0) := by
  obtain ⟨ι', h1, h2, h3⟩ := hI.bare hn (.ds n []) (fun H' ι' h => ⟨fun x hx => by simp at hx, .inl ⟨h, rfl⟩⟩)
  refine ⟨ι', h2, h3, .all (by simp [Heap.set]) (.inl rfl) (Nat.le_refl _) fun r hr hl => ?_⟩
  simp [Heap.set] at hr
  subst hr
  exact ⟨rfl, .inl ⟨rfl, rfl⟩⟩

/-- append of data to a row of data: a new row, at the same place or at a new one. -/
theorem append_coreD {t ty e : TypeId} {info : TypeInfo} {z : Value} {nid id n : Nat} {zs xs ys : List D} {news : List Value} {base a : Option Addr} {cap c : Nat} (hI : Inv P w0 S N0 H w N ι)
    (hu : P.underlying t = some (.slice e)) (h2 : P.info? e = some info) (hzz : info.zero = some z) (hz1 : z.cells.size = n) (hs1 : info.size = n) (hn : H nid = none) (hH : H id = some (.ds n zs)) (hzx : ∃ rest, zs = xs ++ rest)
    (hyc : ys.length ≤ c) (hyn : ∀ y ∈ ys, y.cells.length = n) (hnl : news.length = ys.length * n) (hya : ys ≠ [] → ∃ b, a = some b ∧ ∀ (j : Nat) u, news[j]? = some u → w.cell? (b.add j) = some u) (hone : ∀ q ∈ news, q.oneCell' = true)
    (hrep : ∀ j (hj : j < (D.flat ys).length), ∃ u, news[j]? = some u ∧ RepD P w N (D.flat ys)[j] u)
    (hb1 : (xs.length + ys.length) * info.bytes ≤ 140737488355328) (hb2 : xs.length + ys.length ≤ 4611686018427387904) (hsh : xs.length = 0 ∨ ∃ x, base = some x) (hcp : xs.length ≤ cap) (hp : SlPos ι id n 0 xs.length base cap) :
    ∃ z w' ι', (Builtin.append_ #[t, t] ty #[.slice base xs.length cap, .slice a ys.length c]).run P w = .ok z w' ∧ Inv P w0 S N0 ((H.set id .dead).set nid (.ds n (xs ++ ys))) w' N ι' ∧ Fwd N ι H w N ι' ((H.set id .dead).set nid (.ds n (xs ++ ys))) w' ∧ RepA P w' N ((H.set id .dead).set nid (.ds n (xs ++ ys))) ι' (.all nid n) z := by
  have hxn : ∀ x ∈ xs, x.cells.length = n := by
    obtain ⟨rest, rfl⟩ := hzx
    exact fun x hx => (hI.rows id _ hH).1 x (List.mem_append_left _ hx)
  have hrow : (ι id = none ∧ xs = []) ∨ ∃ b c arr e, ι id = some (b, c) ∧ w.heap[b]? = some (.cells arr e (0, 0)) ∧ arr.size = c ∧ (D.flat xs).length ≤ c ∧
      ∃ f : Nat → Value, ∀ i (hi : i < (D.flat xs).length), arr[i]? = some (f i) ∧ RepD P w N (D.flat xs)[i] (f i) := by
    obtain ⟨rest, rfl⟩ := hzx
    have hfa : D.flat (xs ++ rest) = D.flat xs ++ D.flat rest := by simp [D.flat]
    rcases (hI.rows id _ hH).2 with ⟨h7, h8⟩ | ⟨b, c, arr, e, h7, h8, h9, h10, f, h11⟩
    · exact .inl ⟨h7, (List.append_eq_nil_iff.1 h8).1⟩
    · have hl : (D.flat (xs ++ rest)).length = (D.flat xs).length + (D.flat rest).length := by rw [hfa]; simp
      refine .inr ⟨b, c, arr, e, h7, h8, h9, by omega, f, fun i hi => ?_⟩
      have := h11 i (by omega)
      have e0 : (D.flat (xs ++ rest))[i]'(by omega) = (D.flat xs)[i] := by simp only [hfa]; exact List.getElem_append_left hi
      rw [e0] at this
      exact this
  have hfx := flat_length xs hxn
  have hfy := flat_length ys hyn
  have hxyn : ∀ x ∈ xs ++ ys, x.cells.length = n := fun x hx => by
    rcases List.mem_append.1 hx with h | h
    · exact hxn x h
    · exact hyn x h
  unfold SlPos at hp
  simp only [Nat.zero_add, Nat.zero_mul] at hp
  obtain ⟨k1, k2⟩ := hI.kill hH (N' := N) (fun _ h => h) (fun _ h => .inl h)
  have hne : nid ≠ id := by rintro rfl; rw [hH] at hn; cases hn
  have hn' : (H.set id .dead) nid = none := by simp [Heap.set, hne, hn]
  have hnt : ∀ b c, ι id = some (b, c) → ¬ Taken (H.set id .dead) ι b := by
    rintro b c hb ⟨x, r, c', hx, hl, hι⟩
    have hxi : x ≠ id := by rintro rfl; simp [Heap.set] at hx; subst hx; simp [Row.live] at hl
    exact hxi (hI.inj x id r _ b c' c (by simpa [Heap.set, hxi] using hx) hH hl rfl hι hb)
  by_cases hy : ys = []
  · subst hy
    rcases hp with ⟨hx0, hc0⟩ | ⟨b, c', q1, q2, q3, q4⟩
    · have hxs : xs = [] := List.eq_nil_of_length_eq_zero hx0
      subst hxs
      subst hc0
      obtain ⟨ι', g1, g2, g3⟩ := bareD_sound k1 hn' n base
      exact ⟨_, _, ι', run_append_none t ty e info hu h2 base a 0 0 c (Nat.le_refl _), by simpa using g1, k2.trans (by simpa using g2), by simpa using g3⟩
    · obtain ⟨o1, o2⟩ := hI.own id _ b c' hH rfl q1
      rcases hrow with ⟨h7, _⟩ | ⟨b', c2, arr, e', h7, h8, h9, h10, f, h11⟩
      · rw [q1] at h7; cases h7
      · rw [q1] at h7
        cases h7
        obtain ⟨ι', g0, g1, g2, _⟩ := k1.adopt (c := c') (r := .ds n xs) hn' (hnt b c' q1) o1 o2 (fun H' ι' hι hf => ⟨hxn, .inr ⟨b, c', arr, e', hι, h8, h9, h10, f, fun i hi => ⟨(h11 i hi).1, (h11 i hi).2.fwd (k2.trans hf)⟩⟩⟩)
        refine ⟨_, _, ι', run_append_none t ty e info hu h2 base a xs.length cap c hcp, by simpa using g1, k2.trans (by simpa using g2), ?_⟩
        simp only [List.append_nil]
        refine .all (by simp [Heap.set]) hsh hcp fun r hr hl => ?_
        simp [Heap.set] at hr
        subst hr
        exact ⟨rfl, .inr ⟨b, c', g0, by simpa using q2, by simpa using q3, q4⟩⟩
  · obtain ⟨b, rfl, hcell⟩ := hya hy
    have hpos : 0 < ys.length := List.length_pos_iff.2 hy
    -- a new block
    have grow : ∀ (olds : List Value), (∀ i (hi : i < (D.flat xs).length), ∃ u, olds[i]? = some u ∧ RepD P w N (D.flat xs)[i] u) → olds.length = xs.length * n →
        ∃ ι', Inv P w0 S N0 ((H.set id .dead).set nid (.ds n (xs ++ ys))) (w.drew.alloc (.cells (olds.toArray ++ news.toArray ++ Builtin.zeroCells z.cells (grownCap w (xs.length + ys.length) cap e - (xs.length + ys.length))) e)) N ι' ∧
          Fwd N ι H w N ι' ((H.set id .dead).set nid (.ds n (xs ++ ys))) (w.drew.alloc (.cells (olds.toArray ++ news.toArray ++ Builtin.zeroCells z.cells (grownCap w (xs.length + ys.length) cap e - (xs.length + ys.length))) e)) ∧
          RepA P (w.drew.alloc (.cells (olds.toArray ++ news.toArray ++ Builtin.zeroCells z.cells (grownCap w (xs.length + ys.length) cap e - (xs.length + ys.length))) e)) N ((H.set id .dead).set nid (.ds n (xs ++ ys))) ι'
            (.all nid n) (.slice (some ⟨w.heap.size, 0, none⟩) (xs.length + ys.length) (grownCap w (xs.length + ys.length) cap e)) := by
      intro olds ho hol
      have hge := grownCap_ge w (xs.length + ys.length) cap e
      have hsize : (olds.toArray ++ news.toArray ++ Builtin.zeroCells z.cells (grownCap w (xs.length + ys.length) cap e - (xs.length + ys.length))).size = grownCap w (xs.length + ys.length) cap e * n := by
        simp only [Array.size_append, List.size_toArray, size_zeroCells, hz1, hol, hnl]
        rw [← Nat.add_mul, ← Nat.add_mul]
        congr 1
        omega
      obtain ⟨ι', g1, g2, g3⟩ := newDsN_sound k1.drew hn' (n := n) (cap := grownCap w (xs.length + ys.length) cap e) (xs := xs ++ ys) (vs := olds.toArray ++ news.toArray ++ Builtin.zeroCells z.cells (grownCap w (xs.length + ys.length) cap e - (xs.length + ys.length))) (by simpa using hge) (by rw [hsize]; exact Nat.le_refl _) hxyn (fun i hi => by
        have hi' : i < (D.flat xs).length + (D.flat ys).length := by rw [flat_app] at hi; simpa using hi
        rw [Array.getElem?_append_left (by simp [hol, hnl]; omega)]
        by_cases hlt : i < (D.flat xs).length
        · obtain ⟨u, u1, u2⟩ := ho i hlt
          refine ⟨u, ?_, ?_⟩
          · rw [Array.getElem?_append_left (by simp [hol]; omega)]
            simpa using u1
          · have e0 : (D.flat (xs ++ ys))[i] = (D.flat xs)[i] := by simp only [flat_app]; exact List.getElem_append_left hlt
            rw [e0]
            exact u2.mono (fun _ h => h) fun _ _ _ => rfl
        · obtain ⟨u, u1, u2⟩ := hrep (i - (D.flat xs).length) (by omega)
          refine ⟨u, ?_, ?_⟩
          · rw [Array.getElem?_append_right (by simp [hol]; omega)]
            simp only [List.size_toArray, hol, List.getElem?_toArray]
            rw [← hfx]
            exact u1
          · have e0 : (D.flat (xs ++ ys))[i] = (D.flat ys)[i - (D.flat xs).length]'(by omega) := by simp only [flat_app]; exact List.getElem_append_right (by omega)
            rw [e0]
            exact u2.mono (fun _ h => h) fun _ _ _ => rfl) e
      simp only [List.length_append] at g3
      exact ⟨ι', g1, (k2.trans Fwd.drew).trans g2, g3⟩
    have holds : ∀ bb c', ι id = some (bb, c') → ∃ (arr : Array Value) (e' : TypeId) (f : Nat → Value), w.heap[bb]? = some (.cells arr e' (0, 0)) ∧ arr.size = c' ∧ (D.flat xs).length ≤ c' ∧ ∀ i (hi : i < (D.flat xs).length), arr[i]? = some (f i) ∧ RepD P w N (D.flat xs)[i] (f i) := by
      intro bb c' hbb
      rcases hrow with ⟨h7, _⟩ | ⟨b', c2, arr, e', h7, h8, h9, h10, f, h11⟩
      · rw [hbb] at h7; cases h7
      · rw [hbb] at h7; cases h7; exact ⟨arr, e', f, h8, h9, h10, h11⟩
    have hns : news.length = ys.length * info.size := by rw [hs1]; exact hnl
    rcases hp with ⟨hx0, rfl⟩ | ⟨bb, c', q1, rfl, q3, q4⟩
    · have hxs : xs = [] := List.eq_nil_of_length_eq_zero hx0
      subst hxs
      obtain ⟨ι', g1, g2, g3⟩ := grow [] (by simp [D.flat]) (by simp)
      simp only [List.length_nil, Nat.zero_add] at g1 g2 g3 ⊢
      have key : (Builtin.append_ #[t, t] ty #[.slice base 0 0, .slice (some b) ys.length c]).run P w =
          .ok (.slice (some ⟨w.heap.size, 0, none⟩) ys.length (grownCap w ys.length 0 e)) (w.drew.alloc (.cells (([] : List Value).toArray ++ news.toArray ++ Builtin.zeroCells z.cells (grownCap w ys.length 0 e - ys.length)) e)) := by
        cases base with
        | none =>
          have hr := run_append_nil (P := P) w t ty e info z hu h2 hzz b ys.length c news hns hcell hpos (by omega) (by simp at hb1; omega)
          simpa using hr
        | some ba =>
          have hr := run_append_grow (P := P) w t ty e info z hu h2 hzz ba 0 0 [] (by simp) (by simp) b ys.length c news hns hcell (by omega) (by omega) (growslice_fits (by omega) (by simpa using hb1))
          simpa using hr
      exact ⟨_, _, ι', key, g1, g2, g3⟩
    · obtain ⟨arr, e', f, h8, h9, h10, h11⟩ := holds bb c' q1
      by_cases hroom : xs.length + ys.length ≤ cap
      · have hfit : xs.length * n + news.length ≤ arr.size := by
          rw [hnl, ← Nat.add_mul, h9]
          exact Nat.le_trans (Nat.mul_le_mul_right n hroom) (by simpa using q3)
        have hr := run_append_room' (P := P) (w := w) t ty e e' info hu h2 bb xs.length cap arr h8 b ys.length c news hns hcell hone hroom (by rw [hs1]; exact hfit)
        rw [hs1] at hr
        have hspl : (arr.toList.take (xs.length * n) ++ news ++ arr.toList.drop (xs.length * n + news.length)) = spl arr.toList (xs.length * n) news := rfl
        rw [hspl] at hr
        obtain ⟨w1, w2, w3, w4⟩ := setRow_facts w bb (spl arr.toList (xs.length * n) news).toArray
        have hsl : (spl arr.toList (xs.length * n) news).length = arr.toList.length := spl_length _ _ _ (by simpa using hfit)
        obtain ⟨o1, o2⟩ := hI.own id _ bb c' hH rfl q1
        obtain ⟨p1, p2⟩ := k1.poke (w' := w.setRow bb (spl arr.toList (xs.length * n) news).toArray) (hnt bb c' q1) o1 o2 w1 w2 w3 w4 (fun q hq => setRow_other w bb q _ hq) ⟨arr, e', _, e', h8, setRow_heap w bb arr _ e' _ h8, by simpa using hsl⟩
        obtain ⟨ι1, m0, m1, m2, _⟩ := p1.adopt (c := c') (r := .ds n (xs ++ ys)) hn' (hnt bb c' q1) o1 o2 (fun H' ι' hι hf => by
          refine ⟨hxyn, .inr ⟨bb, c', (spl arr.toList (xs.length * n) news).toArray, e', hι, setRow_heap w bb arr _ e' _ h8, by simpa [hsl] using h9, by rw [flat_app, List.length_append, hfx, hfy]; omega, fun i => (spl arr.toList (xs.length * n) news).getD i Go.undef, fun i hi => ?_⟩⟩
          have hi' : i < (D.flat xs).length + (D.flat ys).length := by rw [flat_app] at hi; simpa using hi
          have e2 := spl_get arr.toList (xs.length * n) news (by simpa using hfit) i
          have hF : Fwd N ι H w N ι' H' (w.setRow bb (spl arr.toList (xs.length * n) news).toArray) := (k2.trans p2).trans hf
          have fin : ∀ u, (spl arr.toList (xs.length * n) news)[i]? = some u → RepD P w N (D.flat (xs ++ ys))[i] u →
              (spl arr.toList (xs.length * n) news).toArray[i]? = some ((spl arr.toList (xs.length * n) news).getD i Go.undef) ∧ RepD P (w.setRow bb (spl arr.toList (xs.length * n) news).toArray) N (D.flat (xs ++ ys))[i] ((spl arr.toList (xs.length * n) news).getD i Go.undef) := by
            intro u h1 h2
            have e4 : (spl arr.toList (xs.length * n) news).getD i Go.undef = u := by simp [List.getD_eq_getElem?_getD, h1]
            rw [e4]
            exact ⟨by simpa using h1, h2.fwd hF⟩
          by_cases hlt : i < (D.flat xs).length
          · rw [if_neg (by omega)] at e2
            have e0 : (D.flat (xs ++ ys))[i] = (D.flat xs)[i] := by simp only [flat_app]; exact List.getElem_append_left hlt
            refine fin (f i) (by rw [e2]; simpa using (h11 i hlt).1) ?_
            rw [e0]
            exact (h11 i hlt).2
          · rw [if_pos ⟨by omega, by omega⟩] at e2
            obtain ⟨u, u1, u2⟩ := hrep (i - (D.flat xs).length) (by omega)
            have e0 : (D.flat (xs ++ ys))[i] = (D.flat ys)[i - (D.flat xs).length]'(by omega) := by simp only [flat_app]; exact List.getElem_append_right (by omega)
            refine fin u (by rw [e2, ← hfx]; exact u1) ?_
            rw [e0]
            exact u2)
        refine ⟨_, _, ι1, hr, m1, (k2.trans p2).trans m2, .all (by simp [Heap.set]) (.inr ⟨_, rfl⟩) hroom fun r hr' hl => ?_⟩
        simp [Heap.set] at hr'
        subst hr'
        exact ⟨by simp [Row.dim, Row.sz, Row.len], .inr ⟨bb, c', m0, by simp, by simpa using q3, hroom⟩⟩
      · have ho : ∀ (j : Nat) q, ((arr.toList.take (xs.length * n)))[j]? = some q → w.cell? ((⟨bb, 0, none⟩ : Addr).add j) = some q := by
          intro j q hq
          rw [List.getElem?_take] at hq
          split at hq
          case isFalse => simp at hq
          rw [Addr.add_lit, Nat.zero_add, cell_of_blk h8]
          simpa using hq
        have hol : (arr.toList.take (xs.length * n)).length = xs.length * n := by simp; omega
        have hr := run_append_grow (P := P) w t ty e info z hu h2 hzz ⟨bb, 0, none⟩ xs.length cap (arr.toList.take (xs.length * n)) (by rw [hol, hs1]) ho b ys.length c news hns hcell (by omega) (by omega) (growslice_fits (by omega) hb1)
        obtain ⟨ι', g1, g2, g3⟩ := grow (arr.toList.take (xs.length * n)) (fun i hi => ⟨f i, by
          rw [List.getElem?_take, if_pos (by omega)]
          simpa using (h11 i hi).1, (h11 i hi).2⟩) hol
        exact ⟨_, _, ι', hr, g1, g2, g3⟩

/-- Where the data of a slice lie. -/
theorem dsOf_sound {n : Nat} {x : AV} {v : Value} {ys : List D} (hI : Inv P w0 S N0 H w N ι) (h : dsOf n H x = some ys) (hyn : ∀ y ∈ ys, y.cells.length = n) (hx : RepA P w N H ι x v) :
    ∃ a c, ∃ news : List Value, v = .slice a ys.length c ∧ ys.length ≤ c ∧ news.length = ys.length * n ∧ (ys ≠ [] → ∃ b, a = some b ∧ ∀ (j : Nat) u, news[j]? = some u → w.cell? (b.add j) = some u) ∧
      ∀ j (hj : j < (D.flat ys).length), ∃ u, news[j]? = some u ∧ RepD P w N (D.flat ys)[j] u := by
  have hfl := flat_length ys hyn
  have fin : ∀ (b : Addr) (c : Nat) (g : Nat → Value), v = .slice (some b) ys.length c → ys.length ≤ c → (∀ j (hj : j < (D.flat ys).length), w.cell? (b.add j) = some (g j) ∧ RepD P w N (D.flat ys)[j] (g j)) →
      ∃ a c, ∃ news : List Value, v = .slice a ys.length c ∧ ys.length ≤ c ∧ news.length = ys.length * n ∧ (ys ≠ [] → ∃ b, a = some b ∧ ∀ (j : Nat) u, news[j]? = some u → w.cell? (b.add j) = some u) ∧
        ∀ j (hj : j < (D.flat ys).length), ∃ u, news[j]? = some u ∧ RepD P w N (D.flat ys)[j] u := by
    intro b c g hv hc hg
    refine ⟨some b, c, (List.range (ys.length * n)).map g, hv, hc, by simp, fun _ => ⟨b, rfl, fun j u hu => ?_⟩, fun j hj => ⟨g j, ?_, (hg j hj).2⟩⟩
    · simp only [List.getElem?_map, Option.map_eq_some_iff] at hu
      obtain ⟨m, hm, rfl⟩ := hu
      obtain ⟨hlt, rfl⟩ := List.getElem?_eq_some_iff.1 hm
      simp only [List.length_range] at hlt
      simp only [List.getElem_range]
      exact (hg j (by omega)).1
    · rw [List.getElem?_map, List.getElem?_range (by omega)]
      rfl
  have none' : ys = [] → ∀ (a : Option Addr) c, v = .slice a 0 c → ∃ a c, ∃ news : List Value, v = .slice a ys.length c ∧ ys.length ≤ c ∧ news.length = ys.length * n ∧ (ys ≠ [] → ∃ b, a = some b ∧ ∀ (j : Nat) u, news[j]? = some u → w.cell? (b.add j) = some u) ∧
        ∀ j (hj : j < (D.flat ys).length), ∃ u, news[j]? = some u ∧ RepD P w N (D.flat ys)[j] u := by
    rintro rfl a c rfl
    exact ⟨a, c, [], rfl, Nat.zero_le _, by simp, fun h => absurd rfl h, fun j hj => by simp [D.flat] at hj⟩
  unfold dsOf at h
  split at h
  · simp at h
    subst h
    cases hx with
    | imm hx =>
    cases hx
    exact none' rfl _ _ rfl
  · split at h <;> simp at h
    subst h
    rename_i hs
    subst hs
    cases hx with
    | imm hx =>
    cases hx with
    | seq0 => exact none' rfl _ _ rfl
    | seq _ _ b off cap f hN hc hs hcell hr =>
      exact fin _ _ f rfl hc fun j hj => ⟨by rw [Addr.add_lit]; exact hcell j hj, hr j hj⟩
  · rename_i id s off len
    split at h
    case h_2 => simp at h
    rename_i n' xs hH
    split at h <;> simp at h
    subst h
    rename_i hc
    obtain ⟨rfl, hle⟩ := hc
    have hl : ((xs.drop off).take len).length = len := by simp; omega
    obtain ⟨hxn, hrow⟩ := hI.rows id _ hH
    cases hx with
    | @row _ _ _ _ a cap hid hs hcp hp =>
      obtain ⟨hsz, hp⟩ := hp _ hH rfl
      simp only [Row.sz] at hsz
      subst hsz
      rcases hp with ⟨h0, _⟩ | ⟨b, c, h1, rfl, h3, h4⟩
      · exact none' (List.eq_nil_of_length_eq_zero (by rw [hl]; exact h0)) _ _ (by rw [h0])
      · rcases hrow with ⟨h5, _⟩ | ⟨b', c', arr, e, h5, h6, h7, h8, f, h9⟩
        · rw [h1] at h5; cases h5
        · rw [h1] at h5
          cases h5
          have hd : ∀ y ∈ xs.drop off, y.cells.length = n' := fun y hy => hxn y (List.mem_of_mem_drop hy)
          have ef : D.flat ((xs.drop off).take len) = ((D.flat xs).drop (off * n')).take (len * n') := by rw [flat_take' _ hd, flat_drop _ _ hxn]
          refine fin _ cap (fun j => f (off * n' + j)) (by rw [hl]) (by rw [hl]; exact hcp) fun j hj => ?_
          have hj' : j < ((D.flat xs).drop (off * n')).length ∧ j < len * n' := by
            rw [ef] at hj
            simp only [List.length_take, List.length_drop] at hj ⊢
            omega
          have hj2 : off * n' + j < (D.flat xs).length := by
            have := hj'.1
            simp only [List.length_drop] at this
            omega
          have e0 : (D.flat ((xs.drop off).take len))[j] = (D.flat xs)[off * n' + j] := by
            simp only [ef, List.getElem_take, List.getElem_drop]
          rw [e0, Addr.add_lit, cell_of_blk h6]
          exact h9 _ hj2
  · rename_i id s
    split at h
    case h_2 => simp at h
    rename_i n' xs hH
    split at h <;> simp at h
    subst h
    rename_i hk
    subst hk
    obtain ⟨hxn, hrow⟩ := hI.rows id _ hH
    cases hx with
    | @all _ _ a len cap hid hs hcp hp =>
      obtain ⟨hdim, hp⟩ := hp _ hH rfl
      obtain rfl : len = xs.length := (congrArg Prod.snd hdim).symm
      obtain rfl : s = n' := (congrArg Prod.fst hdim).symm
      rcases hp with ⟨h0, _⟩ | ⟨b, c, h1, rfl, h3, h4⟩
      · exact none' (List.eq_nil_of_length_eq_zero h0) _ _ (by rw [h0])
      · rcases hrow with ⟨h5, _⟩ | ⟨b', c', arr, e, h5, h6, h7, h8, f, h9⟩
        · rw [h1] at h5; cases h5
        · rw [h1] at h5
          cases h5
          refine fin _ cap f rfl hcp fun j hj => ?_
          rw [Addr.add_lit, Nat.zero_mul, Nat.zero_add, cell_of_blk h6]
          exact h9 _ hj
  · simp at h

theorem appendDsA_sound {t ty : TypeId} {nid : Nat} {s x y : AV} {u v : Value} {H' : Heap} (hI : Inv P w0 S N0 H w N ι) (h : appendDsA P t s x nid H = some (y, H')) (hs : RepA P w N H ι s u) (hx : RepA P w N H ι x v) :
    ∃ z w' ι', (Builtin.append_ #[t, t] ty #[u, v]).run P w = .ok z w' ∧ Inv P w0 S N0 H' w' N ι' ∧ Fwd N ι H w N ι' H' w' ∧ RepA P w' N H' ι' y z := by
  unfold appendDsA at h
  simp only [Option.bind_eq_some_iff] at h
  obtain ⟨e, h1, info, h2, z, h4, ys, h5, h6⟩ := h
  split at h6
  case isFalse => simp at h6
  rename_i hsz
  obtain ⟨hz1, hone⟩ := hsz
  simp only [okDs, Bool.and_eq_true, List.all_eq_true, beq_iff_eq] at hone
  obtain ⟨hone, hyn⟩ := hone
  have hu := elemT_spec h1
  have hzz : info.zero = some z := by simpa [zeroT, h2] using h4
  obtain ⟨a, c, news, rfl, hyc, hnl, hya, hrep⟩ := dsOf_sound hI h5 hyn hx
  have hfl := flat_length ys hyn
  have hone' : ∀ q ∈ news, q.oneCell' = true := by
    intro q hq
    obtain ⟨j, hj, rfl⟩ := List.mem_iff_getElem.1 hq
    obtain ⟨u, u1, u2⟩ := hrep j (by omega)
    rw [List.getElem?_eq_getElem hj] at u1
    cases u1
    exact u2.one (hone _ (List.getElem_mem _))
  split at h6
  · rename_i hn
    split at h6
    case isFalse => simp at h6
    simp at h6
    obtain ⟨rfl, rfl⟩ := h6
    rename_i hb
    cases hs with
    | imm hs =>
    cases hs
    by_cases hy : ys = []
    · subst hy
      obtain ⟨ι', g1, g2, g3⟩ := bareD_sound hI hn info.size none
      exact ⟨_, _, ι', run_append_none t ty e info hu h2 none a 0 0 c (Nat.le_refl _), g1, g2, g3⟩
    · obtain ⟨b, rfl, hcell⟩ := hya hy
      have hpos : 0 < ys.length := List.length_pos_iff.2 hy
      have hr := run_append_nil (P := P) w t ty e info z hu h2 hzz b ys.length c news hnl hcell hpos (by omega) (by omega)
      have hge := grownCap_ge w ys.length 0 e
      have hsize : (news.toArray ++ Builtin.zeroCells z.cells (grownCap w ys.length 0 e - ys.length)).size = grownCap w ys.length 0 e * info.size := by
        simp only [Array.size_append, List.size_toArray, size_zeroCells, hz1, hnl]
        rw [← Nat.add_mul]
        congr 1
        omega
      obtain ⟨ι', g1, g2, g3⟩ := newDsN_sound hI.drew hn (n := info.size) (cap := grownCap w ys.length 0 e) (xs := ys) (vs := news.toArray ++ Builtin.zeroCells z.cells (grownCap w ys.length 0 e - ys.length)) hge (by rw [hsize]; exact Nat.le_refl _) hyn (fun i hi => by
        obtain ⟨u, u1, u2⟩ := hrep i hi
        refine ⟨u, ?_, u2.mono (fun _ h => h) fun _ _ _ => rfl⟩
        rw [Array.getElem?_append_left (by simp; omega)]
        simpa using u1) e
      exact ⟨_, _, ι', hr, g1, Fwd.drew.trans g2, g3⟩
  · rename_i id s' hn
    split at h6
    case h_2 => simp at h6
    rename_i n' xs hH
    split at h6
    case isFalse => simp at h6
    simp at h6
    obtain ⟨rfl, rfl⟩ := h6
    rename_i hb
    obtain ⟨rfl, hb1, hb2⟩ := hb
    cases hs with
    | @all _ _ base len cap hid hsh hcp hp =>
    obtain ⟨hdim, hp⟩ := hp _ hH rfl
    obtain rfl : len = xs.length := (congrArg Prod.snd hdim).symm
    obtain rfl : s' = info.size := (congrArg Prod.fst hdim).symm
    exact append_coreD hI hu h2 hzz hz1 rfl hn hH ⟨[], by simp⟩ hyc hyn hnl hya hone' hrep hb1 hb2 hsh hcp hp
  · rename_i id s' off len hn
    split at h6
    case h_2 => simp at h6
    rename_i n' zs hH
    split at h6
    case isFalse => simp at h6
    simp at h6
    obtain ⟨rfl, rfl⟩ := h6
    rename_i hb
    obtain ⟨rfl, rfl, rfl, hlz, hb1, hb2⟩ := hb
    cases hs with
    | @row _ _ _ _ base cap hid hsh hcp hp =>
    obtain ⟨_, hp⟩ := hp _ hH rfl
    have hl : (zs.take len).length = len := by simp; omega
    have := append_coreD (ty := ty) (xs := zs.take len) (base := base) (cap := cap) hI hu h2 hzz hz1 rfl hn hH ⟨zs.drop len, by simp⟩ hyc hyn hnl hya hone' hrep (by rw [hl]; exact hb1) (by rw [hl]; exact hb2) (by rw [hl]; exact hsh) (by rw [hl]; exact hcp) (by rw [hl]; exact hp)
    rw [hl] at this
    exact this
  · simp at h6

theorem appendSA_sound {t ty : TypeId} {nid : Nat} {s x y : AV} {u v : Value} {H' : Heap} (hI : Inv P w0 S N0 H w N ι) (h : appendSA P t s x nid H = some (y, H')) (hs : RepA P w N H ι s u) (hx : RepA P w N H ι x v) :
    ∃ z w' ι', (Builtin.append_ #[t, t] ty #[u, v]).run P w = .ok z w' ∧ Inv P w0 S N0 H' w' N ι' ∧ Fwd N ι H w N ι' H' w' ∧ RepA P w' N H' ι' y z := by
  unfold appendSA at h
  split at h
  · exact appendA_sound hI h hs hx
  · exact appendDsA_sound hI h hs hx

/-- An empty row for a slice type: of integers, or of data. -/
def bareRow (P : Program) (ty : TypeId) : Option Row :=
  (elemT P ty).bind fun e => match kindT P e with
    | some k => some (.ints k [])
    | none => (sizeT P e).map fun n => .ds n []

theorem bareRow_sound {ty : TypeId} {r : Row} (hI : Inv P w0 S N0 H w N ι) {nid : Nat} (hn : H nid = none) (h : bareRow P ty = some r) (a : Option Addr) :
    ∃ ι', Inv P w0 S N0 (H.set nid r) w N ι' ∧ Fwd N ι H w N ι' (H.set nid r) w ∧ RepA P w N (H.set nid r) ι' (.all nid r.sz) (.slice a 0 0) := by
  unfold bareRow at h
  simp only [Option.bind_eq_some_iff] at h
  obtain ⟨e, _, h⟩ := h
  split at h
  · simp at h
    subst h
    exact bare_sound hI hn _ a
  · simp only [Option.map_eq_some_iff] at h
    obtain ⟨n, _, rfl⟩ := h
    exact bareD_sound hI hn _ a

end
end Go.Ab
