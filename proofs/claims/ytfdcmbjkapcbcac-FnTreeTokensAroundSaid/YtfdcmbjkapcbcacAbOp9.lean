/-
  AN ABSTRACT LAYER, 10b: copy of integers; the smaller and the greater number.
-/
import Derived.Test.YtfdcmbjkapcbcacAbOp8
import Derived.Laws.IdiomCopy
namespace Go.Ab
variable {P : Program}

/-- What a row holds behind a copy into its part. -/
def copyL (xs : List Int) (off len : Nat) (ys : List Int) : List Int := spl xs off (ys.take (min ys.length len))

/-- copy, of integers, into a row. -/
def copyA (P : Program) (t : TypeId) (x y : AV) (H : Heap) : Option (AV × Heap) :=
  (elemT P t).bind fun e => (sizeT P e).bind fun n => (kindT P e).bind fun k => (intsOf k H y).bind fun ys =>
    if n = 1 then
      match x with
      | .all id _ => match H id with
        | some (.ints k' xs) => if k' = k then some (.imm (.int .i64 ((min ys.length xs.length : Nat) : Int)), H.set id (.ints k (copyL xs 0 xs.length ys))) else none
        | _ => none
      | .row id _ off len => match H id with
        | some (.ints k' xs) => if k' = k ∧ off + len ≤ xs.length then some (.imm (.int .i64 ((min ys.length len : Nat) : Int)), H.set id (.ints k (copyL xs off len ys))) else none
        | _ => none
      | _ => none
    else none

def maxI (x y : Int) : Int := if y > x then y else x
def minI (x y : Int) : Int := if y < x then y else x

def mm2 (b : Bool) : AV → AV → Option AV
  | .imm (.int k x), .imm (.int _ y) => match b with
    | true => some (.imm (.int k (maxI x y)))
    | false => some (.imm (.int k (minI x y)))
  | _, _ => none

def mmL (b : Bool) : AV → List AV → Option AV
  | x, [] => some x
  | x, y :: ys => (mm2 b x y).bind fun z => mmL b z ys

/-- max, min. -/
def mmA (b : Bool) : List AV → Option AV
  | [] => none
  | x :: xs => mmL b x xs

section
variable {P : Program} {w : World} {N : Nat → Prop} {H : Heap} {ι : Place} {w0 : World} {S N0 : Nat → Prop}

theorem mm2_sound {b : Bool} {x y z : AV} {u v : Value} (h : mm2 b x y = some z) (hx : RepA P w N H ι x u) (hy : RepA P w N H ι y v) :
    ∃ q, (if b then Builtin.max2 u v else Builtin.min2 u v).run P w = .ok q w ∧ RepA P w N H ι z q := by
  unfold mm2 at h
  split at h
  · cases hx with
    | imm hx =>
    cases hy with
    | imm hy =>
    cases hx
    cases hy
    split at h <;> simp at h <;> subst h
    · exact ⟨_, rfl, by unfold maxI; exact .imm (.int _ _)⟩
    · exact ⟨_, rfl, by unfold minI; exact .imm (.int _ _)⟩
  · simp at h

theorem mmL_sound {b : Bool} : ∀ (xs : List AV) (us : List Value) (x z : AV) (u : Value), xs.length = us.length → (∀ i (hi : i < xs.length) (hu : i < us.length), RepA P w N H ι xs[i] us[i]) → mmL b x xs = some z → RepA P w N H ι x u →
    ∃ q, (us.foldlM (if b then Builtin.max2 else Builtin.min2) u).run P w = .ok q w ∧ RepA P w N H ι z q
  | [], us, x, z, u, hl, hr, h, hx => by
    cases us with
    | cons => simp at hl
    | nil =>
    simp [mmL] at h
    subst h
    exact ⟨u, by simp, hx⟩
  | y :: ys, us, x, z, u, hl, hr, h, hx => by
    cases us with
    | nil => simp at hl
    | cons v us =>
    simp only [mmL, Option.bind_eq_some_iff] at h
    obtain ⟨z1, h1, h2⟩ := h
    obtain ⟨q1, g1, g2⟩ := mm2_sound (P := P) h1 hx (hr 0 (by simp) (by simp))
    obtain ⟨q2, g3, g4⟩ := mmL_sound ys us z1 z q1 (by simpa using hl) (fun i hi hu => hr (i + 1) (Nat.succ_lt_succ hi) (Nat.succ_lt_succ hu)) h2 g2
    refine ⟨q2, ?_, g4⟩
    have e : ((if b then Builtin.max2 else Builtin.min2) u v).run P w = .ok q1 w := by cases b <;> simpa using g1
    simp only [List.foldlM_cons, Sem.run_bind, List.getElem_cons_zero] at e g1 ⊢
    rw [e]
    simpa using g3

theorem mmA_sound {b : Bool} {xs : List AV} {us : List Value} {z : AV} {ats : Array TypeId} {ty : TypeId} (h : mmA b xs = some z) (hl : xs.length = us.length) (hr : ∀ i (hi : i < xs.length) (hu : i < us.length), RepA P w N H ι xs[i] us[i]) :
    ∃ q, (if b then Builtin.max_ ats ty us.toArray else Builtin.min_ ats ty us.toArray).run P w = .ok q w ∧ RepA P w N H ι z q := by
  cases xs with
  | nil => simp [mmA] at h
  | cons x xs =>
  cases us with
  | nil => simp at hl
  | cons u us =>
  obtain ⟨q, h1, h2⟩ := mmL_sound (P := P) xs us x z u (by simpa using hl) (fun i hi hu => hr (i + 1) (Nat.succ_lt_succ hi) (Nat.succ_lt_succ hu)) h (hr 0 (by simp) (by simp))
  refine ⟨q, ?_, h2⟩
  cases b
  · simpa [Builtin.min_] using h1
  · simpa [Builtin.max_] using h1

theorem set_same {H : Heap} {id : Nat} {r : Row} (h : H id = some r) : H.set id r = H := by
  funext x
  unfold Heap.set
  split
  · rename_i e; rw [e, h]
  · rfl

/-- A copy into a part of a row. -/
theorem copy_part {t t' ty e : TypeId} {id off len cap : Nat} {k : IntKind} {a : Option Addr} {xs ys : List Int} {v : Value} (hI : Inv P w0 S N0 H w N ι) (hu : P.underlying t = some (.slice e)) (hs : (P.info? e).map (·.size) = some 1)
    (hH : H id = some (.ints k xs)) (hle : off + len ≤ xs.length) (hp : SlPos ι id 1 off len a cap) (hy : ∃ a c, v = .slice a ys.length c ∧ ys.length ≤ c ∧ (ys ≠ [] → ∃ b, a = some b ∧ ∀ (j : Nat) u, (ys.map (Value.int k))[j]? = some u → w.cell? (b.add j) = some u)) :
    ∃ w', (Builtin.copy_ #[t, t'] ty #[.slice a len cap, v]).run P w = .ok (goInt ((min ys.length len : Nat) : Int)) w' ∧ Inv P w0 S N0 (H.set id (.ints k (copyL xs off len ys))) w' N ι ∧ Fwd N ι H w N ι (H.set id (.ints k (copyL xs off len ys))) w' := by
  obtain ⟨sa, sc, rfl, hyc, hya⟩ := hy
  by_cases hm : min ys.length len = 0
  · have e1 : copyL xs off len ys = xs := by simp [copyL, hm, spl]
    rw [e1, set_same hH, hm]
    exact ⟨w, run_copy_none (P := P) w t t' ty e a sa len cap ys.length sc hu hs hm, hI, Fwd.refl _ _ _ _⟩
  · have hys : ys ≠ [] := by rintro rfl; simp at hm
    obtain ⟨b, rfl, hcell⟩ := hya hys
    rcases hp with ⟨h0, _⟩ | ⟨g, c, h1, rfl, h3, h4⟩
    · omega
    rcases hI.rows id _ hH with ⟨h5, _⟩ | ⟨b', c', arr, e', h5, h6, h7, h8, h9⟩
    · rw [h1] at h5; cases h5
    rw [h1] at h5
    cases h5
    have hlen : ((ys.map (Value.int k)).take (min ys.length len)).length = min ys.length len := by simp
    have hr := run_copy_row P w t t' ty e g (off * 1) len cap b ys.length sc arr e' ((ys.map (Value.int k)).take (min ys.length len)) hu hs h6 (by first | exact hlen | (rw [hlen]; rfl))
      (fun j u hj => by
        rw [List.getElem?_take] at hj
        split at hj
        · exact hcell j u hj
        · simp at hj) (by simp only [hlen]; omega) (fun q hq => by
        obtain ⟨n, _, rfl⟩ := List.mem_map.1 (List.mem_of_mem_take hq)
        rfl)
    rw [hlen, Nat.mul_one] at hr
    have hspl : (arr.toList.take off ++ (ys.map (Value.int k)).take (min ys.length len) ++ arr.toList.drop (off + min ys.length len)) = spl arr.toList off ((ys.map (Value.int k)).take (min ys.length len)) := by
      unfold spl; rw [hlen]
    rw [hspl] at hr
    obtain ⟨q1, q2, q3, q4⟩ := setRow_facts w g (spl arr.toList off ((ys.map (Value.int k)).take (min ys.length len))).toArray
    have hsl : (spl arr.toList off ((ys.map (Value.int k)).take (min ys.length len))).length = arr.toList.length := spl_length _ _ _ (by simp only [hlen]; simp; omega)
    have htl : (ys.take (min ys.length len)).length = min ys.length len := by simp
    have hcl : (copyL xs off len ys).length = xs.length := by unfold copyL; exact spl_length _ _ _ (by simp only [htl]; omega)
    refine ⟨_, by simpa only [Nat.mul_one] using hr, ?_⟩
    refine hI.upd hH rfl h1 (by simp [Row.dim, Row.sz, Row.len, hcl]) q1 q2 q3 q4 (fun k hk => setRow_other w g k _ hk) ⟨arr, e', _, e', h6, setRow_heap w g arr _ e' _ h6, by simpa using hsl⟩ fun hf => ?_
    refine .inr ⟨g, c, _, e', h1, setRow_heap w g arr _ e' _ h6, by simpa [hsl] using h7, by rw [hcl]; exact h8, fun q hq => ?_⟩
    have e2 := spl_get arr.toList off ((ys.map (Value.int k)).take (min ys.length len)) (by simp only [hlen]; simp; omega) q
    rw [hlen] at e2
    have e3 := spl_get xs off (ys.take (min ys.length len)) (by simp only [htl]; omega) q
    rw [htl] at e3
    simp only [List.getElem?_toArray, e2]
    have e4 : (copyL xs off len ys)[q]? = some (copyL xs off len ys)[q] := List.getElem?_eq_getElem hq
    unfold copyL at e4
    rw [e3] at e4
    have e5 : some (Value.int k (copyL xs off len ys)[q]) = Option.map (Value.int k) (if off ≤ q ∧ q < off + min ys.length len then (ys.take (min ys.length len))[q - off]? else xs[q]?) := by
      rw [e4]; rfl
    rw [e5]
    split
    · simp [List.getElem?_take, List.getElem?_map]
      split <;> simp
    · have hq' : q < xs.length := by omega
      rw [List.getElem?_eq_getElem hq']
      simpa using h9 q hq'

theorem copyA_sound {t t' ty : TypeId} {x y z : AV} {u v : Value} {H' : Heap} (hI : Inv P w0 S N0 H w N ι) (h : copyA P t x y H = some (z, H')) (hx : RepA P w N H ι x u) (hy : RepA P w N H ι y v) :
    ∃ q w' ι', (Builtin.copy_ #[t, t'] ty #[u, v]).run P w = .ok q w' ∧ Inv P w0 S N0 H' w' N ι' ∧ Fwd N ι H w N ι' H' w' ∧ RepA P w' N H' ι' z q := by
  unfold copyA at h
  simp only [Option.bind_eq_some_iff] at h
  obtain ⟨e, h1, n, h2, k, h3, ys, h4, h5⟩ := h
  split at h5
  case isFalse => simp at h5
  rename_i hn
  subst hn
  have hu := elemT_spec h1
  have hs : (P.info? e).map (·.size) = some 1 := h2
  have hy' := intsOf_sound hI h4 hy
  split at h5
  · rename_i id s
    split at h5
    case h_2 => simp at h5
    rename_i k' xs hH
    split at h5 <;> simp at h5
    rename_i hk
    subst hk
    obtain ⟨rfl, rfl⟩ := h5
    cases hx with
    | @all _ _ a len cap hid hs' hcp hp =>
    obtain ⟨hdim, hp⟩ := hp _ hH rfl
    obtain rfl : len = xs.length := (congrArg Prod.snd hdim).symm
    obtain rfl : s = 1 := (congrArg Prod.fst hdim).symm
    obtain ⟨w', g1, g2, g3⟩ := copy_part (t' := t') (ty := ty) hI hu hs hH (by omega) hp hy'
    exact ⟨_, w', ι, g1, g2, g3, by simp only [goInt]; exact .imm (.int _ _)⟩
  · rename_i id s off len
    split at h5
    case h_2 => simp at h5
    rename_i k' xs hH
    split at h5 <;> simp at h5
    rename_i hk
    obtain ⟨rfl, hle⟩ := hk
    obtain ⟨rfl, rfl⟩ := h5
    cases hx with
    | @row _ _ _ _ a cap hid hs' hcp hp =>
    obtain ⟨hsz, hp⟩ := hp _ hH rfl
    simp only [Row.sz] at hsz
    subst hsz
    obtain ⟨w', g1, g2, g3⟩ := copy_part (t' := t') (ty := ty) hI hu hs hH hle hp hy'
    exact ⟨_, w', ι, g1, g2, g3, by simp only [goInt]; exact .imm (.int _ _)⟩
  · simp at h5
end
end Go.Ab
