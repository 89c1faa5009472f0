/-
  AN ABSTRACT LAYER, 14c: function values that are known by what they tell; nothing for no numbers.
-/
import Derived.Test.YtfdcmbjkapcbcacAbCall5
namespace Go.Ab
variable {P : Program}

/-- An argument of a pure function. -/
def qCell (H : Heap) : AV → Option Q
  | .imm (.int .i64 n) => some (.i n)
  | .imm (.bool b) => some (.b b)
  | .imm .nils => some (.l [])
  | .imm (.ints .i64 xs) => some (.l xs)
  | .all id _ => match H id with
    | some (.ints .i64 xs) => some (.l xs)
    | _ => none
  | .row id _ off len => match H id with
    | some (.ints .i64 xs) => if off + len ≤ xs.length then some (.l ((xs.drop off).take len)) else none
    | _ => none
  | _ => none

/-- A call of a function that is known by what it tells. -/
def callFnA (rb : Bool) (dom : List Q → Bool) (G : List Q → Int) (args : List AV) (H : Heap) : Option AV :=
  (args.mapM (qCell H)).bind fun qs => match dom qs with
    | true => some (.imm (fnD rb (G qs)))
    | false => none

/-- Nothing, where numbers are asked for, is no numbers. -/
def nilK (P : Program) (ty : TypeId) (x : AV) : AV :=
  match x with
  | .imm .nils => match elemT P ty with
    | some e => match kindT P e with
      | some k => .imm (.ints k [])
      | none => match sizeT P e with
        | some s => .imm (.seq s [])
        | none => .imm .nils
    | none => .imm .nils
  | x => x

/-- Nothing in a part of a struct. -/
def fixA (s : Sh) (x : AV) : AV :=
  match x with
  | .imm d => .imm (fixD s d)
  | x => x

def fixAs : List Sh → List AV → List AV
  | s :: ss, x :: xs => fixA s x :: fixAs ss xs
  | _, xs => xs

/-- Nothing, where slices are asked for, is empty slices: in structs, too. -/
def nilK2 (P : Program) (ty : TypeId) (x : AV) : AV :=
  match x with
  | .agg cs => .agg (fixAs (shs P ty) cs)
  | .imm (.agg ds) => .imm (.agg (fixL (shs P ty) ds))
  | x => nilK P ty x

def nilKs (P : Program) : List TypeId → List AV → List AV
  | t :: ts, x :: xs => nilK2 P t x :: nilKs P ts xs
  | _, xs => xs

def D.isNil : D → Bool
  | .nils => true
  | _ => false

def AV.isNil : AV → Bool
  | .imm .nils => true
  | .imm (.agg ds) => ds.any D.isNil
  | .agg cs => cs.any fun x => match x with
    | .imm .nils => true
    | _ => false
  | _ => false

def parTs (P : Program) (f : FuncId) : List TypeId := ((P.funcs[f]?).map fun fn => fn.params.toList).getD []

def argsN (P : Program) (f : FuncId) (as : List AV) : List AV :=
  match as.any AV.isNil with
  | true => nilKs P (parTs P f) as
  | false => as

section
variable {w : World} {w0 : World} {S N0 : Nat → Prop} {N : Nat → Prop} {H : Heap} {ι : Place}

theorem nilK_rep {ty : TypeId} {x : AV} {v : Value} (h : RepA P w N H ι x v) : RepA P w N H ι (nilK P ty x) v := by
  unfold nilK
  split
  · cases h with
    | imm h =>
    cases h
    split
    · split
      · exact .imm (.ints0 _ _ _)
      · split
        · exact .imm (.seq0 _ _ _)
        · exact .imm .nils
    · exact .imm .nils
  · exact h

theorem fixAs_rep : ∀ (ss : List Sh) (xs : List AV), (fixAs ss xs).length = xs.length ∧ ∀ i (hi : i < (fixAs ss xs).length) (hx : i < xs.length) {v : Value}, RepA P w N H ι xs[i] v → RepA P w N H ι (fixAs ss xs)[i] v
  | [], xs => by simp [fixAs]
  | _ :: _, [] => by simp [fixAs]
  | s :: ss, x :: xs => by
    obtain ⟨h1, h2⟩ := fixAs_rep ss xs
    refine ⟨by simp [fixAs, h1], fun i hi hx {v} h => ?_⟩
    cases i with
    | zero =>
      simp only [fixAs, List.getElem_cons_zero] at h ⊢
      unfold fixA
      split
      · cases h with
        | imm h => exact .imm (fixD_rep h)
      · exact h
    | succ i => exact h2 i (by simpa [fixAs] using hi) (by simpa using hx) (by simpa using h)

theorem nilK2_rep {ty : TypeId} {x : AV} {v : Value} (h : RepA P w N H ι x v) : RepA P w N H ι (nilK2 P ty x) v := by
  unfold nilK2
  split
  · rename_i cs
    cases h with
    | @agg _ vs hl hr =>
    obtain ⟨g1, g2⟩ := fixAs_rep (P := P) (w := w) (N := N) (H := H) (ι := ι) (shs P ty) cs
    exact .agg (by rw [g1]; exact hl) fun i hi => g2 i hi (by omega) (hr i (by omega))
  · rename_i ds
    cases h with
    | imm h =>
    cases h with
    | agg _ vs hl hr => exact .imm (.agg _ vs (by rw [fixL_length]; exact hl) fun i hi => fixL_rep _ ds i hi (by rw [fixL_length] at hi; exact hi) (hr i _))
  · exact nilK_rep h

theorem nilKs_rep : ∀ (ts : List TypeId) (xs : List AV), (nilKs P ts xs).length = xs.length ∧ ∀ i (hi : i < (nilKs P ts xs).length) (hx : i < xs.length) {v : Value}, RepA P w N H ι xs[i] v → RepA P w N H ι (nilKs P ts xs)[i] v
  | [], xs => by simp [nilKs]
  | t :: ts, [] => by simp [nilKs]
  | t :: ts, x :: xs => by
    obtain ⟨h1, h2⟩ := nilKs_rep ts xs
    refine ⟨by simp [nilKs, h1], fun i hi hx {v} h => ?_⟩
    cases i with
    | zero => exact nilK2_rep h
    | succ i => exact h2 i (by simpa [nilKs] using hi) (by simpa using hx) (by simpa using h)

theorem argsN_rep (f : FuncId) (xs : List AV) : (argsN P f xs).length = xs.length ∧ ∀ i (hi : i < (argsN P f xs).length) (hx : i < xs.length) {v : Value}, RepA P w N H ι xs[i] v → RepA P w N H ι (argsN P f xs)[i] v := by
  unfold argsN
  split
  · exact nilKs_rep _ _
  · exact ⟨rfl, fun i _ _ {v} h => h⟩

/-- What has come of a call that turned nothing. -/
theorem Inv.quiet (hI : Inv P w0 S N0 H w N ι) {w' : World} (hk : Keeps (fun _ => False) w w') : Inv P w0 S N0 H w' N ι ∧ Fwd N ι H w N ι H w' := by
  have hf : Fwd N ι H w N ι H w' := ⟨fun _ h => h, fun b o hb => World.cell?_of_block (hk.block b (hI.lt b hb) (fun h => h)), Ext.refl _ _⟩
  refine ⟨⟨⟨hk.os.trans hI.keeps.os, hk.tape.trans hI.keeps.tape, hk.output.trans hI.keeps.output, Nat.le_trans hI.keeps.size hk.size, fun b hb hS => ?_, fun b arr0 e0 hS h0 => ?_⟩, fun id r hid => ?_, hI.inj, hI.own, fun b hb => ?_, hI.old, hI.new⟩, hf⟩
  · rw [hk.block b (by have := hI.keeps.size; omega) (fun h => h)]
    exact hI.keeps.block b hb hS
  · obtain ⟨a1, e1, g1, g2⟩ := hI.keeps.cells b arr0 e0 hS h0
    exact ⟨a1, e1, by rw [hk.block b (Array.getElem?_eq_some_iff.1 g1).1 (fun h => h)]; exact g1, g2⟩
  · by_cases hl : r.live = true
    · exact (hI.rows id r hid).fwd hf rfl fun b c hb => hk.block b (hI.blk hid hl hb) (fun h => h)
    · cases r <;> first | trivial | simp [Row.live] at hl
  · have := hI.lt b hb
    have := hk.size
    omega

theorem RepD.q {q : Q} {v : Value} (h : RepD P w N q.d v) : QRep w N q v := by
  cases q with
  | i n => cases h; exact .i _
  | l xs =>
    cases h with
    | ints0 => exact .l0 _ _
    | ints _ _ b off cap hN hc h => exact .l _ b off cap hN hc h
  | b b => cases h; exact .b _

theorem QRep.d {q : Q} {v : Value} (h : QRep w N q v) : RepD P w N q.d v := by
  cases h with
  | i n => exact .int _ _
  | b b => exact .bool _
  | l0 a cap => exact .ints0 _ _ _
  | l xs b off cap hN hc h => exact .ints _ xs b off cap hN hc h

theorem qCell_lend {x : AV} {q : Q} (h : qCell H x = some q) : (x = .imm .nils ∧ q = .l []) ∨ ∃ l, lendCell H x = some (q.d, l) := by
  unfold qCell at h
  split at h
  · simp at h; subst h; exact .inr ⟨_, rfl⟩
  · simp at h; subst h; exact .inr ⟨_, rfl⟩
  · simp at h; subst h; exact .inl ⟨rfl, rfl⟩
  · simp at h; subst h; exact .inr ⟨_, rfl⟩
  · split at h
    · rename_i hH
      simp at h
      subst h
      exact .inr ⟨_, by simp [lendCell, hH, Q.d]; rfl⟩
    · simp at h
  · split at h
    · rename_i hH
      split at h <;> simp at h
      rename_i hle
      subst h
      exact .inr ⟨_, by simp [lendCell, hH, Q.d, hle]; rfl⟩
    · simp at h
  · simp at h

theorem lent_lt (hI : Inv P w0 S N0 H w N ι) {l : Bool} {ids : List Nat} {b : Nat} (h : Lent N H ι l ids b) : b < w.heap.size := by
  rcases h with h | ⟨_, id, r, c, h1, h2, _, h3⟩
  · exact hI.lt b h
  · exact hI.blk h1 h2 h3

theorem qCell_sound (hI : Inv P w0 S N0 H w N ι) {x : AV} {v : Value} {q : Q} (h : qCell H x = some q) (hx : RepA P w N H ι x v) : QRep w (Lent N H ι true []) q v := by
  rcases qCell_lend h with ⟨rfl, rfl⟩ | ⟨l, h1⟩
  · cases hx with
    | imm hx => cases hx; exact .l0 _ _
  · exact (lendCell_sound (l' := true) (ids := []) hI (by simp) h1 hx fun _ => rfl).q

theorem callFn_sound (hI : Inv P w0 S N0 H w N ι) {rb : Bool} {dom : List Q → Bool} {G : List Q → Int} {args : List AV} {vs : List Value} {fv : Value} {x : AV} (h : callFnA rb dom G args H = some x)
    (hf : RepD P w N (.fn rb dom G) fv) (hl : args.length = vs.length) (hr : ∀ i (hi : i < args.length) (hv : i < vs.length), RepA P w N H ι args[i] vs[i]) :
    ∃ (f : FuncId) (caps : Array Value) (fn : Func), fv = .func (.func f) #[] caps ∧ P.funcs[f]? = some fn ∧ (fn.name == "runtime.NumGoroutine") = false ∧ fn.body.isNone = false ∧
      Calls P f (vs.toArray ++ caps) w fun e w' => ∃ v, e = .returned v ∧ Inv P w0 S N0 H w' N ι ∧ Fwd N ι H w N ι H w' ∧ RepA P w' N H ι x v := by
  cases hf with
  | fn _ _ _ _ hf =>
  obtain ⟨f, caps, fn, h1, h2, h3, h4, h5⟩ := hf
  refine ⟨f, caps, fn, h1, h2, h3, h4, ?_⟩
  unfold callFnA at h
  simp only [Option.bind_eq_some_iff] at h
  obtain ⟨qs, h6, h7⟩ := h
  split at h7
  case h_2 => simp at h7
  rename_i hd
  simp at h7
  subst h7
  obtain ⟨m1, m2⟩ := mapM_some h6
  refine (h5 w (Lent N H ι true []) (fun b hb => .inl hb) (fun b hb => lent_lt hI hb) (fun _ _ _ => rfl) qs vs (by omega) (fun i a b => qCell_sound hI (m2 i (by omega) a) (hr i (by omega) b)) hd).mono ?_
  rintro e w' ⟨rfl, hk⟩
  obtain ⟨g1, g2⟩ := hI.quiet hk
  refine ⟨_, rfl, g1, g2, ?_⟩
  cases rb
  · exact .imm (.int _ _)
  · exact .imm (.bool _)

theorem args_ds : ∀ (ds : List D) (vs : List Value), ds.length = vs.length → (∀ i (hi : i < ds.length) (hv : i < vs.length), RepD P w N ds[i] vs[i]) → ArgsRep P w N (ds.map .d) vs [] []
  | [], [], _, _ => .nil
  | [], _ :: _, h, _ => by simp at h
  | _ :: _, [], h, _ => by simp at h
  | d :: ds, v :: vs, h, hr => .d (hr 0 (by simp) (by simp)) (args_ds ds vs (by simpa using h) fun i hi hv => hr (i + 1) (Nat.succ_lt_succ hi) (Nat.succ_lt_succ hv))

theorem ResRep.fn_inv {base : Nat} {rb : Bool} {n : Int} {us : List Value} {bs : List Nat} (h : ResRep P w N base [.one (fnD rb n, false)] us bs) : us = [fnV rb n] := by
  cases h with
  | @one c v rs vs bs bs' hc hd t =>
    cases t
    cases hc with
    | none h _ =>
      have h1 := h.1
      cases rb <;> (cases h1; rfl)
    | some h _ _ => exact absurd h.2 (by simp)

/-- A function whose meaning is told as that of a pure function. -/
theorem CallSpec.fnRep {E : Entry} (hE : CallSpec P E) (hmt : E.meth = none) {ds : List D} {rb : Bool} {dom : List Q → Bool} {G : List Q → Int} (h : E.fnOf ds = some (rb, dom, G)) {vs : Array Value} (hl : vs.size = ds.length)
    (hr : ∀ i (hi : i < ds.length), RepD P w N ds[i] (vs.getD i undef)) : FnRep P w N rb dom G (.func (.func E.f) #[] vs) := by
  obtain ⟨fn, f1, f2, f3⟩ := hE.fn hmt
  refine ⟨E.f, vs, fn, rfl, f1, f2, f3, fun w' N' hN hlt hc qs us hlen hq hd => ?_⟩
  have hm := hE.fnok ds rb dom G h qs hd
  have e1 : (vs.toList.length) = ds.length := by simpa using hl
  have hx : (qs.map fun q => XA.d q.d) ++ ds.map XA.d = ((qs.map Q.d) ++ ds).map XA.d := by simp
  rw [hx] at hm
  have ha : ArgsRep P w' N' (((qs.map Q.d) ++ ds).map XA.d) (us ++ vs.toList) [] [] := by
    refine args_ds _ _ (by simp [hl, hlen]) fun i hi hv => ?_
    by_cases hlt : i < qs.length
    · rw [List.getElem_append_left (by simpa using hlt), List.getElem_append_left (by omega)]
      simpa using (hq i hlt (by omega)).d (P := P)
    · rw [List.getElem_append_right (by simp; omega), List.getElem_append_right (by omega)]
      simp only [List.length_map]
      simp at hi
      have h6 := hr (i - qs.length) (by omega)
      have e8 : ∀ q (h : q < vs.size), vs.getD q Go.undef = vs.toList[q]'(by simpa using h) := fun q h => by simp [h]
      rw [e8 _ (by omega)] at h6
      have := h6.mono hN hc
      simpa only [hlen] using this
  have := (hE.calls w' N' _ _ [] [] _ _ hlt ha hm).plain hmt
  rw [show (us ++ vs.toList).toArray = us.toArray ++ vs by simp] at this
  refine this.mono ?_
  rintro e w'' ⟨rs, N'', obs, rfl, hk, _, _, hres, _⟩
  obtain rfl := hres.fn_inv
  exact ⟨rfl, ⟨hk.os, hk.tape, hk.output, hk.size, fun b hb _ => hk.block b hb (by simp), fun b _ _ h => h.elim⟩⟩

theorem callFnA_mono {H' : Heap} {rb : Bool} {dom : List Q → Bool} {G : List Q → Int} {args : List AV} {x : AV} (hg : Grow H H') (h : callFnA rb dom G args H = some x) : callFnA rb dom G args H' = some x := by
  unfold callFnA at h ⊢
  simp only [Option.bind_eq_some_iff] at h ⊢
  obtain ⟨qs, h1, h2⟩ := h
  refine ⟨qs, mapM_mono _ _ (fun x _ y hy => ?_) h1, h2⟩
  unfold qCell at hy ⊢
  split at hy <;> try exact hy
  · split at hy
    · rename_i hH
      simp only [hg _ _ hH]
      exact hy
    · simp at hy
  · split at hy
    · rename_i hH
      simp only [hg _ _ hH]
      exact hy
    · simp at hy
end
end Go.Ab
