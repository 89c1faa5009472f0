/-
  AN ABSTRACT LAYER, 15: one operation, whichever.
-/
import Derived.Test.YtfdcmbjkapcbcacAbFn
namespace Go.Ab
variable {P : Program}

/-- Notes beside a function (whatever they say, what is proved holds): 'own': slots whose slices are to be written or appended to; 'drop': what is forgotten ahead of a region. -/
structure Ann where
  own : List Nat
  drop : List (Nat × List Nat)
  frz : List (Nat × List Nat)
  ord : List (Nat × List Nat)
  lit : List Nat
  inl : List Nat

def nidOf (o : Oper) : Nat := match o.dst with | some d => (d + 1) * 64 | none => 0

def polOf (A : Ann) (o : Oper) : Bool := match o.dst with | some d => A.own.contains d | none => false

def litOf (A : Ann) (o : Oper) : Bool := match o.dst with | some d => A.lit.contains d | none => false

/-- Is the operation a call whose code is run where it stands, in a region that draws its order? -/
def frzAt (A : Ann) (id : Nat) : List Nat := ((A.frz.find? (·.1 == id)).map (·.2)).getD []

def noH (H : Heap) (x : Option AV) : Option (AV × Heap) := x.map fun a => (a, H)

def inlOf (A : Ann) (o : Oper) : Bool := match o.dst with | some d => A.inl.contains d | none => false

def findE (X : List Entry) (f : FuncId) : Option Entry := X.find? fun E => E.f == f && E.meth.isNone

/-- The entry of a method that is called through an interface. -/
def findM (X : List Entry) (nm : String) : Option Entry := X.find? fun E => match E.meth with
  | some m => m == nm
  | none => false

/-- A call by an entry. -/
def callF (E : Entry) (pol : Bool) (args : List AV) (nid : Nat) (H : Heap) : Option (AV × Heap) :=
  if E.quiet then noH H (callQ E args H) else if E.turns then callM E args H else if E.makes then callN E pol args nid H else callA E pol args nid H

/-- Two operands, one of them a constant? -/
def isCst : Operand → Bool
  | .const _ => true
  | _ => false

/-- nil beside nil: one of them is a constant. -/
def binN (P : Program) (op : BinOp) (t : TypeId) (c : Bool) : AV → AV → Option AV
  | .imm .nili, .imm .nili => if c then (binIf P op t true).map .imm else none
  | .imm a, .imm b => binA P op t (.imm a) (.imm b)
  | x, y => (toD x).bind fun a => (toD y).bind fun b => (binD P op t a b).map .imm

/-- A value in an interface. -/
def mkIfA (P : Program) (t : TypeId) (x : AV) : Option AV :=
  (ifcT P t).bind fun b => if b then none else (toD x).map fun d => .imm (.iface t (fixN P t d))

/-- Is it of this type? (The value itself is not looked at.) -/
def assertA (P : Program) (at' : TypeId) (ok : Bool) (x : AV) : Option AV :=
  (ifcT P at').bind fun b => (zeroT P at').bind fun _ => if b || !ok then none else match x with
    | .imm (.iface t _) => some (.tup [.dead, .imm (.bool (t == at'))])
    | .imm .nili => some (.tup [.dead, .imm (.bool false)])
    | _ => none



def assignA (P : Program) (ty : TypeId) (pol : Bool) (nid : Nat) (H : Heap) (x : AV) : Option (AV × Heap) :=
  match pol, x with
  | true, .imm .nils => match H nid, bareRow P ty with
    | none, some r => some (.all nid r.sz, H.set nid r)
    | _, _ => none
  | _, x => some (x, H)

/-- What a function value holds of what it takes along. -/
def capA : AV → Option D
  | .imm d => some d
  | .dptr cs 0 => some (.pbox cs)
  | _ => none

/-- A function value. -/
def makeFuncA (X : List Entry) (f : FuncId) (caps : List AV) : AV :=
  match caps.mapM capA with
  | some ds => match (findE X f).bind fun E => E.fnOf ds with
    | some g => .imm (.fn g.1 g.2.1 g.2.2)
    | none => .imm (.clo f ds)
  | none => .clo f caps

def evalArgs (P : Program) (f : FuncId) (t : List AV) (args : Array Operand) : List AV := argsN P f (args.toList.map (evalA t))

/-- A variable that is to own what it holds: nothing becomes a row of its own. -/
def boxOwn (P : Program) (pol : Bool) (ty : TypeId) (nid : Nat) (H : Heap) (x : AV) : Option (AV × Heap) :=
  match pol, x with
  | true, .imm .nils => (assignA P ty true (nid + 1) H (.imm .nils)).bind fun r => boxA nid r.2 r.1
  | _, x => boxA nid H x

def opF1 (P : Program) (X : List Entry) (A : Ann) (o : Oper) (t : List AV) (H : Heap) : Option (AV × Heap) :=
  match o.op with
  | .move x => some (evalA t x, H)
  | .assign x => assignA P o.type (polOf A o) (nidOf o) H (evalA t x)
  | .pick c a b => noH H (pickA (evalA t c) (evalA t a) (evalA t b))
  | .alloc e => allocA P e (nidOf o) H
  | .box e x => boxOwn P (polOf A o) e (nidOf o) H (evalA t x)
  | .build ty parts => noH H (buildA P ty (parts.toList.map fun p => (p.1, evalA t p.2)))
  | .buildSlice ty len parts => match litOf A o with
    | false => buildRow P ty len (parts.toList.map fun p => (p.1, evalA t p.2)) (nidOf o) H
    | true => buildLit P ty len (parts.toList.map fun p => (p.1, evalA t p.2)) (nidOf o) H
  | .load ty x => noH H (loadA P ty H (evalA t x))
  | .store ty x y => (storeA P ty H (evalA t x) (evalA t y)).map fun H' => (.undef, H')
  | .nilCheck x => noH H (nilCheckA (evalA t x))
  | .binOp op ty x y _ => noH H (binN P op ty (isCst x || isCst y) (evalA t x) (evalA t y))
  | .makeInterface ty x => noH H (mkIfA P ty (evalA t x))
  | .typeAssert x _ at' ok => noH H (assertA P at' ok (evalA t x))
  | .unOp op _ x => match evalA t x with
    | .imm d => noH H ((unD op d).map .imm)
    | _ => none
  | .convert s d x => noH H (convA P s d (evalA t x))
  | .makeSlice ty l c => makeSliceA P ty (evalA t l) (evalA t c) (nidOf o) H
  | .slice ty x lo hi none => noH H (sliceA P ty H (evalA t x) (lo.map (evalA t)) (hi.map (evalA t)))
  | .fieldAddr s x f => noH H (fieldAddrA P s f (evalA t x))
  | .field s x f => noH H (fieldA P s f (evalA t x))
  | .indexAddr ty x i => noH H (indexAddrA P ty H (evalA t x) (evalA t i))
  | .index ty x i => noH H (indexA P ty (evalA t x) (evalA t i))
  | .extract x i => noH H (extractA (evalA t x) i)
  | .makeFunc (.func f) first captured => match first.isEmpty with
    | true => some (makeFuncA X f (captured.toList.map (evalA t)), H)
    | false => none
  | .call c =>
    match c.callee with
    | .value (.func f) => (findE X f).bind fun E => if E.quiet then noH H (callQ E (evalArgs P f t c.args) H) else if E.turns then callM E (evalArgs P f t c.args) H else if E.makes then callN E (polOf A o) (evalArgs P f t c.args) (nidOf o) H else callA E (polOf A o) (evalArgs P f t c.args) (nidOf o) H
    | .builtin .len => match c.argTypes.toList, c.args.toList with
      | [ty], [x] => noH H (lenA P ty H (evalA t x))
      | _, _ => none
    | .builtin .append => match c.argTypes.toList, c.args.toList with
      | [ty, ty'], [x, y] => if ty = ty' then appendSA P ty (evalA t x) (evalA t y) (nidOf o) H else appendZZ P ty ty' (evalA t x) (evalA t y) (nidOf o) H
      | _, _ => none
    | .builtin .copy => match c.argTypes.toList, c.args.toList with
      | [ty, _], [x, y] => copyA P ty (evalA t x) (evalA t y) H
      | _, _ => none
    | .builtin .cap => match c.argTypes.toList, c.args.toList with
      | [ty], [x] => noH H (capB P ty (evalA t x))
      | _, _ => none
    | .value x => match evalA t x with
      | .imm (.clo f ds) => (findE X f).bind fun E => if E.quiet then noH H (callQ E (c.args.toList.map (evalA t) ++ ds.map AV.imm) H) else none
      | .imm (.fn rb dom G) => noH H (callFnA rb dom G (c.args.toList.map (evalA t)) H)
      | _ => none
    | .invoke r nm => (findM X nm).bind fun E => callF E (polOf A o) (evalA t r :: c.args.toList.map (evalA t)) (nidOf o) H
    | .builtin .max => noH H (mmA true (c.args.toList.map (evalA t)))
    | .builtin .min => noH H (mmA false (c.args.toList.map (evalA t)))
    | _ => none
  | _ => none

section
variable {P : Program} {w : World} {w0 : World} {S N0 : Nat → Prop} {N : Nat → Prop} {H : Heap} {ι : Place}

theorem rep_evalA {t : List AV} {a : Act} (ht : ∀ i (hi : i < t.length), RepA P w N H ι t[i] (a.tmps.getD i Go.undef)) (x : Operand) : RepA P w N H ι (evalA t x) (a.eval x) := by
  cases x with
  | tmp i =>
    simp only [evalA, Act.eval]
    by_cases hi : i < t.length
    · have := ht i hi
      rw [show t.getD i .dead = t[i] by simp [hi]]
      exact this
    · rw [show t.getD i .dead = .dead by simp [List.getD, List.getElem?_eq_none (Nat.le_of_not_lt hi)]]
      exact .dead
  | const v => exact rep_ofConst w N H ι v
  | global g => exact .dead
  | func f => exact .imm (.clo _ _ #[] rfl (fun i hi => by simp at hi))

/-- How an operation may end. -/
def Ends (P : Program) (ρ : Operand → Value) (o : Oper) (w : World) (R : Value → World → Prop) : Prop :=
  (∃ v w', (execOp ρ o).run P w = .ok (.value v) w' ∧ R v w') ∨ (∃ w', (execOp ρ o).run P w = .ok .skip w' ∧ R Go.undef w') ∨
  ∃ f args, (execOp ρ o).run P w = .ok (.enter f args) w ∧ Calls P f args w fun e w' => ∃ v, e = .returned v ∧ R v w'

theorem noH_some {x : Option AV} {y : AV} {H' : Heap} (h : noH H x = some (y, H')) : x = some y ∧ H' = H := by
  unfold noH at h
  simp only [Option.map_eq_some_iff, Prod.mk.injEq] at h
  obtain ⟨z, h, rfl, rfl⟩ := h
  exact ⟨h, rfl⟩

theorem findE_spec {X : List Entry} {f : FuncId} {E : Entry} (h : findE X f = some E) : E ∈ X ∧ E.f = f := by
  unfold findE at h
  have := List.find?_some h
  simp only [Bool.and_eq_true, beq_iff_eq] at this
  exact ⟨List.mem_of_find?_eq_some h, this.1⟩

theorem findE_meth {X : List Entry} {f : FuncId} {E : Entry} (h : findE X f = some E) : E.meth = none := by
  have := List.find?_some h
  simp only [Bool.and_eq_true, Option.isNone_iff_eq_none] at this
  exact this.2

theorem findM_spec {X : List Entry} {nm : String} {E : Entry} (h : findM X nm = some E) : E ∈ X ∧ E.meth = some nm := by
  unfold findM at h
  have := List.find?_some h
  refine ⟨List.mem_of_find?_eq_some h, ?_⟩
  split at this
  · rename_i m hm
    rw [hm, beq_iff_eq.1 this]
  · cases this

theorem callF_sound {E : Entry} {pol : Bool} {args : List AV} {vs : List Value} {nid : Nat} {x : AV} {H' : Heap} (hE : CallSpec P E) (hI : Inv P w0 S N0 H w N ι) (h : callF E pol args nid H = some (x, H'))
    (hl : args.length = vs.length) (hr : ∀ i (hi : i < args.length) (hv : i < vs.length), RepA P w N H ι args[i] vs[i]) :
    CallsE P E vs.toArray w fun e w' => ∃ v N' ι', e = .returned v ∧ Inv P w0 S N0 H' w' N' ι' ∧ Fwd N ι H w N' ι' H' w' ∧ RepA P w' N' H' ι' x v := by
  unfold callF at h
  split at h
  · obtain ⟨g, rfl⟩ := noH_some h
    exact callA_sound (nid := nid) hE hI (callQ_callA g) hl hr
  · split at h
    · exact callM_sound hE hI h hl hr
    · split at h
      · exact callA_sound hE hI (callN_callA h) hl hr
      · exact callA_sound hE hI h hl hr

theorem mkIfA_sound {t : TypeId} {x y : AV} {v : Value} (h : mkIfA P t x = some y) (hx : RepA P w N H ι x v) : ∃ z, (Instr.makeInterface t v).run P w = .ok z w ∧ RepA P w N H ι y z := by
  unfold mkIfA at h
  simp only [Option.bind_eq_some_iff] at h
  obtain ⟨b, h1, h2⟩ := h
  split at h2
  · cases h2
  · rename_i hb
    simp only [Option.map_eq_some_iff] at h2
    obtain ⟨d, h3, rfl⟩ := h2
    refine ⟨.iface t v, ?_, .imm (.iface _ _ _ (fixN_rep (toD_rep h3 hx)))⟩
    unfold ifcT at h1
    split at h1 <;> simp at h1
    · subst h1; simp at hb
    · rename_i d' hu hd
      unfold Instr.makeInterface
      simp only [Sem.run_bind, run_under hd, Result.andThen_ok]
      rfl

theorem assertA_sound {xt at' : TypeId} {ok : Bool} {x y : AV} {v : Value} (h : assertA P at' ok x = some y) (hx : RepA P w N H ι x v) : ∃ z, (Instr.typeAssert v xt at' ok).run P w = .ok z w ∧ RepA P w N H ι y z := by
  unfold assertA at h
  simp only [Option.bind_eq_some_iff] at h
  obtain ⟨b, h1, z, h2, h3⟩ := h
  split at h3
  · cases h3
  · rename_i hb
    simp only [Bool.or_eq_true, Bool.not_eq_true', not_or, Bool.not_eq_true, Bool.not_eq_false] at hb
    obtain ⟨rfl, rfl⟩ := hb
    have tup : ∀ (u : Value) (b : Bool), RepA P w N H ι (.tup [.dead, .imm (.bool b)]) (.tuple #[u, .bool b]) := fun u b => .tup rfl fun i hi => by
      match i, hi with
      | 0, _ => exact .dead
      | 1, _ => exact .imm (.bool _)
    have hu : ∃ d, P.underlying at' = some d ∧ ∀ ms, d ≠ .interface ms := by
      unfold ifcT at h1
      split at h1 <;> simp at h1
      rename_i d hd1 hd
      exact ⟨d, hd, fun ms e => hd1 ms e⟩
    obtain ⟨d, hu1, hu2⟩ := hu
    split at h3
    · rename_i t d'
      simp at h3
      subst h3
      cases hx with
      | imm hx =>
      cases hx with
      | iface _ _ v' hv =>
      by_cases he : t = at'
      · refine ⟨.tuple #[v', .bool true], ?_, by rw [beq_iff_eq.2 he]; exact tup _ _⟩
        unfold Instr.typeAssert
        simp only [Sem.run_bind, run_under hu1, Result.andThen_ok]
        cases d <;> first | (exact absurd rfl (hu2 _)) | simp [he]
      · refine ⟨.tuple #[z, .bool false], ?_, by rw [beq_eq_false_iff_ne.2 he]; exact tup _ _⟩
        unfold Instr.typeAssert
        simp only [Sem.run_bind, run_under hu1, Result.andThen_ok]
        cases d <;> first | (exact absurd rfl (hu2 _)) | simp [he, run_zero h2]
    · simp at h3
      subst h3
      cases hx with
      | imm hx =>
      cases hx
      refine ⟨.tuple #[z, .bool false], ?_, tup _ _⟩
      unfold Instr.typeAssert
      simp only [Sem.run_bind, run_under hu1, Result.andThen_ok]
      cases d <;> first | (exact absurd rfl (hu2 _)) | simp [run_zero h2]
    · cases h3

set_option maxHeartbeats 1000000 in
theorem opF1_sound {X : List Entry} (hX : ∀ E ∈ X, CallSpec P E) {A : Ann} {o : Oper} {t : List AV} {ρ : Operand → Value} {x : AV} {H' : Heap} (hI : Inv P w0 S N0 H w N ι) (hρ : ∀ x, RepA P w N H ι (evalA t x) (ρ x)) (hfun : ∀ f, ρ (.func f) = .func (.func f) #[] #[])
    (h : opF1 P X A o t H = some (x, H')) : Ends P ρ o w fun v w' => ∃ N' ι', Inv P w0 S N0 H' w' N' ι' ∧ Fwd N ι H w N' ι' H' w' ∧ RepA P w' N' H' ι' x v := by
  have pure1 : ∀ {y : AV} {s : Sem Value}, (∃ z, s.run P w = .ok z w ∧ RepA P w N H ι y z) → ((execOp ρ o) = do pure (.value (← s))) → y = x → H' = H →
      Ends P ρ o w fun v w' => ∃ N' ι', Inv P w0 S N0 H' w' N' ι' ∧ Fwd N ι H w N' ι' H' w' ∧ RepA P w' N' H' ι' x v := by
    rintro y s ⟨z, h1, h2⟩ he rfl rfl
    exact .inl ⟨z, w, by rw [he]; simp [h1], N, ι, hI, Fwd.refl _ _ _ _, h2⟩
  have mem1 : ∀ {s : Sem Value}, (∃ z w' ι', s.run P w = .ok z w' ∧ Inv P w0 S N0 H' w' N ι' ∧ Fwd N ι H w N ι' H' w' ∧ RepA P w' N H' ι' x z) → ((execOp ρ o) = do pure (.value (← s))) →
      Ends P ρ o w fun v w' => ∃ N' ι', Inv P w0 S N0 H' w' N' ι' ∧ Fwd N ι H w N' ι' H' w' ∧ RepA P w' N' H' ι' x v := by
    rintro s ⟨z, w', ι', h1, h2, h3, h4⟩ he
    exact .inl ⟨z, w', by rw [he]; simp [h1], N, ι', h2, h3, h4⟩
  obtain ⟨dst, op, ty0, pos, after, guard⟩ := o
  cases op <;> simp only [opF1] at h <;> try (simp at h; done)
  case move a =>
    simp at h
    obtain ⟨rfl, rfl⟩ := h
    exact .inl ⟨_, w, rfl, N, ι, hI, Fwd.refl _ _ _ _, hρ a⟩
  case assign a =>
    have ha := hρ a
    unfold assignA at h
    split at h
    · rename_i heq
      rw [heq] at ha
      split at h
      · rename_i hn hk
        simp at h
        obtain ⟨rfl, rfl⟩ := h
        obtain ⟨ι', g1, g2, g3⟩ := bareRow_sound hI hn hk none
        refine .inl ⟨ρ a, w, rfl, N, ι', g1, g2, ?_⟩
        cases hv : ρ a with
        | slice _ _ _ =>
          rw [hv] at ha
          cases ha with
          | imm ha =>
          cases ha
          exact g3
        | _ => rw [hv] at ha; cases ha with | imm ha => cases ha
      · simp at h
    · simp at h
      obtain ⟨rfl, rfl⟩ := h
      exact .inl ⟨_, w, rfl, N, ι, hI, Fwd.refl _ _ _ _, ha⟩
  case pick c a b =>
    obtain ⟨g, rfl⟩ := noH_some h
    obtain ⟨v, h1, h2⟩ := pickA_sound (P := P) g (hρ c) (hρ a) (hρ b)
    exact .inl ⟨v, w, h1, N, ι, hI, Fwd.refl _ _ _ _, h2⟩
  case alloc e => exact mem1 (allocA_sound hI h) rfl
  case box e a =>
    have ha := hρ a
    unfold boxOwn at h
    split at h
    · rename_i heq
      rw [heq] at ha
      simp only [Option.bind_eq_some_iff] at h
      obtain ⟨⟨x1, H1⟩, h1, h2⟩ := h
      unfold assignA at h1
      simp only at h1
      split at h1
      · rename_i hn hk
        simp at h1
        obtain ⟨rfl, rfl⟩ := h1
        have hv : ρ a = .slice none 0 0 := by
          revert ha
          generalize ρ a = v
          intro ha
          cases ha with | imm ha => cases ha; rfl
        obtain ⟨ι1, g1, g2, g3⟩ := bareRow_sound hI hn hk none
        obtain ⟨z, w', ι', q1, q2, q3, q4⟩ := boxA_sound (t := e) g1 h2 g3
        exact .inl ⟨z, w', by simp [execOp, hv, q1], N, ι', q2, g2.trans q3, q4⟩
      · simp at h1
    · exact mem1 (boxA_sound hI h ha) rfl
  case build ty parts =>
    obtain ⟨g, rfl⟩ := noH_some h
    exact pure1 (buildA_sound (parts := parts.toList.map fun p => (p.1, evalA t p.2)) (vs := parts.map fun (i, x) => (i, ρ x)) g (by simp) fun i hi hv => by simpa using hρ _) rfl rfl rfl
  case buildSlice ty len parts =>
    split at h
    case h_2 =>
      obtain ⟨z, w', N', ι', q1, q2, q3, q4⟩ := buildLit_sound (parts := parts.toList.map fun p => (p.1, evalA t p.2)) (vs := parts.map fun (i, x) => (i, ρ x)) hI h (by simp) fun i hi hv => by simpa using hρ _
      exact .inl ⟨z, w', by simp [execOp, q1], N', ι', q2, q3, q4⟩
    have hb := buildRow_sound (parts := parts.toList.map fun p => (p.1, evalA t p.2)) (vs := parts.map fun (i, x) => (i, ρ x)) hI h (by simp) fun i hi hv => by simpa using hρ _
    exact mem1 hb rfl
  case load ty a =>
    obtain ⟨g, rfl⟩ := noH_some h
    exact pure1 (loadA_sound hI g (hρ a)) rfl rfl rfl
  case store ty a b =>
    simp only [Option.map_eq_some_iff, Prod.mk.injEq] at h
    obtain ⟨H1, h, rfl, rfl⟩ := h
    obtain ⟨w', h1, h2, h3⟩ := storeA_sound hI h (hρ a) (hρ b)
    exact .inr (.inl ⟨w', by simp [execOp, h1], N, ι, h2, h3, .undef⟩)
  case nilCheck a =>
    obtain ⟨g, rfl⟩ := noH_some h
    obtain ⟨⟨b, hb⟩ | ⟨f, vs, hb⟩ | ⟨b, hb⟩, h2⟩ := nilCheckA_sound g (hρ a)
    · exact .inl ⟨ρ a, w, by simp [execOp, hb], N, ι, hI, Fwd.refl _ _ _ _, h2⟩
    · exact .inl ⟨ρ a, w, by simp [execOp, hb], N, ι, hI, Fwd.refl _ _ _ _, h2⟩
    · exact .inl ⟨ρ a, w, by simp [execOp, hb], N, ι, hI, Fwd.refl _ _ _ _, h2⟩
  case makeInterface ty a =>
    obtain ⟨g, rfl⟩ := noH_some h
    exact pure1 (mkIfA_sound g (hρ a)) rfl rfl rfl
  case typeAssert a xt at' ok =>
    obtain ⟨g, rfl⟩ := noH_some h
    exact pure1 (assertA_sound g (hρ a)) rfl rfl rfl
  case binOp op ty a b ty' =>
    obtain ⟨g, rfl⟩ := noH_some h
    unfold binN at g
    split at g
    · rename_i e1 e2
      split at g
      case isFalse => cases g
      rename_i hc
      simp only [Option.map_eq_some_iff] at g
      obtain ⟨d, g, rfl⟩ := g
      have ha := hρ a
      have hb := hρ b
      rw [e1] at ha
      rw [e2] at hb
      have ua : ρ a = .nilIface := by
        generalize ρ a = v at ha
        cases ha with | imm ha => cases ha; rfl
      have ub : ρ b = .nilIface := by
        generalize ρ b = v at hb
        cases hb with | imm hb => cases hb; rfl
      obtain ⟨z, h1, h2⟩ := binIf_sound' (P := P) (w := w) (N := N) (u := .nilIface) (v := .nilIface) g (.inl ⟨rfl, rfl, rfl⟩)
      refine .inl ⟨z, w, ?_, N, ι, hI, Fwd.refl _ _ _ _, .imm h2⟩
      have hg : (eqGuard op ty a b .nilIface .nilIface).run P w = .ok () w := by
        unfold eqGuard
        simp only [Bool.or_eq_true] at hc
        rcases hc with hc | hc
        · cases a <;> simp [isCst] at hc
          cases op <;> simp
        · cases b <;> simp [isCst] at hc
          cases op <;> simp
      simp only [execOp, ua, ub, Sem.run_bind, hg, h1, Result.andThen_ok, Sem.run_pure]
    · rename_i d1 d2 hn e1 e2
      unfold binA at g
      simp only [Option.map_eq_some_iff] at g
      obtain ⟨d, g, rfl⟩ := g
      have ha := hρ a
      have hb := hρ b
      rw [e1] at ha
      rw [e2] at hb
      obtain ⟨u1, u2⟩ : RepD P w N d1 (ρ a) ∧ RepD P w N d2 (ρ b) := ⟨by cases ha; assumption, by cases hb; assumption⟩
      obtain ⟨z, h1, h2⟩ := binD_sound (P := P) (w := w) (x := a) (y := b) g u1 u2
      exact pure1 ⟨z, h1, .imm h2⟩ rfl rfl rfl
    · simp only [Option.bind_eq_some_iff, Option.map_eq_some_iff] at g
      obtain ⟨d1, g1, d2, g2, d, g, rfl⟩ := g
      obtain ⟨z, h1, h2⟩ := binD_sound (P := P) (w := w) (x := a) (y := b) g (toD_rep g1 (hρ a)) (toD_rep g2 (hρ b))
      exact pure1 ⟨z, h1, .imm h2⟩ rfl rfl rfl
  case unOp op ty a =>
    split at h
    · rename_i d e1
      obtain ⟨g, rfl⟩ := noH_some h
      simp only [Option.map_eq_some_iff] at g
      obtain ⟨d', g, rfl⟩ := g
      have ha := hρ a
      rw [e1] at ha
      have u1 : RepD P w N d (ρ a) := by cases ha; assumption
      obtain ⟨z, h1, h2⟩ := unD_sound (P := P) (w := w) g u1
      exact pure1 ⟨z, h1, .imm h2⟩ rfl rfl rfl
    · simp at h
  case convert s d a =>
    obtain ⟨g, rfl⟩ := noH_some h
    exact pure1 (convA_sound g (hρ a)) rfl rfl rfl
  case makeSlice ty l c => exact mem1 (makeSliceA_sound hI h (hρ l) (hρ c)) rfl
  case slice ty a lo hi mx =>
    cases mx with
    | some m => simp at h
    | none =>
    obtain ⟨g, rfl⟩ := noH_some h
    have ro : ∀ o : Option Operand, RepO P w N H' ι (o.map (evalA t)) (o.map ρ) := fun o => by
      cases o with
      | none => exact .none
      | some x => exact .some (hρ x)
    exact pure1 (sliceA_sound g (hρ a) (ro lo) (ro hi)) rfl rfl rfl
  case fieldAddr s a f =>
    obtain ⟨g, rfl⟩ := noH_some h
    exact pure1 (fieldAddrA_sound g (hρ a)) rfl rfl rfl
  case field s a f =>
    obtain ⟨g, rfl⟩ := noH_some h
    exact pure1 (fieldA_sound g (hρ a)) rfl rfl rfl
  case indexAddr ty a i =>
    obtain ⟨g, rfl⟩ := noH_some h
    exact pure1 (indexAddrA_sound g (hρ a) (hρ i)) rfl rfl rfl
  case index ty a i =>
    obtain ⟨g, rfl⟩ := noH_some h
    exact pure1 (indexA_sound g (hρ a) (hρ i)) rfl rfl rfl
  case extract a i =>
    obtain ⟨g, rfl⟩ := noH_some h
    exact pure1 (extractA_sound g (hρ a)) rfl rfl rfl
  case makeFunc fn first captured =>
    cases fn <;> simp only at h <;> try (simp at h; done)
    rename_i f
    split at h
    case h_2 => simp at h
    rename_i hfst
    simp at h
    obtain ⟨rfl, rfl⟩ := h
    obtain rfl : first = #[] := by simpa using hfst
    refine .inl ⟨.func (.func f) #[] (captured.map ρ), w, by simp [execOp, Instr.makeFunc], N, ι, hI, Fwd.refl _ _ _ _, ?_⟩
    unfold makeFuncA
    split
    · rename_i ds g
      obtain ⟨m1, m2⟩ := mapM_some g
      have hds : ∀ i (hi : i < ds.length), RepD P w N ds[i] ((captured.map ρ).getD i Go.undef) := fun i hi => by
        have hi' : i < captured.size := by have := m1; simp at this; omega
        have h4 := m2 i (by simpa using hi') hi
        have h5 := hρ captured[i]
        rw [show (captured.map ρ).getD i Go.undef = ρ captured[i] by simp [hi']]
        simp only [List.getElem_map, Array.getElem_toList] at h4
        unfold capA at h4
        split at h4
        · rename_i d heq
          rw [heq] at h5
          simp at h4
          rw [← h4]
          cases h5
          assumption
        · rename_i cs heq
          rw [heq] at h5
          simp at h4
          rw [← h4]
          cases h5 with
          | dptr h hv => rw [hv]; exact h
        · simp at h4
      have hsz : (captured.map ρ).size = ds.length := by simpa using m1.symm
      split
      · rename_i g2 hg2
        simp only [Option.bind_eq_some_iff] at hg2
        obtain ⟨E, e1, e2⟩ := hg2
        obtain ⟨hm, rfl⟩ := findE_spec e1
        exact .imm (.fn _ _ _ _ ((hX E hm).fnRep (findE_meth e1) (rb := g2.1) (dom := g2.2.1) (G := g2.2.2) e2 hsz hds))
      · exact .imm (.clo _ _ _ hsz hds)
    · refine .clo (by simp) fun i hi => ?_
      have hi' : i < captured.size := by simpa using hi
      rw [show (captured.map ρ).getD i Go.undef = ρ captured[i] by simp [hi']]
      simpa using hρ captured[i]
  case call c =>
    obtain ⟨callee, args, argTypes⟩ := c
    simp only at h
    split at h
    · rename_i f
      simp only [Option.bind_eq_some_iff] at h
      obtain ⟨E, h1, h2⟩ := h
      obtain ⟨hm, rfl⟩ := findE_spec h1
      have hE := hX E hm
      have hmt := findE_meth h1
      obtain ⟨fn, f1, f2, f3⟩ := hE.fn hmt
      obtain ⟨al, ar⟩ := argsN_rep (P := P) (w := w) (N := N) (H := H) (ι := ι) E.f (args.toList.map (evalA t))
      have hargl : (evalArgs P E.f t args).length = (args.toList.map ρ).length := by unfold evalArgs; rw [al]; simp
      have hargr : ∀ i (hi : i < (evalArgs P E.f t args).length) (hv : i < (args.toList.map ρ).length), RepA P w N H ι (evalArgs P E.f t args)[i] (args.toList.map ρ)[i] := fun i hi hv =>
        ar i hi (by simpa using hv) (by simpa using hρ _)
      have hc : Calls P E.f (args.toList.map ρ).toArray w fun e w' => ∃ v N' ι', e = .returned v ∧ Inv P w0 S N0 H' w' N' ι' ∧ Fwd N ι H w N' ι' H' w' ∧ RepA P w' N' H' ι' x v := by
        refine CallsE.plain hmt ?_
        split at h2
        · obtain ⟨g, rfl⟩ := noH_some h2
          exact callA_sound (nid := nidOf ⟨dst, .call ⟨.value (.func E.f), args, argTypes⟩, ty0, pos, after, guard⟩) hE hI (callQ_callA g) hargl hargr
        · split at h2
          · exact callM_sound hE hI h2 hargl hargr
          · split at h2
            · exact callA_sound hE hI (callN_callA h2) hargl hargr
            · exact callA_sound hE hI h2 hargl hargr
      refine .inr (.inr ⟨E.f, (args.map ρ), ?_, ?_⟩)
      · have g2 : ¬ fn.name = "runtime.NumGoroutine" := fun h => by rw [h] at f2; exact absurd f2 (by decide)
        have g3 : ¬ fn.body = none := fun h => by rw [h] at f3; cases f3
        simp [execOp, resolve, hfun, Deferred.ofValue, invoke, callFunc, f1, g2, g3]
      · have : (args.toList.map ρ).toArray = args.map ρ := by rw [← Array.toList_map, Array.toArray_toList]
        rw [this] at hc
        exact hc.mono fun e w' ⟨v, N', ι', q1, q2, q3, q4⟩ => ⟨v, q1, N', ι', q2, q3, q4⟩
    · split at h
      · rename_i ty x0 e1 e2
        obtain ⟨g, rfl⟩ := noH_some h
        obtain rfl : argTypes = #[ty] := by cases argTypes; simp_all
        obtain rfl : args = #[x0] := by cases args; simp_all
        obtain ⟨z, h1, h2⟩ := lenA_sound (ty := ty0) g (hρ x0)
        exact .inl ⟨z, w, by simp [execOp, resolve, invoke, builtin, h1], N, ι, hI, Fwd.refl _ _ _ _, h2⟩
      · simp at h
    · split at h
      · rename_i ty ty' x0 y0 e1 e2
        split at h
        case isFalse =>
          obtain rfl : argTypes = #[ty, ty'] := by cases argTypes; simp_all
          obtain rfl : args = #[x0, y0] := by cases args; simp_all
          obtain ⟨z, w', ι', h1, h2, h3, h4⟩ := appendZZ_sound (ty := ty0) hI h (hρ x0) (hρ y0)
          exact .inl ⟨z, w', by simp [execOp, resolve, invoke, builtin, h1], N, ι', h2, h3, h4⟩
        rename_i hty
        subst hty
        obtain rfl : argTypes = #[ty, ty] := by cases argTypes; simp_all
        obtain rfl : args = #[x0, y0] := by cases args; simp_all
        obtain ⟨z, w', ι', h1, h2, h3, h4⟩ := appendSA_sound (ty := ty0) hI h (hρ x0) (hρ y0)
        exact .inl ⟨z, w', by simp [execOp, resolve, invoke, builtin, h1], N, ι', h2, h3, h4⟩
      · simp at h
    · split at h
      · rename_i ty ty' x0 y0 e1 e2
        obtain rfl : argTypes = #[ty, ty'] := by cases argTypes; simp_all
        obtain rfl : args = #[x0, y0] := by cases args; simp_all
        obtain ⟨z, w', ι', h1, h2, h3, h4⟩ := copyA_sound (t' := ty') (ty := ty0) hI h (hρ x0) (hρ y0)
        exact .inl ⟨z, w', by simp [execOp, resolve, invoke, builtin, h1], N, ι', h2, h3, h4⟩
      · simp at h
    · split at h
      · rename_i ty x0 e1 e2
        obtain ⟨g, rfl⟩ := noH_some h
        obtain rfl : argTypes = #[ty] := by cases argTypes; simp_all
        obtain rfl : args = #[x0] := by cases args; simp_all
        obtain ⟨z, h1, h2⟩ := capB_sound (ty := ty0) g (hρ x0)
        exact .inl ⟨z, w, by simp [execOp, resolve, invoke, builtin, h1], N, ι, hI, Fwd.refl _ _ _ _, h2⟩
      · simp at h
    · rename_i x0 hnf
      split at h
      case h_3 => simp at h
      case h_2 =>
        rename_i rb dom G hx0
        obtain ⟨g, rfl⟩ := noH_some h
        have h5 := hρ x0
        rw [hx0] at h5
        cases h5 with
        | imm h5 =>
        obtain ⟨f, caps, fn, hv, f1, f2, f3, hc⟩ := callFn_sound hI (vs := args.toList.map ρ) g h5 (by simp) (fun i hi hv => by simpa using hρ _)
        refine .inr (.inr ⟨f, args.map ρ ++ caps, ?_, ?_⟩)
        · have g2 : ¬ fn.name = "runtime.NumGoroutine" := fun h => by rw [h] at f2; exact absurd f2 (by decide)
          have g3 : ¬ fn.body = none := fun h => by rw [h] at f3; cases f3
          simp [execOp, resolve, hv, Deferred.ofValue, invoke, callFunc, f1, g2, g3]
        · rw [show (args.toList.map ρ).toArray ++ caps = args.map ρ ++ caps by rw [← Array.toList_map, Array.toArray_toList]] at hc
          exact hc.mono fun e w' ⟨v, q1, q2, q3, q4⟩ => ⟨v, q1, N, ι, q2, q3, q4⟩
      rename_i f ds hx0
      simp only [Option.bind_eq_some_iff] at h
      obtain ⟨E, h1, h2⟩ := h
      split at h2
      case isFalse => simp at h2
      obtain ⟨g, rfl⟩ := noH_some h2
      obtain ⟨hm, rfl⟩ := findE_spec h1
      have hE := hX E hm
      have hmt := findE_meth h1
      obtain ⟨fn, f1, f2, f3⟩ := hE.fn hmt
      have h5 := hρ x0
      rw [hx0] at h5
      obtain ⟨us, hv, hl, hr⟩ : ∃ us : Array Value, ρ x0 = .func (.func E.f) #[] us ∧ us.size = ds.length ∧ ∀ i (hi : i < ds.length), RepD P w N ds[i] (us.getD i Go.undef) := by
        generalize ρ x0 = v at h5
        cases h5 with
        | imm h5 =>
        cases h5 with
        | clo _ _ us hl hr => exact ⟨us, rfl, hl, hr⟩
      have hc := CallsE.plain hmt <| callA_sound (vs := args.toList.map ρ ++ us.toList) (nid := 0) hE hI (callQ_callA g) (by simp [hl]) (fun i hi hv => by
        by_cases hlt : i < args.toList.length
        · rw [List.getElem_append_left (by simpa using hlt), List.getElem_append_left (by simpa using hlt)]
          simpa using hρ _
        · have hge : args.toList.length ≤ i := Nat.le_of_not_lt hlt
          rw [List.getElem_append_right (by simpa using hge), List.getElem_append_right (by simpa using hge)]
          simp only [List.length_append, List.length_map] at hi
          have hk : i - args.toList.length < ds.length := by omega
          have h6 := hr (i - args.toList.length) hk
          have e8 : ∀ q (h : q < us.size), us.getD q Go.undef = us.toList[q]'(by simpa using h) := fun q h => by simp [h]
          rw [e8 _ (by omega)] at h6
          simp only [List.length_map, List.getElem_map]
          exact .imm h6)
      refine .inr (.inr ⟨E.f, (args.map ρ) ++ us, ?_, ?_⟩)
      · have g2 : ¬ fn.name = "runtime.NumGoroutine" := fun h => by rw [h] at f2; exact absurd f2 (by decide)
        have g3 : ¬ fn.body = none := fun h => by rw [h] at f3; cases f3
        simp [execOp, resolve, hv, Deferred.ofValue, invoke, callFunc, f1, g2, g3]
      · have e7 : (args.toList.map ρ ++ us.toList).toArray = args.map ρ ++ us := by simp
        rw [e7] at hc
        exact hc.mono fun e w' ⟨v, N', ι', q1, q2, q3, q4⟩ => ⟨v, q1, N', ι', q2, q3, q4⟩
    · rename_i r nm
      simp only [Option.bind_eq_some_iff] at h
      obtain ⟨E, h1, h2⟩ := h
      obtain ⟨hm, hnm⟩ := findM_spec h1
      have hc := callF_sound (vs := ρ r :: args.toList.map ρ) (hX E hm) hI h2 (by simp) (fun i hi hv => by
        cases i with
        | zero => exact hρ r
        | succ i => simpa using hρ _)
      unfold CallsE at hc
      rw [hnm] at hc
      obtain ⟨ty, v, u, rest, f, c1, c2, ⟨fn, f1, f2, f3⟩, c4⟩ := hc
      have c1' := congrArg Array.toList c1
      simp only [Array.toList_append, List.cons_append, List.nil_append, List.cons.injEq] at c1'
      obtain ⟨c5, c6⟩ := c1'
      refine .inr (.inr ⟨f, #[u] ++ rest.toArray, ?_, ?_⟩)
      · have g2 : ¬ fn.name = "runtime.NumGoroutine" := fun h => by rw [h] at f2; exact absurd f2 (by decide)
        have g3 : ¬ fn.body = none := fun h => by rw [h] at f3; cases f3
        have e1 : (#[ρ r] ++ args.map ρ)[0]? = some (Value.iface ty v) := by
          rw [c5, Array.getElem?_append_left (by simp)]
          rfl
        have e2 : (#[ρ r] ++ args.map ρ).extract 1 (#[ρ r] ++ args.map ρ).size = rest.toArray := by
          rw [← c6]
          apply Array.ext'
          simp only [Array.toList_extract, Array.toList_append, Array.toList_map, List.extract_eq_take_drop, Array.size_append, Array.size_map]
          rw [List.take_of_length_le (by simp)]
          simp
        have e3 : (callFunc f (#[u] ++ rest.toArray)).run P w = .ok (.enter f (#[u] ++ rest.toArray)) w := by simp [callFunc, f1, g2, g3]
        have e4 : (callMethod (.iface ty v) nm rest.toArray).run P w = .ok (.enter f (#[u] ++ rest.toArray)) w := by
          unfold callMethod
          simp only [Sem.run_bind, run_program, Result.andThen_ok, c2, e3]
        have e5 : (invoke (.fn (.method nm) #[]) (#[ρ r] ++ args.map ρ)).run P w = .ok (.enter f (#[u] ++ rest.toArray)) w := by
          unfold invoke
          simp only [e1, e2, e4]
        simp only [execOp, resolve, Sem.run_bind, Sem.run_pure, Result.andThen_ok]
        exact e5
      · exact c4.mono fun e w' ⟨v, N', ι', q1, q2, q3, q4⟩ => ⟨v, q1, N', ι', q2, q3, q4⟩
    · obtain ⟨g, rfl⟩ := noH_some h
      obtain ⟨z, h1, h2⟩ := mmA_sound (P := P) (us := args.toList.map ρ) (ats := argTypes) (ty := ty0) g (by simp) fun i hi hu => by simpa using hρ _
      simp only [if_true] at h1
      rw [show (args.toList.map ρ).toArray = args.map ρ by rw [← Array.toList_map, Array.toArray_toList]] at h1
      exact .inl ⟨z, w, by simp [execOp, resolve, invoke, builtin, h1], N, ι, hI, Fwd.refl _ _ _ _, h2⟩
    · obtain ⟨g, rfl⟩ := noH_some h
      obtain ⟨z, h1, h2⟩ := mmA_sound (P := P) (us := args.toList.map ρ) (ats := argTypes) (ty := ty0) g (by simp) fun i hi hu => by simpa using hρ _
      simp only [Bool.false_eq_true, if_false] at h1
      rw [show (args.toList.map ρ).toArray = args.map ρ by rw [← Array.toList_map, Array.toArray_toList]] at h1
      exact .inl ⟨z, w, by simp [execOp, resolve, invoke, builtin, h1], N, ι, hI, Fwd.refl _ _ _ _, h2⟩
    · simp at h
end
/-- Operations that only look at rows. -/
def dataOp (o : Oper) : Bool :=
  match o.op with
  | .load .. | .slice .. | .indexAddr .. => true
  | .call c => match c.callee with
    | .builtin .len => true
    | _ => false
  | _ => false

/-- An operation; where it is known to look at data alone, it is handed no rows. -/
def opF (P : Program) (X : List Entry) (A : Ann) (o : Oper) (t : List AV) (H : Heap) : Option (AV × Heap) :=
  match litOf A o && dataOp o with
  | true => (opF1 P X A o t fun _ => none).map fun r => (r.1, H)
  | false => opF1 P X A o t H

theorem noH_mono {H H' : Heap} {x y : Option AV} {r : AV × Heap} (h : noH H x = some r) (hm : ∀ z, x = some z → y = some z) : noH H' y = some (r.1, H') := by
  obtain ⟨g, _⟩ := noH_some (y := r.1) (H' := r.2) h
  simp [noH, hm _ g]

theorem dataOp_mono {P : Program} {X : List Entry} {A : Ann} {o : Oper} {t : List AV} {H H' H2 : Heap} {x : AV} (hd : dataOp o = true) (hg : Grow H H2) (h : opF1 P X A o t H = some (x, H')) : opF1 P X A o t H2 = some (x, H2) := by
  obtain ⟨dst, op, ty0, pos, after, guard⟩ := o
  cases op <;> simp only [dataOp] at hd <;> try (simp at hd; done)
  case load ty a => simp only [opF1] at h ⊢; exact noH_mono h fun z hz => loadA_mono hg hz
  case slice t0 a lo hi mx =>
    cases mx <;> simp only [opF1] at h ⊢
    · exact noH_mono h fun z hz => sliceA_mono hg hz
    · simp at h
  case indexAddr ty a i => simp only [opF1] at h ⊢; exact noH_mono h fun z hz => indexAddrA_mono hg hz
  case call c =>
    obtain ⟨callee, args, argTypes⟩ := c
    simp only [opF1] at hd h ⊢
    split at hd
    · simp only at h ⊢
      split at h
      · exact noH_mono h fun z hz => lenA_mono hg hz
      · simp at h
    · simp at hd

theorem opF_is {P : Program} {X : List Entry} {A : Ann} {o : Oper} {t : List AV} {H H' : Heap} {x : AV} (h : opF P X A o t H = some (x, H')) : opF1 P X A o t H = some (x, H') := by
  unfold opF at h
  split at h
  · rename_i hb
    simp only [Bool.and_eq_true] at hb
    simp only [Option.map_eq_some_iff] at h
    obtain ⟨⟨y, H1⟩, h1, h2⟩ := h
    cases h2
    exact dataOp_mono hb.2 (fun _ _ h => by simp at h) h1
  · exact h

theorem opF_sound {P : Program} {w : World} {w0 : World} {S N0 : Nat → Prop} {N : Nat → Prop} {H : Heap} {ι : Place} {X : List Entry} (hX : ∀ E ∈ X, CallSpec P E) {A : Ann} {o : Oper} {t : List AV} {ρ : Operand → Value} {x : AV} {H' : Heap} (hI : Inv P w0 S N0 H w N ι) (hρ : ∀ x, RepA P w N H ι (evalA t x) (ρ x)) (hfun : ∀ f, ρ (.func f) = .func (.func f) #[] #[])
    (h : opF P X A o t H = some (x, H')) : Ends P ρ o w fun v w' => ∃ N' ι', Inv P w0 S N0 H' w' N' ι' ∧ Fwd N ι H w N' ι' H' w' ∧ RepA P w' N' H' ι' x v :=
  opF1_sound hX hI hρ hfun (opF_is h)
end Go.Ab
