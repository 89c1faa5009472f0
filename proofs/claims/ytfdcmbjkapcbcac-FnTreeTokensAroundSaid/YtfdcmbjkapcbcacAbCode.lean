/-
  AN ABSTRACT LAYER, 18: code; calls whose code is run where they stand; ranges over functions.
-/
import Derived.Test.YtfdcmbjkapcbcacAbK
import Derived.LoopN
namespace Go.Ab
variable {P : Program}

/-- What a state has beside its places: the types of the cells. -/
def cellTys (P : Program) : Nat → TypeId → List TypeId
  | 0, t => [t]
  | n + 1, t => match fieldsT P t with
    | some fs => fs.toList.flatMap fun f => cellTys P n f.type
    | none => [t]

/-- A function whose code may be run where it is called. -/
structure Inl where
  f : FuncId
  fn : Func
  A : Ann

def findI (I : List Inl) (f : FuncId) : Option Inl := I.find? (·.f == f)

def annOf (I : List Inl) (f : FuncId) : Ann := match findI I f with
  | some i => i.A
  | none => ⟨[], [], [], [], [], []⟩

/-- A call that is run where it stands. -/
inductive InlC where
  | fn (f : FuncId) (args : List AV)
  | yld (id : Nat) (args : List AV)

def inlOp (X : List Entry) (o : Oper) (t : List AV) : Option InlC :=
  match o.op with
  | .call c => match c.callee with
    | .value (.func f) => match findE X f with
      | some _ => none
      | none => some (.fn f (c.args.toList.map (evalA t)))
    | .value x => match evalA t x with
      | .clo f caps => some (.fn f (c.args.toList.map (evalA t) ++ caps))
      | .imm (.clo f ds) => match findE X f with
        | some _ => none
        | none => some (.fn f (c.args.toList.map (evalA t) ++ ds.map .imm))
      | .yld id => some (.yld id (c.args.toList.map (evalA t)))
      | _ => none
    | _ => none
  | _ => none

/-- What runs such calls. -/
structure Hds (R : Type) where
  fn : FuncId → List AV → St → (AV → St → Option R) → Option R
  yl : Nat → List AV → St → (AV → St → Option R) → Option R

def Hds.no {R : Type} : Hds R := ⟨fun _ _ _ _ => none, fun _ _ _ _ => none⟩

section
variable {R : Type}

/-- Which of the first n numbers is v? -/
def splitN (f : Int → Option R) (v : Int) : Nat → Nat → Option R
  | 0, _ => none
  | m + 1, q => match decide (v = (q : Int)) with
    | true => f q
    | false => splitN f v m (q + 1)

/-- An index into a short array is told apart. -/
def splitI (P : Program) (o : Oper) (s : St) (k : St → Option R) : Option R :=
  match o.op with
  | .indexAddr ty _ (.tmp i) => match arrT P ty, s.t[i]? with
    | some (n, _), some (.imm (.int kk v)) => splitN (fun q => k ⟨s.t.set i (.imm (.int kk q)), s.H, s.p, s.d⟩) v n 0
    | _, _ => k s
  | .index ty _ (.tmp i) => match arrT P ty, s.t[i]? with
    | some (n, _), some (.imm (.int kk v)) => splitN (fun q => k ⟨s.t.set i (.imm (.int kk q)), s.H, s.p, s.d⟩) v n 0
    | _, _ => k s
  | _ => k s

end

/-- A variable that is written no more: what points to it points to data. -/
def subP (id : Nat) (ds : List D) : AV → AV
  | .ptr id' i j => if id' = id then (if i = 0 then .dptr ds j else .dead) else .ptr id' i j
  | x => x

/-- A row that is written no more is data. -/
def subR (id : Nat) (k : IntKind) (xs : List Int) : AV → AV
  | .all id' s => if id' = id then .imm (.ints k xs) else .all id' s
  | x => x

def liveIn (H : Heap) (id : Nat) : Bool := match H id with
  | some .dead => false
  | some _ => true
  | none => false

/-- A row of data that is written no more is data. -/
def subQ (id : Nat) (s : Nat) (xs : List D) : AV → AV
  | .all id' s' => if id' = id then .imm (.seq s xs) else .all id' s'
  | x => x

/-- What was handed over to be turned is still there, and is not the row id. -/
def pinsOK (s : St) (id : Nat) : Bool := s.p.all fun x => match x with
  | .ptr id' 0 0 => id' != id && liveIn s.H id'
  | .all id' _ => id' != id && liveIn s.H id'
  | _ => false

/-- A row of integers that a cell names. -/
def rowIn (H : Heap) : AV → Option (Nat × IntKind × List Int)
  | .all id _ => match H id with
    | some (.ints k xs) => some (id, k, xs)
    | _ => none
  | _ => none

def freeze1 (np : Bool) (d : Nat) (s : St) : St :=
  match s.t[d]? with
  | some (.ptr id 0 0) => match s.H id with
    | some (.box cs) => match cs.mapM unImm with
      | some ds => if np || pinsOK s id then ⟨s.t.map (subP id ds), s.H.set id .dead, s.p.map (subP id ds), s.d⟩ else s
      | none => match cs.findSome? (rowIn s.H) with
        | some (id', k, xs) => if np || pinsOK s id' then ⟨s.t.map (subR id' k xs), (s.H.set id' .dead).set id (.box (cs.map (subR id' k xs))), s.p.map (subR id' k xs), s.d⟩ else s
        | none => s
    | _ => s
  | some (.all id _) => match s.H id with
    | some (.ints k xs) => if np || pinsOK s id then ⟨s.t.map (subR id k xs), s.H.set id .dead, s.p.map (subR id k xs), s.d⟩ else s
    | some (.ds sz xs) => if np || pinsOK s id then ⟨s.t.map (subQ id sz xs), s.H.set id .dead, s.p.map (subQ id sz xs), s.d⟩ else s
    | _ => s
  | _ => s

def freeze (np : Bool) (ds : List Nat) (s : St) : St := ds.foldl (fun s d => freeze1 np d s) s


/-- What is frozen ahead of one operation. -/
def hookAt (A : Ann) (o : Oper) : List Nat := bif inlOf A o then (match o.dst with | some d => frzAt A (3000000 + d) | none => []) else []

section
variable {R : Type}

/-- One operation. -/
def doOp1 (P : Program) (X : List Entry) (A : Ann) (h : Hds R) (o : Oper) (s : St) (k : AV → St → Option R) : Option R :=
  match inlOp X o s.t with
  | some (.fn f as) => h.fn f as s k
  | some (.yld id as) => h.yl id as s k
  | none => splitI P o s fun s => opK P X A o s.t s.H fun x H' => k x ⟨s.t, H', s.p, s.d⟩

def doOp (P : Program) (X : List Entry) (A : Ann) (h : Hds R) (o : Oper) (s : St) (k : AV → St → Option R) : Option R := bif dynAt A o s.t then doOp1 P X A h o (freeze false (hookAt A o) s) k else none

def opsI (P : Program) (X : List Entry) (A : Ann) (h : Oper → Hds R) (ops : Array Oper) : List Oper → St → (St → Option R) → Option R
  | [], s, k => k s
  | o :: rest, s, k =>
    match o.guard with
    | none => doOp P X A (h o) o s fun x s' => opsI P X A h ops rest ⟨putA s'.t o.dst x, s'.H, s'.p, s'.d⟩ k
    | some (j, want) => match (ops[j]?).bind (·.dst) with
      | none => opsI P X A h ops rest ⟨putA s.t o.dst .undef, s.H, s.p, s.d⟩ k
      | some d => match s.t[d]? with
        | none => opsI P X A h ops rest ⟨putA s.t o.dst .undef, s.H, s.p, s.d⟩ k
        | some .undef => opsI P X A h ops rest ⟨putA s.t o.dst .undef, s.H, s.p, s.d⟩ k
        | some (.imm (.bool b)) => match b with
          | true => if want then doOp P X A (h o) o ⟨s.t.set d (.imm (.bool true)), s.H, s.p, s.d⟩ fun x s' => opsI P X A h ops rest ⟨putA s'.t o.dst x, s'.H, s'.p, s'.d⟩ k
            else opsI P X A h ops rest ⟨putA (s.t.set d (.imm (.bool true))) o.dst .undef, s.H, s.p, s.d⟩ k
          | false => if want then opsI P X A h ops rest ⟨putA (s.t.set d (.imm (.bool false))) o.dst .undef, s.H, s.p, s.d⟩ k
            else doOp P X A (h o) o ⟨s.t.set d (.imm (.bool false)), s.H, s.p, s.d⟩ fun x s' => opsI P X A h ops rest ⟨putA s'.t o.dst x, s'.H, s'.p, s'.d⟩ k
        | _ => none

def forget (ds : List Nat) (s : St) : St := ⟨ds.foldl (fun t d => t.set d .dead) s.t, s.H, s.p, s.d⟩

def ordAt (A : Ann) (id n : Nat) : List Nat := ((A.ord.find? (·.1 == id)).map (·.2)).getD (List.range n)

def dropsAt (A : Ann) (id : Nat) : List Nat := ((A.drop.find? (·.1 == id)).map (·.2)).getD []

/-- The rows that are named. -/
def refs : AV → List Nat
  | .row id _ _ _ => [id]
  | .all id _ => [id]
  | .ptr id _ _ => [id]
  | .yld id => [id]
  | .dfr id => [id]
  | .agg cs => refsL cs
  | .tup cs => refsL cs
  | .clo _ cs => refsL cs
  | _ => []
where refsL : List AV → List Nat
  | [] => []
  | c :: cs => refs c ++ refsL cs

def baseId : Nat := 1000000000

def renId (L : List Nat) (id : Nat) : Option Nat := match L.idxOf id with
  | k => if k < L.length then some (baseId + k) else none

mutual
def ren (L : List Nat) : AV → AV
  | .row id s o l => match renId L id with | some n => .row n s o l | none => .dead
  | .all id s => match renId L id with | some n => .all n s | none => .dead
  | .ptr id i j => match renId L id with | some n => .ptr n i j | none => .dead
  | .yld id => match renId L id with | some n => .yld n | none => .dead
  | .dfr id => match renId L id with | some n => .dfr n | none => .dead
  | .agg cs => .agg (renL L cs)
  | .tup cs => .tup (renL L cs)
  | .clo f cs => .clo f (renL L cs)
  | .imm d => .imm d
  | .eptr d i j => .eptr d i j
  | .dptr cs j => .dptr cs j
  | .undef => .undef
  | .dead => .dead
def renL (L : List Nat) : List AV → List AV
  | [] => []
  | c :: cs => ren L c :: renL L cs
end

def renRow (L : List Nat) : Row → Row
  | .box cs => .box (renL L cs)
  | .loop me ts ps as bd st => .loop me (renL L ts) ps as bd st
  | r => r

/-- Rows by a list. -/
def hOf (l : List (Nat × Row)) : Heap := fun x => (l.find? (·.1 == x)).map (·.2)

def rowsFrom (L : List Nat) (H : Heap) : Nat → List Nat → List (Nat × Row)
  | _, [] => []
  | n, id :: ids => match H id with
    | some r => (n, renRow L r) :: rowsFrom L H (n + 1) ids
    | none => rowsFrom L H (n + 1) ids

def boxRefs (H : Heap) (id : Nat) : List Nat := match H id with
  | some (.box cs) => refs.refsL cs
  | some (.loop _ ts _ _ _ _) => refs.refsL ts
  | _ => []

/-- Each number once. -/
def once : List Nat → List Nat
  | [] => []
  | x :: xs => if (once xs).contains x then once xs else x :: once xs

/-- Rows under new names, in the order in which they are met; what nobody names is forgotten. -/
def tidy (s : St) : St :=
  let L0 := refs.refsL s.p ++ refs.refsL s.t ++ refs.refsL s.d
  let L1 := L0.flatMap (boxRefs s.H)
  let L := once ((L0 ++ L1 ++ L1.flatMap (boxRefs s.H)).filter (liveIn s.H))
  ⟨renL L s.t, hOf (rowsFrom L s.H baseId L), renL L s.p, renL L s.d⟩

/-- The first region of a piece of code. -/
def firstId : Code → Option Nat
  | .region id _ _ => some id
  | .seq a b => match firstId a with | some i => some i | none => firstId b
  | .block _ c | .loop c | .scope c => firstId c
  | .cond _ a b => match firstId a with | some i => some i | none => firstId b
  | .rangeFunc _ _ a b => match firstId a with | some i => some i | none => firstId b
  | _ => none

/-- What is done at a loop's head. -/
def atHead (A : Ann) (c : Code) (s : St) : St :=
  match firstId c with
  | some i => tidy (forget (dropsAt A (1000000 + i)) s)
  | none => tidy s

def loopI (body : St → (Ex → St → Option R) → Option R) (nrm : St → St) : Nat → St → (Ex → St → Option R) → Option R
  | 0, _, _ => none
  | n + 1, s, k => body s fun e s' => match e with
    | .normal => loopI body nrm n (nrm s') k
    | e => k e s'

/-- The names of the rows of a range over a function. -/
def loopId (a b : Code) : Nat := match firstId a with
  | some i => 4000000000 + 2 * i
  | none => match firstId b with
    | some i => 4000000000 + 2 * i
    | none => 4000000000

/-- A function value whose code is known. -/
def cloOf : AV → Option (FuncId × List AV)
  | .clo f caps => some (f, caps)
  | .imm (.clo f ds) => some (f, ds.map .imm)
  | _ => none

/-- Behind a range over a function. -/
def endRange (k : Ex → St → Option R) (s : St) : Option R :=
  match s.p with
  | .yld id :: p => match s.H id with
    | some (.loop _ _ _ _ _ .ready) => k .normal ⟨s.t, s.H.set id .dead, p, s.d⟩
    | some (.loop _ _ _ _ _ (.done .ret)) => k .ret ⟨s.t, s.H.set id .dead, p, s.d⟩
    | some (.loop _ _ _ _ _ (.done (.exit i))) => k (.exit i) ⟨s.t, s.H.set id .dead, p, s.d⟩
    | _ => none
  | _ => none

def rangeI (h : Hds R) (me : FuncId) (g : Operand) (ps : Array Tmp) (as bd : Code) (s : St) (k : Ex → St → Option R) : Option R :=
  match cloOf (evalA s.t g) with
  | some (f, caps) => match s.H (loopId as bd), s.H (loopId as bd + 1) with
    | none, none => h.fn f (.yld (loopId as bd + 1) :: caps) ⟨s.t, (s.H.set (loopId as bd) .dfr).set (loopId as bd + 1) (.loop me s.t ps.toList as bd .ready), .yld (loopId as bd + 1) :: s.p, .dfr (loopId as bd) :: s.d⟩ fun _ s' => endRange k s'
    | _, _ => none
  | none => none

def codeI (P : Program) (X : List Entry) (I : List Inl) (h : Hds R) (fuel : Nat) (np rd : Bool) (me : FuncId) : Code → St → (Ex → St → Option R) → Option R
  | .skip, s, k => k .normal s
  | .label _, s, k => k .normal s
  | .region id ops draw, s, k => match draw with
    | false => opsI P X (annOf I me) (fun _ => h) ops ops.toList (freeze np (frzAt (annOf I me) id) (forget (dropsAt (annOf I me) id) s)) fun s' => k .normal s'
    | true => if drawOK X (annOf I me) ops (ordAt (annOf I me) id ops.size) then opsI P X (annOf I me) (fun o => bif inlOf (annOf I me) o then h else Hds.no) ops (pickOps ops (ordAt (annOf I me) id ops.size)) (freeze np (frzAt (annOf I me) id) (forget (dropsAt (annOf I me) id) s)) fun s' => k .normal s' else none
  | .seq a b, s, k => codeI P X I h fuel np rd me a s fun e s' => match e with
    | .normal => codeI P X I h fuel np rd me b s' k
    | e => k e s'
  | .cond c x y, s, k => match c with
    | .const (.bool b) => match b with
      | true => codeI P X I h fuel np rd me x s k
      | false => codeI P X I h fuel np rd me y s k
    | .tmp d => match s.t[d]? with
      | some (.imm (.bool b)) => match b with
        | true => codeI P X I h fuel np rd me x ⟨s.t.set d (.imm (.bool true)), s.H, s.p, s.d⟩ k
        | false => codeI P X I h fuel np rd me y ⟨s.t.set d (.imm (.bool false)), s.H, s.p, s.d⟩ k
      | _ => none
    | _ => none
  | .block id c, s, k => codeI P X I h fuel np rd me c s fun e s' => match e with
    | .exit i => if i = id then k .normal s' else k (.exit i) s'
    | e => k e s'
  | .loop c, s, k => loopI (codeI P X I h fuel np rd me c) (atHead (annOf I me) c) fuel (atHead (annOf I me) c s) k
  | .exit id, s, k => k (.exit id) s
  | .ret, s, k => k .ret s
  | .rangeFunc g ps as bd, s, k => match rd with
    | true => none
    | false => rangeI h me g ps as bd s k
  | _, _, _ => none

/-- The marks are run. -/
def leaveD : List AV → Heap → Option Heap
  | [], H => some H
  | .dfr id :: d, H => match H id with
    | some .dfr => leaveD d (H.set id .dead)
    | _ => none
  | _, _ => none

def resAV (P : Program) (s : St) : ResultVar → Option AV
  | .tmp t => s.t[t]?
  | .cell a ty => loadA P ty s.H (evalA s.t (.tmp a))

/-- A value and a state, rows under new names. -/
def tidyV {R : Type} (x : AV) (s : St) (k : AV → St → Option R) : Option R :=
  match tidy ⟨s.t, s.H, x :: s.p, s.d⟩ with
  | ⟨t, H, x :: p, d⟩ => k x ⟨t, H, p, d⟩
  | _ => none

/-- At the end of a function whose code was run where it was called. -/
def endFn (P : Program) (fn : Func) (n : Nat) (k : AV → St → Option R) (e : Ex) (s : St) : Option R :=
  match e with
  | .exit _ => none
  | _ => (leaveD s.d s.H).bind fun H => (fn.results.toList.mapM (resAV P ⟨s.t, H, s.p, []⟩)).bind fun xs => match s.p.drop n with
    | .tup d :: p => tidyV (packA xs) ⟨s.p.take n, H, p, d⟩ k
    | _ => none

def fnH (P : Program) (I : List Inl) (run : FuncId → Code → St → (Ex → St → Option R) → Option R) (f : FuncId) (as : List AV) (s : St) (k : AV → St → Option R) : Option R :=
  match findI I f with
  | some i => match i.fn.body with
    | some c => run f c (tidy ⟨as ++ List.replicate (i.fn.ntmps - as.length) .undef, s.H, s.t ++ .tup s.d :: s.p, []⟩) (endFn P i.fn s.t.length k)
    | none => none
  | none => none

def setPs : List Tmp → List AV → List AV → List AV
  | p :: ps, a :: as, t => setPs ps as (t.set p a)
  | _, _, t => t

def Ex.isNormal : Ex → Bool
  | .normal => true
  | _ => false

def Ex.after : Ex → LSt
  | .normal => .ready
  | e => .done e

/-- The end of a round. -/
def endRound (n : Nat) (k : AV → St → Option R) (e : Ex) (s : St) : Option R :=
  match s.p with
  | .yld id :: q => match s.H id with
    | some (.loop me ts ps as bd .busy) => match q.drop n with
      | .tup d :: p => tidyV (.imm (.bool e.isNormal)) ⟨q.take n, s.H.set id (.loop me ts ps as bd e.after), p, d⟩ k
      | _ => none
    | _ => none
  | _ => none

/-- Behind the assignments at a round's beginning. -/
def midRound (run : FuncId → Code → St → (Ex → St → Option R) → Option R) (me : FuncId) (bd : Code) (n : Nat) (k : AV → St → Option R) (e : Ex) (s : St) : Option R :=
  match e, s.p with
  | .normal, .yld id :: _ => match s.H id with
    | some (.loop me' ts ps as' bd' .ready) => run me bd ⟨s.t, s.H.set id (.loop me' ts ps as' bd' .busy), s.p, s.d⟩ (endRound n k)
    | _ => none
  | _, _ => none

def ylH (run : FuncId → Code → St → (Ex → St → Option R) → Option R) (id : Nat) (as : List AV) (s : St) (k : AV → St → Option R) : Option R :=
  match s.H id with
  | some (.loop me ts ps asg bd .ready) =>
    if as.length = ps.length then run me asg (tidy ⟨setPs ps as ts, s.H, .yld id :: (s.t ++ .tup s.d :: s.p), []⟩) (midRound run me bd s.t.length k) else none
  | _ => none

/-- Code, calls run where they stand up to some depth. -/
def codeN (P : Program) (X : List Entry) (I : List Inl) (fuel : Nat) (np : Bool) : Nat → Bool → FuncId → Code → St → (Ex → St → Option R) → Option R
  | 0, rd, me => codeI P X I Hds.no fuel np rd me
  | d + 1, rd, me => codeI P X I ⟨fnH P I (codeN P X I fuel np d false), ylH (codeN P X I fuel np d true)⟩ fuel np rd me
end

section
variable {R : Type} {P : Program} {X : List Entry} {A : Ann} {w0 : World} {S N0 : Nat → Prop} {pv : List Value}

theorem set_self {t : List AV} {i : Nat} {x : AV} (h : t[i]? = some x) : t.set i x = t := by
  obtain ⟨hlt, rfl⟩ := List.getElem?_eq_some_iff.1 h
  exact List.set_getElem_self hlt

theorem splitN_spec {f : Int → Option R} {v : Int} {r : R} : ∀ (m q : Nat), splitN f v m q = some r → f v = some r
  | 0, q, h => by simp [splitN] at h
  | m + 1, q, h => by
    unfold splitN at h
    split at h
    · rename_i hd
      rw [of_decide_eq_true hd]
      exact h
    · exact splitN_spec m (q + 1) h

theorem splitI_spec {o : Oper} {s : St} {k : St → Option R} {r : R} (h : splitI P o s k = some r) : k s = some r := by
  unfold splitI at h
  split at h
  · split at h
    · rename_i hi
      have := splitN_spec _ _ h
      rw [set_self hi] at this
      exact this
    · exact h
  · split at h
    · rename_i hi
      have := splitN_spec _ _ h
      rw [set_self hi] at this
      exact this
    · exact h
  · exact h

/-- Where no call is run where it stands. -/
theorem doOp_no {o : Oper} {s : St} {k : AV → St → Option R} {r : R} (hi : inlOf A o = false) (h : doOp P X A Hds.no o s k = some r) : ∃ x H', opF P X A o s.t s.H = some (x, H') ∧ k x ⟨s.t, H', s.p, s.d⟩ = some r ∧ dynAt A o s.t = true := by
  unfold doOp hookAt at h
  cases hd : dynAt A o s.t with
  | false => rw [hd] at h; cases h
  | true =>
  rw [hi, hd] at h
  simp only [cond_true, cond_false, freeze, List.foldl_nil] at h
  unfold doOp1 at h
  split at h
  · simp [Hds.no] at h
  · simp [Hds.no] at h
  · obtain ⟨x, H', h1, h2⟩ := opK_spec (splitI_spec h)
    exact ⟨x, H', h1, h2, rfl⟩

/-- The first of some operations, no call that is run where it stands. -/
theorem opsI_cons {h : Oper → Hds R} {ops : Array Oper} {o : Oper} {l : List Oper} {s : St} {k : St → Option R} {r : R} (hn : h o = Hds.no) (hi : inlOf A o = false) (hr : opsI P X A h ops (o :: l) s k = some r) : ∃ s1, stepF P X A ops o s = some s1 ∧ opsI P X A h ops l s1 k = some r ∧ (wantedA ops o s.t = some true → dynAt A o s.t = true) := by
  have go : ∀ s : St, wantedA ops o s.t = some true → (doOp P X A (h o) o s fun x s' => opsI P X A h ops l ⟨putA s'.t o.dst x, s'.H, s'.p, s'.d⟩ k) = some r → ∃ s1, stepF P X A ops o s = some s1 ∧ opsI P X A h ops l s1 k = some r ∧ (wantedA ops o s.t = some true → dynAt A o s.t = true) := by
    intro s hw hr
    rw [hn] at hr
    obtain ⟨x, H', h1, h2, h3⟩ := doOp_no hi hr
    exact ⟨_, by simp only [stepF, hw, h1, Option.map_some], h2, fun _ => h3⟩
  have skip : ∀ s : St, wantedA ops o s.t = some false → opsI P X A h ops l ⟨putA s.t o.dst .undef, s.H, s.p, s.d⟩ k = some r → ∃ s1, stepF P X A ops o s = some s1 ∧ opsI P X A h ops l s1 k = some r ∧ (wantedA ops o s.t = some true → dynAt A o s.t = true) := by
    intro s hw hr
    exact ⟨_, by simp only [stepF, hw], hr, fun e => by rw [hw] at e; cases e⟩
  unfold opsI at hr
  split at hr
  · rename_i hg
    exact go s (by simp [wantedA, hg]) hr
  · rename_i j want hg
    split at hr
    · rename_i hd
      exact skip s (by simp [wantedA, hg, hd]) hr
    · rename_i d hd
      split at hr
      · rename_i ht
        exact skip s (by simp [wantedA, hg, hd, ht]) hr
      · rename_i ht
        exact skip s (by simp [wantedA, hg, hd, ht]) hr
      · rename_i b ht
        split at hr
        · rename_i b'
          rw [set_self ht] at hr
          split at hr
          · rename_i hw
            exact go s (by simp [wantedA, hg, hd, ht, hw]) hr
          · rename_i hw
            exact skip s (by simp [wantedA, hg, hd, ht, hw]) hr
        · rename_i b'
          rw [set_self ht] at hr
          split at hr
          · rename_i hw
            exact skip s (by simp [wantedA, hg, hd, ht, hw]) hr
          · rename_i hw
            exact go s (by simp [wantedA, hg, hd, ht, hw]) hr
      · simp at hr

theorem forget_rel {s : St} {a : Act} {w : World} (h : Rel P w0 S N0 pv s a w) (ds : List Nat) : Rel P w0 S N0 pv (forget ds s) a w := by
  unfold forget
  induction ds generalizing s with
  | nil => exact h
  | cons d ds ih =>
    obtain ⟨N, ι, hI, hd, hs, ht, hpl, hp⟩ := h
    exact ih (s := ⟨s.t.set d .dead, s.H, s.p, s.d⟩) ⟨N, ι, hI, hd, by simpa using hs, fun i hi => by
      simp only [List.length_set] at hi
      simp only [List.getElem_set]
      split
      · exact .dead
      · exact ht i hi, hpl, hp⟩
end
end Go.Ab
