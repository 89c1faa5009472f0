/-
  AN ABSTRACT LAYER, 18: code.
-/
import Derived.Test.YtijjoekejjnodadAbK
import Derived.LoopN
namespace Go.Ab

inductive Ex where
  | normal
  | exit (id : Nat)
  | ret

def Ex.to : Ex → Exit
  | .normal => .normal
  | .exit id => .exit id
  | .ret => .ret

section
variable {R : Type}

/-- Which of the first n numbers is v? -/
def splitN (f : Int → Option R) (v : Int) : Nat → Nat → Option R
  | 0, _ => none
  | m + 1, q => match decide (v = (q : Int)) with
    | true => f q
    | false => splitN f v m (q + 1)

/-- An index into a short array is told apart. -/
def splitI (P : Program) (o : Oper) (s : St) (k : St → Option R) : Option R :=
  match o.op with
  | .indexAddr ty _ (.tmp i) => match arrT P ty, s.t[i]? with
    | some (n, _), some (.imm (.int kk v)) => splitN (fun q => k ⟨s.t.set i (.imm (.int kk q)), s.H, s.p⟩) v n 0
    | _, _ => k s
  | .index ty _ (.tmp i) => match arrT P ty, s.t[i]? with
    | some (n, _), some (.imm (.int kk v)) => splitN (fun q => k ⟨s.t.set i (.imm (.int kk q)), s.H, s.p⟩) v n 0
    | _, _ => k s
  | _ => k s

def opsI (P : Program) (X : List Entry) (A : Ann) (ops : Array Oper) : List Oper → St → (St → Option R) → Option R
  | [], s, k => k s
  | o :: rest, s, k =>
    match o.guard with
    | none => splitI P o s fun s => opK P X A o s.t s.H fun x H' => opsI P X A ops rest ⟨putA s.t o.dst x, H', s.p⟩ k
    | some (j, want) => match (ops[j]?).bind (·.dst) with
      | none => opsI P X A ops rest ⟨putA s.t o.dst .undef, s.H, s.p⟩ k
      | some d => match s.t[d]? with
        | none => opsI P X A ops rest ⟨putA s.t o.dst .undef, s.H, s.p⟩ k
        | some .undef => opsI P X A ops rest ⟨putA s.t o.dst .undef, s.H, s.p⟩ k
        | some (.imm (.bool b)) => match b with
          | true => if want then splitI P o ⟨s.t.set d (.imm (.bool true)), s.H, s.p⟩ fun s => opK P X A o s.t s.H fun x H' => opsI P X A ops rest ⟨putA s.t o.dst x, H', s.p⟩ k
            else opsI P X A ops rest ⟨putA (s.t.set d (.imm (.bool true))) o.dst .undef, s.H, s.p⟩ k
          | false => if want then opsI P X A ops rest ⟨putA (s.t.set d (.imm (.bool false))) o.dst .undef, s.H, s.p⟩ k
            else splitI P o ⟨s.t.set d (.imm (.bool false)), s.H, s.p⟩ fun s => opK P X A o s.t s.H fun x H' => opsI P X A ops rest ⟨putA s.t o.dst x, H', s.p⟩ k
        | _ => none

def forget (ds : List Nat) (s : St) : St := ⟨ds.foldl (fun t d => t.set d .dead) s.t, s.H, s.p⟩

/-- A variable that is written no more: what points to it points to data. -/
def subP (id : Nat) (ds : List D) : AV → AV
  | .ptr id' i j => if id' = id then (if i = 0 then .dptr ds j else .dead) else .ptr id' i j
  | x => x

def freeze1 (d : Nat) (s : St) : St :=
  match s.t[d]? with
  | some (.ptr id 0 0) => match s.H id with
    | some (.box cs) => match cs.mapM unImm with
      | some ds => ⟨s.t.map (subP id ds), s.H.set id .dead, s.p.map (subP id ds)⟩
      | none => s
    | _ => s
  | _ => s

def freeze (ds : List Nat) (s : St) : St := ds.foldl (fun s d => freeze1 d s) s

def frzAt (A : Ann) (id : Nat) : List Nat := ((A.frz.find? (·.1 == id)).map (·.2)).getD []

def ordAt (A : Ann) (id n : Nat) : List Nat := ((A.ord.find? (·.1 == id)).map (·.2)).getD (List.range n)

def dropsAt (A : Ann) (id : Nat) : List Nat := ((A.drop.find? (·.1 == id)).map (·.2)).getD []

/-- The rows that are named. -/
def refs : AV → List Nat
  | .row id _ _ _ => [id]
  | .all id _ => [id]
  | .ptr id _ _ => [id]
  | .agg cs => refsL cs
  | .tup cs => refsL cs
  | _ => []
where refsL : List AV → List Nat
  | [] => []
  | c :: cs => refs c ++ refsL cs

def baseId : Nat := 1000000000

def renId (L : List Nat) (id : Nat) : Option Nat := match L.idxOf id with
  | k => if k < L.length then some (baseId + k) else none

mutual
def ren (L : List Nat) : AV → AV
  | .row id s o l => match renId L id with | some n => .row n s o l | none => .dead
  | .all id s => match renId L id with | some n => .all n s | none => .dead
  | .ptr id i j => match renId L id with | some n => .ptr n i j | none => .dead
  | .agg cs => .agg (renL L cs)
  | .tup cs => .tup (renL L cs)
  | .imm d => .imm d
  | .eptr d i j => .eptr d i j
  | .dptr cs j => .dptr cs j
  | .undef => .undef
  | .dead => .dead
def renL (L : List Nat) : List AV → List AV
  | [] => []
  | c :: cs => ren L c :: renL L cs
end

def renRow (L : List Nat) : Row → Row
  | .box cs => .box (renL L cs)
  | r => r

/-- Rows by a list. -/
def hOf (l : List (Nat × Row)) : Heap := fun x => (l.find? (·.1 == x)).map (·.2)

def rowsFrom (L : List Nat) (H : Heap) : Nat → List Nat → List (Nat × Row)
  | _, [] => []
  | n, id :: ids => match H id with
    | some r => (n, renRow L r) :: rowsFrom L H (n + 1) ids
    | none => rowsFrom L H (n + 1) ids

def liveIn (H : Heap) (id : Nat) : Bool := match H id with
  | some .dead => false
  | some _ => true
  | none => false

def boxRefs (H : Heap) (id : Nat) : List Nat := match H id with
  | some (.box cs) => refs.refsL cs
  | _ => []

/-- Each number once. -/
def once : List Nat → List Nat
  | [] => []
  | x :: xs => if (once xs).contains x then once xs else x :: once xs

/-- Rows under new names, in the order in which they are met; what nobody names is forgotten. -/
def tidy (s : St) : St :=
  let L0 := refs.refsL s.p ++ refs.refsL s.t
  let L1 := L0 ++ L0.flatMap (boxRefs s.H)
  let L := once (L1.filter (liveIn s.H))
  ⟨renL L s.t, hOf (rowsFrom L s.H baseId L), renL L s.p⟩

/-- The first region of a piece of code. -/
def firstId : Code → Option Nat
  | .region id _ _ => some id
  | .seq a b => match firstId a with | some i => some i | none => firstId b
  | .block _ c | .loop c | .scope c => firstId c
  | .cond _ a b => match firstId a with | some i => some i | none => firstId b
  | _ => none

/-- What is done at a loop's head. -/
def atHead (A : Ann) (c : Code) (s : St) : St :=
  match firstId c with
  | some i => tidy (forget (dropsAt A (1000000 + i)) s)
  | none => tidy s

def loopI (body : St → (Ex → St → Option R) → Option R) (nrm : St → St) : Nat → St → (Ex → St → Option R) → Option R
  | 0, _, _ => none
  | n + 1, s, k => body s fun e s' => match e with
    | .normal => loopI body nrm n (nrm s') k
    | e => k e s'

def codeI (P : Program) (X : List Entry) (A : Ann) (fuel : Nat) : Code → St → (Ex → St → Option R) → Option R
  | .skip, s, k => k .normal s
  | .label _, s, k => k .normal s
  | .region id ops draw, s, k => match draw with
    | false => opsI P X A ops ops.toList (freeze (frzAt A id) (forget (dropsAt A id) s)) fun s' => k .normal s'
    | true => if drawOK X A ops (ordAt A id ops.size) then opsI P X A ops (pickOps ops (ordAt A id ops.size)) (freeze (frzAt A id) (forget (dropsAt A id) s)) fun s' => k .normal s' else none
  | .seq a b, s, k => codeI P X A fuel a s fun e s' => match e with
    | .normal => codeI P X A fuel b s' k
    | e => k e s'
  | .cond c x y, s, k => match c with
    | .const (.bool b) => match b with
      | true => codeI P X A fuel x s k
      | false => codeI P X A fuel y s k
    | .tmp d => match s.t[d]? with
      | some (.imm (.bool b)) => match b with
        | true => codeI P X A fuel x ⟨s.t.set d (.imm (.bool true)), s.H, s.p⟩ k
        | false => codeI P X A fuel y ⟨s.t.set d (.imm (.bool false)), s.H, s.p⟩ k
      | _ => none
    | _ => none
  | .block id c, s, k => codeI P X A fuel c s fun e s' => match e with
    | .exit i => if i = id then k .normal s' else k (.exit i) s'
    | e => k e s'
  | .loop c, s, k => loopI (codeI P X A fuel c) (atHead A c) fuel (atHead A c s) k
  | .exit id, s, k => k (.exit id) s
  | .ret, s, k => k .ret s
  | _, _, _ => none
end

section
variable {R : Type} {P : Program} {X : List Entry} {A : Ann} {w0 : World} {S N0 : Nat → Prop} {pv : List Value}

theorem set_self {t : List AV} {i : Nat} {x : AV} (h : t[i]? = some x) : t.set i x = t := by
  obtain ⟨hlt, rfl⟩ := List.getElem?_eq_some_iff.1 h
  exact List.set_getElem_self hlt

theorem splitN_spec {f : Int → Option R} {v : Int} {r : R} : ∀ (m q : Nat), splitN f v m q = some r → f v = some r
  | 0, q, h => by simp [splitN] at h
  | m + 1, q, h => by
    unfold splitN at h
    split at h
    · rename_i hd
      rw [of_decide_eq_true hd]
      exact h
    · exact splitN_spec m (q + 1) h

theorem splitI_spec {o : Oper} {s : St} {k : St → Option R} {r : R} (h : splitI P o s k = some r) : k s = some r := by
  unfold splitI at h
  split at h
  · split at h
    · rename_i hi
      have := splitN_spec _ _ h
      rw [set_self hi] at this
      exact this
    · exact h
  · split at h
    · rename_i hi
      have := splitN_spec _ _ h
      rw [set_self hi] at this
      exact this
    · exact h
  · exact h

theorem opsI_spec {ops : Array Oper} {r : R} : ∀ (l : List Oper) (s : St) (k : St → Option R), opsI P X A ops l s k = some r → ∃ s', opsF P X A ops l s = some s' ∧ k s' = some r
  | [], s, k, h => ⟨s, rfl, h⟩
  | o :: l, s, k, h => by
    have go : ∀ s, wantedA ops o s.t = some true → (splitI P o s fun s => opK P X A o s.t s.H fun x H' => opsI P X A ops l ⟨putA s.t o.dst x, H', s.p⟩ k) = some r → ∃ s', opsF P X A ops (o :: l) s = some s' ∧ k s' = some r := by
      intro s hw h
      have h := splitI_spec h
      obtain ⟨x, H', h1, h2⟩ := opK_spec h
      obtain ⟨s', h3, h4⟩ := opsI_spec l _ k h2
      exact ⟨s', by simp only [opsF, stepF, hw, h1, Option.map_some, Option.bind_some]; exact h3, h4⟩
    have skip : ∀ s : St, wantedA ops o s.t = some false → opsI P X A ops l ⟨putA s.t o.dst .undef, s.H, s.p⟩ k = some r → ∃ s', opsF P X A ops (o :: l) s = some s' ∧ k s' = some r := by
      intro s hw h
      obtain ⟨s', h3, h4⟩ := opsI_spec l _ k h
      exact ⟨s', by simp only [opsF, stepF, hw, Option.bind_some]; exact h3, h4⟩
    unfold opsI at h
    split at h
    · rename_i hg
      exact go s (by simp [wantedA, hg]) h
    · rename_i j want hg
      split at h
      · rename_i hd
        exact skip s (by simp [wantedA, hg, hd]) h
      · rename_i d hd
        split at h
        · rename_i ht
          exact skip s (by simp [wantedA, hg, hd, ht]) h
        · rename_i ht
          exact skip s (by simp [wantedA, hg, hd, ht]) h
        · rename_i b ht
          split at h
          · rename_i b'
            rw [set_self ht] at h
            split at h
            · rename_i hw
              exact go s (by simp [wantedA, hg, hd, ht, hw]) h
            · rename_i hw
              exact skip s (by simp [wantedA, hg, hd, ht, hw]) h
          · rename_i b'
            rw [set_self ht] at h
            split at h
            · rename_i hw
              exact skip s (by simp [wantedA, hg, hd, ht, hw]) h
            · rename_i hw
              exact go s (by simp [wantedA, hg, hd, ht, hw]) h
        · simp at h

theorem forget_rel {s : St} {a : Act} {w : World} (h : Rel w0 S N0 pv s a w) (ds : List Nat) : Rel w0 S N0 pv (forget ds s) a w := by
  unfold forget
  induction ds generalizing s with
  | nil => exact h
  | cons d ds ih =>
    obtain ⟨N, ι, hI, hd, hs, ht, hpl, hp⟩ := h
    exact ih (s := ⟨s.t.set d .dead, s.H, s.p⟩) ⟨N, ι, hI, hd, by simpa using hs, fun i hi => by
      simp only [List.length_set] at hi
      simp only [List.getElem_set]
      split
      · exact .dead
      · exact ht i hi, hpl, hp⟩
end
end Go.Ab
