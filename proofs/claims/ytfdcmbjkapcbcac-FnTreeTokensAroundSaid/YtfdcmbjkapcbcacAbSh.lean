/-
  AN ABSTRACT LAYER, 6b: the cells of data, seen by the shapes that their types give them.
-/
import Derived.Test.YtfdcmbjkapcbcacAbOp4
namespace Go.Ab
variable {P : Program}

/-- The kind of a type of integers. -/
def kindT (P : Program) (t : TypeId) : Option IntKind :=
  match P.underlying t with
  | some (.int k) => some k
  | _ => none

/-- What a cell holds. -/
inductive Sh where
  | int (k : IntKind)
  | bool
  | str
  | ints (k : IntKind)
  | seq (s : Nat)
  | ifc
  | any

def shT (P : Program) (t : TypeId) : Sh :=
  match P.underlying t with
  | some (.int k) => .int k
  | some .bool => .bool
  | some .string => .str
  | some (.slice e) => match kindT P e with
    | some k => .ints k
    | none => match sizeT P e with
      | some s => .seq s
      | none => .any
  | some (.interface _) => .ifc
  | _ => .any

/-- The types of the cells. -/
def cellTs (P : Program) : Nat → TypeId → List TypeId
  | 0, t => [t]
  | n + 1, t => match fieldsT P t with
    | some fs => fs.toList.flatMap fun f => cellTs P n f.type
    | none => [t]

def shs (P : Program) (t : TypeId) : List Sh := (cellTs P 4 t).map (shT P)

def isV : Sh → D → Bool
  | .int k, .int k' _ => k == k'
  | .bool, .bool _ => true
  | .str, .str _ => true
  | .ints k, .ints k' _ => k == k'
  | .seq s, .seq s' _ => s == s'
  | .ifc, .iface _ _ => true
  | _, _ => false

def datI : D → Int
  | .int _ n => n
  | _ => 0
def datB : D → Bool
  | .bool b => b
  | _ => false
def datS : D → ByteArray
  | .str s => s
  | _ => .empty
def datL : D → List Int
  | .ints _ xs => xs
  | _ => []
def datQ : D → List D
  | .seq _ xs => xs
  | _ => []
def datT : D → Nat
  | .iface t _ => t
  | _ => 0
def datP : D → D
  | .iface _ d => d
  | _ => .junk

def viewD : Sh → D → D
  | .int k, d => .int k (datI d)
  | .bool, d => .bool (datB d)
  | .str, d => .str (datS d)
  | .ints k, d => .ints k (datL d)
  | .seq s, d => .seq s (datQ d)
  | .ifc, d => .iface (datT d) (datP d)
  | .any, d => d

theorem view_of {s : Sh} {d : D} (h : isV s d = true) : viewD s d = d := by
  cases s <;> cases d <;> simp [isV] at h <;> simp [viewD, datI, datB, datS, datL, datQ, datT, datP, h]

/-- Cell j of element i. -/
def cellAt (xs : List D) (i j : Nat) : D := ((xs[i]?).bind fun d => d.cells[j]?).getD .junk

def cellI (xs : List D) (i j : Nat) : Int := datI (cellAt xs i j)
def cellB (xs : List D) (i j : Nat) : Bool := datB (cellAt xs i j)
def cellS (xs : List D) (i j : Nat) : ByteArray := datS (cellAt xs i j)
def cellL (xs : List D) (i j : Nat) : List Int := datL (cellAt xs i j)
def cellQ (xs : List D) (i j : Nat) : List D := datQ (cellAt xs i j)
def cellT (xs : List D) (i j : Nat) : Nat := datT (cellAt xs i j)
def cellP (xs : List D) (i j : Nat) : D := datP (cellAt xs i j)

def okC (s : Sh) (xs : List D) (i j : Nat) : Bool := match (xs[i]?).bind fun d => d.cells[j]? with
  | some d => isV s d
  | none => false

def isVs : List Sh → List D → Bool
  | [], [] => true
  | s :: ss, d :: ds => isV s d && isVs ss ds
  | _, _ => false

def okS (ss : List Sh) (xs : List D) (i : Nat) : Bool := match xs[i]? with
  | some (.agg cs) => isVs ss cs
  | _ => false

def viewS : List Sh → List D → Nat → Nat → List D
  | [], _, _, _ => []
  | s :: ss, xs, i, j => viewD s (cellAt xs i j) :: viewS ss xs i (j + 1)

theorem okC_spec {s : Sh} {xs : List D} {i j : Nat} (h : okC s xs i j = true) : ∃ d, xs[i]? = some d ∧ d.cells[j]? = some (viewD s (cellAt xs i j)) := by
  unfold okC at h
  split at h
  · rename_i e he
    obtain ⟨d, h1, h2⟩ := Option.bind_eq_some_iff.1 he
    refine ⟨d, h1, ?_⟩
    have : cellAt xs i j = e := by unfold cellAt; rw [he]; rfl
    rw [this, view_of h, h2]
  · cases h

theorem viewS_of {xs : List D} {i : Nat} {cs : List D} (hx : xs[i]? = some (.agg cs)) : ∀ (ss : List Sh) (ds : List D) (j : Nat), (∀ q, ds[q]? = cs[j + q]?) → isVs ss ds = true → viewS ss xs i j = ds
  | [], [], _, _, _ => rfl
  | [], _ :: _, _, _, h => by simp [isVs] at h
  | _ :: _, [], _, _, h => by simp [isVs] at h
  | s :: ss, d :: ds, j, hq, h => by
    simp only [isVs, Bool.and_eq_true] at h
    have h0 := hq 0
    simp only [List.getElem?_cons_zero, Nat.add_zero] at h0
    have e : cellAt xs i j = d := by
      unfold cellAt
      rw [hx]
      simp [D.cells, ← h0]
    rw [viewS, e, view_of h.1, viewS_of hx ss ds (j + 1) (fun q => by have := hq (q + 1); simpa [Nat.add_assoc, Nat.add_comm 1] using this) h.2]

theorem okS_spec {ss : List Sh} {xs : List D} {i : Nat} (h : okS ss xs i = true) : xs[i]? = some (.agg (viewS ss xs i 0)) := by
  unfold okS at h
  split at h
  · rename_i cs he
    rw [viewS_of he ss cs 0 (fun q => by simp) h, he]
  · cases h

/-- Nothing, where a slice is asked for, is an empty one. -/
def fixD : Sh → D → D
  | .ints k, .nils => .ints k []
  | .seq s, .nils => .seq s []
  | _, d => d

def fixL : List Sh → List D → List D
  | s :: ss, d :: ds => fixD s d :: fixL ss ds
  | _, ds => ds

theorem fixL_length : ∀ (ss : List Sh) (ds : List D), (fixL ss ds).length = ds.length
  | [], _ => rfl
  | _ :: _, [] => rfl
  | s :: ss, d :: ds => by simp [fixL, fixL_length ss ds]

section
variable {w : World} {N : Nat → Prop}

theorem fixD_rep {s : Sh} {d : D} {v : Value} (h : RepD P w N d v) : RepD P w N (fixD s d) v := by
  unfold fixD
  split
  · cases h; exact .ints0 _ _ _
  · cases h; exact .seq0 _ _ _
  · exact h

theorem fixL_rep : ∀ (ss : List Sh) (ds : List D) (i : Nat) (hi : i < (fixL ss ds).length) (hd : i < ds.length) {v : Value}, RepD P w N ds[i] v → RepD P w N (fixL ss ds)[i] v
  | [], _, _, _, _, _, h => h
  | _ :: _, [], i, _, hd, _, _ => by simp at hd
  | s :: ss, d :: ds, 0, _, _, _, h => fixD_rep h
  | s :: ss, d :: ds, i + 1, hi, hd, _, h => fixL_rep ss ds i (by simpa [fixL] using hi) (by simpa using hd) (by simpa using h)
end

/-- Data of a type, empty slices for nothing. -/
def fixN (P : Program) (t : TypeId) : D → D
  | .agg cs => .agg (fixL (shs P t) cs)
  | d => fixD (shT P t) d

theorem fixN_rep {w : World} {N : Nat → Prop} {t : TypeId} {d : D} {v : Value} (h : RepD P w N d v) : RepD P w N (fixN P t d) v := by
  unfold fixN
  split
  · rename_i cs
    cases h with
    | agg _ vs hl hr => exact .agg _ vs (by rw [fixL_length]; exact hl) fun i hi => fixL_rep _ cs i hi (by rw [fixL_length] at hi; exact hi) (hr i _)
  · exact fixD_rep h

/-- Is the type an interface? -/
def ifcT (P : Program) (t : TypeId) : Option Bool :=
  match P.underlying t with
  | some (.interface _) => some true
  | some _ => some false
  | none => none

end Go.Ab
