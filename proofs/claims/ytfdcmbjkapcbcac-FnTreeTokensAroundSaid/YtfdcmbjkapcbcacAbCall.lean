/-
  AN ABSTRACT LAYER, 11: calls. What is handed over is data, or a variable of data behind a pointer; what comes back is data, whose memory may be new and nobody else's.
-/
import Derived.Test.YtfdcmbjkapcbcacAbOp9
namespace Go.Ab
variable {P : Program}

/-- What is handed over: data; a pointer to a variable. -/
inductive XA where
  | d (d : D)
  | box (cs : List D)
  | rows (one : Bool) (cs : List (IntKind × List Int))

/-- A cell that comes back: 'true': its memory is new, and nobody else's. -/
abbrev Cell := D × Bool

inductive XR where
  | one (c : Cell)
  | agg (cs : List Cell)
  | box (cs : List Cell)

def XR.cells : XR → List Cell
  | .one c => [c]
  | .agg cs => cs
  | .box cs => cs

/-- A function's meaning: what it hands back, and what the variables hold behind it. -/
structure Entry where
  f : FuncId
  quiet : Bool
  turns : Bool
  pre : List XA → Bool
  res : List XA → List XR × List (List D)
  alts : List XA → List (Bool × (List XR × List (List D)))
  makes : Bool
  fnOf : List D → Option (Bool × (List Q → Bool) × (List Q → Int))
  meth : Option String

/-- The first that is true; else the last. -/
def pickR {α : Type} : List (Bool × α) → α → α
  | [], d => d
  | (b, r) :: l, d => bif b then r else pickR l d

def Entry.r (E : Entry) (xs : List XA) : List XR × List (List D) := pickR (E.alts xs) (E.res xs)

def Entry.m (E : Entry) (xs : List XA) : Option (List XR × List (List D)) := bif E.pre xs then some (E.r xs) else none

/-- An argument of a pure function, as data. -/
def Q.d : Q → D
  | .i m => .int .i64 m
  | .l ys => .ints .i64 ys
  | .b x => .bool x

/-- A cell that came back. 'ob': the block that is the caller's own from now on. -/
def CellRep (P : Program) (w : World) (N : Nat → Prop) (base : Nat) (c : Cell) (v : Value) (ob : Option Nat) : Prop :=
  match c.2 with
  | false => RepD P w N c.1 v ∧ ob = none
  | true => match c.1 with
    | .ints k xs => (ob = none ∧ xs = [] ∧ ∃ a, v = .slice a 0 0) ∨ ∃ b arr e cap, ob = some b ∧ base ≤ b ∧ ¬ N b ∧ v = .slice (some ⟨b, 0, none⟩) xs.length cap ∧ w.heap[b]? = some (.cells arr e (0, 0)) ∧
        cap ≤ arr.size ∧ xs.length ≤ cap ∧ ∀ i (hi : i < xs.length), arr[i]? = some (.int k xs[i])
    | .seq s xs => (∀ x ∈ xs, x.cells.length = s) ∧ ((ob = none ∧ xs = [] ∧ ∃ a, v = .slice a 0 0) ∨ ∃ b arr e cap, ob = some b ∧ base ≤ b ∧ ¬ N b ∧ v = .slice (some ⟨b, 0, none⟩) xs.length cap ∧ w.heap[b]? = some (.cells arr e (0, 0)) ∧
        cap * s ≤ arr.size ∧ xs.length ≤ cap ∧ ∃ f : Nat → Value, ∀ i (hi : i < (D.flat xs).length), arr[i]? = some (f i) ∧ RepD P w N (D.flat xs)[i] (f i))
    | _ => False

/-- The cells of what came back. -/
inductive CellsRep (P : Program) (w : World) (N : Nat → Prop) (base : Nat) : List Cell → List Value → List Nat → Prop where
  | nil : CellsRep P w N base [] [] []
  | none {c v cs vs bs} (h : CellRep P w N base c v none) (t : CellsRep P w N base cs vs bs) : CellsRep P w N base (c :: cs) (v :: vs) bs
  | some {c v b cs vs bs} (h : CellRep P w N base c v (some b)) (hb : b ∉ bs) (t : CellsRep P w N base cs vs bs) : CellsRep P w N base (c :: cs) (v :: vs) (b :: bs)

/-- The block behind a pointer or a slice. -/
def pvBlk : Value → Option Nat
  | .pointer (some a) => some a.block
  | .slice (some a) _ cap => if cap = 0 then none else some a.block
  | _ => none

def ptrOf (b : Nat) : Value := .pointer (some ⟨b, 0, none⟩)

/-- Arguments in a world. 'bs': the blocks that may turn; 'pv': the pointers and slices by which they are reached. -/
inductive ArgsRep (P : Program) (w : World) (N : Nat → Prop) : List XA → List Value → List Nat → List Value → Prop where
  | nil : ArgsRep P w N [] [] [] []
  | d {d v xs vs bs pv} (h : RepD P w N d v) (t : ArgsRep P w N xs vs bs pv) : ArgsRep P w N (.d d :: xs) (v :: vs) bs pv
  | box {cs xs vs bs pv b arr e} (h : w.heap[b]? = some (.cells arr e (0, 0))) (hl : arr.size = cs.length) (hr : ∀ i (hi : i < cs.length), RepD P w N cs[i] (arr.getD i undef)) (hN : ¬ N b) (hb : b ∉ bs)
      (t : ArgsRep P w N xs vs bs pv) : ArgsRep P w N (.box cs :: xs) (ptrOf b :: vs) (b :: bs) (ptrOf b :: pv)
  | row {k ys v xs vs bs1 bs pv} (h : CellsRep P w N 0 [(.ints k ys, true)] [v] bs1) (hv : ∀ b ∈ bs1, pvBlk v = some b) (hd : ∀ b ∈ bs1, b ∉ bs) (t : ArgsRep P w N xs vs bs pv) : ArgsRep P w N (.rows true [(k, ys)] :: xs) (v :: vs) (bs1 ++ bs) (v :: pv)
  | rows {cs us xs vs bs1 bs pv} (h : CellsRep P w N 0 (cs.map fun c => (.ints c.1 c.2, true)) us bs1) (hv : ∀ b ∈ bs1, ∃ v ∈ us, pvBlk v = some b) (hd : ∀ b ∈ bs1, b ∉ bs) (t : ArgsRep P w N xs vs bs pv) : ArgsRep P w N (.rows false cs :: xs) (.agg us.toArray :: vs) (bs1 ++ bs) (us ++ pv)

/-- What came back, as values. -/
inductive ResRep (P : Program) (w : World) (N : Nat → Prop) (base : Nat) : List XR → List Value → List Nat → Prop where
  | nil : ResRep P w N base [] [] []
  | one {c v rs vs bs bs'} (h : CellsRep P w N base [c] [v] bs) (hd : ∀ b ∈ bs, b ∉ bs') (t : ResRep P w N base rs vs bs') : ResRep P w N base (.one c :: rs) (v :: vs) (bs ++ bs')
  | agg {cs us rs vs bs bs'} (h : CellsRep P w N base cs us bs) (hd : ∀ b ∈ bs, b ∉ bs') (t : ResRep P w N base rs vs bs') : ResRep P w N base (.agg cs :: rs) (.agg us.toArray :: vs) (bs ++ bs')
  | box {cs arr e b rs vs bs bs'} (hg : w.heap[b]? = some (.cells arr e (0, 0))) (hb : base ≤ b) (hN : ¬ N b) (hbs : b ∉ bs) (hbs' : b ∉ bs') (h : CellsRep P w N base cs arr.toList bs) (hd : ∀ b ∈ bs, b ∉ bs') (t : ResRep P w N base rs vs bs') :
      ResRep P w N base (.box cs :: rs) (.pointer (some ⟨b, 0, none⟩) :: vs) (b :: (bs ++ bs'))

/-- What the variables and the rows hold behind the call. -/
inductive PostRep (P : Program) (w : World) (N : Nat → Prop) : List (List D) → List Value → Prop where
  | nil : PostRep P w N [] []
  | cons {cs ps pv b arr e} (h : w.heap[b]? = some (.cells arr e (0, 0))) (hl : arr.size = cs.length) (hr : ∀ i (hi : i < cs.length), RepD P w N cs[i] (arr.getD i undef)) (hN : ¬ N b) (t : PostRep P w N ps pv) : PostRep P w N (cs :: ps) (ptrOf b :: pv)
  | row {k xs v ob ps pv} (h : CellRep P w N 0 (.ints k xs, true) v ob) (t : PostRep P w N ps pv) : PostRep P w N ([.ints k xs] :: ps) (v :: pv)

/-- The value that a call hands back, of the values of its results. -/
def packed : List Value → Value
  | [v] => v
  | vs => .tuple vs.toArray

def fnIs (P : Program) (f : FuncId) : Prop := ∃ fn, P.funcs[f]? = some fn ∧ (fn.name == "runtime.NumGoroutine") = false ∧ fn.body.isNone = false

/-- A call of a method through an interface: the function that the value's type leads to is called. -/
def CallsM (P : Program) (nm : String) (args : Array Value) (w : World) (R : Ending → World → Prop) : Prop :=
  ∃ (ty : TypeId) (v u : Value) (rest : List Value) (f : FuncId), args = #[.iface ty v] ++ rest.toArray ∧ (∀ w', (Go.method (P.types.size + Made.depth) ty v nm).run P w' = .ok (f, u) w') ∧ fnIs P f ∧ Calls P f (#[u] ++ rest.toArray) w R

/-- A call by an entry: of its function, or of a method through an interface. -/
def CallsE (P : Program) (E : Entry) (args : Array Value) (w : World) (R : Ending → World → Prop) : Prop :=
  match E.meth with
  | none => Calls P E.f args w R
  | some nm => CallsM P nm args w R

theorem CallsE.mono {E : Entry} {args : Array Value} {w : World} {R R' : Ending → World → Prop} (h : CallsE P E args w R) (hR : ∀ e w', R e w' → R' e w') : CallsE P E args w R' := by
  unfold CallsE at h ⊢
  split
  · rename_i hm
    rw [hm] at h
    exact Calls.mono h hR
  · rename_i nm hm
    rw [hm] at h
    obtain ⟨ty, v, u, rest, f, h1, h2, h3, h4⟩ := h
    exact ⟨ty, v, u, rest, f, h1, h2, h3, Calls.mono h4 hR⟩

theorem CallsE.plain {E : Entry} {args : Array Value} {w : World} {R : Ending → World → Prop} (hm : E.meth = none) (h : CallsE P E args w R) : Calls P E.f args w R := by
  unfold CallsE at h
  rw [hm] at h
  exact h

theorem CallsE.of {E : Entry} {args : Array Value} {w : World} {R : Ending → World → Prop} (hm : E.meth = none) (h : Calls P E.f args w R) : CallsE P E args w R := by
  unfold CallsE
  rw [hm]
  exact h

/-- A function does what its meaning says, from whatever world. -/
structure CallSpec (P : Program) (E : Entry) : Prop where
  fn : E.meth = none → fnIs P E.f
  calls : ∀ (w : World) (N : Nat → Prop) xs vs bs pv rs ps, (∀ b, N b → b < w.heap.size) → ArgsRep P w N xs vs bs pv → E.m xs = some (rs, ps) →
    CallsE P E vs.toArray w fun e w' => ∃ us N' obs, e = .returned (packed us) ∧ Keeps (· ∈ bs) w w' ∧ (∀ b, N b → N' b) ∧ (∀ b, N' b → (N b ∨ w.heap.size ≤ b) ∧ b < w'.heap.size) ∧
      ResRep P w' N' w.heap.size rs us obs ∧ PostRep P w' N' ps pv ∧ rs.length = us.length
  fnok : ∀ ds rb dom G, E.fnOf ds = some (rb, dom, G) → ∀ qs, dom qs = true → E.m ((qs.map fun q => .d q.d) ++ ds.map .d) = some ([.one (fnD rb (G qs), false)], [])

/-! ### The caller's side -/

/-- A cell as data: rows are lent. The Bool: was one lent? -/
def lendCell (H : Heap) : AV → Option (D × Bool)
  | .imm d => some (d, false)
  | .dptr cs 0 => some (.pbox cs, false)
  | .row id s off len => match H id with
    | some (.ints k xs) => if off + len ≤ xs.length then some (.ints k ((xs.drop off).take len), true) else none
    | some (.ds s' xs) => if s' = s ∧ off + len ≤ xs.length then some (.seq s ((xs.drop off).take len), true) else none
    | _ => none
  | .all id s => match H id with
    | some (.ints k xs) => some (.ints k xs, true)
    | some (.ds s' xs) => if s' = s then some (.seq s xs, true) else none
    | _ => none
  | _ => none

/-- An argument: what is handed over, whether a row was lent, the variable. -/
def argX (H : Heap) : AV → Option (XA × Bool × Option Nat)
  | .agg cs => (cs.mapM (lendCell H)).map fun ds => (.d (.agg (ds.map (·.1))), ds.any (·.2), none)
  | .ptr id 0 0 => match H id with
    | some (.box cs) => (cs.mapM unImm).map fun ds => (.box ds, false, some id)
    | _ => none
  | x => (lendCell H x).map fun (d, l) => (.d d, l, none)

/-- Does data take memory? -/
def D.mem : D → Bool
  | .int .. | .bool .. | .str .. | .nilp | .nils | .nilf | .junk | .nili => false
  | .clo _ cs => !cs.isEmpty
  | _ => true

/-- A cell that holds nothing of what was lent. -/
def Cell.free (c : Cell) : Bool :=
  match c.1 with
  | .ints _ _ => c.2
  | .seq _ _ => false
  | .agg _ => false
  | .clo _ cs => !c.2 && cs.isEmpty
  | .pbox _ => false
  | .fn _ _ _ => false
  | .iface _ _ => false
  | _ => !c.2

/-- A cell that came back becomes an abstract value: its memory a new row (pol), or data. -/
def cellBack (pol : Bool) (c : Cell) (nid : Nat) (H : Heap) : Option (AV × Heap) :=
  match c.2 && pol with
  | false => some (.imm c.1, H)
  | true => match H nid, c.1 with
    | none, .ints k xs => some (.all nid 1, H.set nid (.ints k xs))
    | none, .seq s xs => some (.all nid s, H.set nid (.ds s xs))
    | _, _ => none

def cellsBack (pol : Bool) : List Cell → Nat → Heap → Option (List AV × Nat × Heap)
  | [], n, H => some ([], n, H)
  | c :: cs, n, H => (cellBack pol c n H).bind fun (x, H1) => (cellsBack pol cs (n + 1) H1).map fun (xs, n', H') => (x :: xs, n', H')

def resBack (pol : Bool) : List XR → Nat → Heap → Option (List AV × Heap)
  | [], _, H => some ([], H)
  | .one c :: rs, n, H => (cellBack pol c n H).bind fun (x, H1) => (resBack pol rs (n + 1) H1).map fun (xs, H') => (x :: xs, H')
  | .agg cs :: rs, n, H => (cellsBack pol cs n H).bind fun (xs, n', H1) => (resBack pol rs n' H1).map fun (ys, H') => (.agg xs :: ys, H')
  | .box cs :: rs, n, H => (cellsBack pol cs n H).bind fun (xs, n', H1) => match H1 n' with
    | none => (resBack pol rs (n' + 1) (H1.set n' (.box xs))).map fun (ys, H') => (.ptr n' 0 0 :: ys, H')
    | some _ => none

def postBack : List (List D) → List Nat → Heap → Option Heap
  | [], [], H => some H
  | cs :: ps, id :: ids, H => match H id with
    | some (.box old) => if old.length = cs.length then postBack ps ids (H.set id (.box (cs.map .imm))) else none
    | _ => none
  | _, _, _ => none

def packA : List AV → AV
  | [x] => x
  | xs => .tup xs

/-- A call by its meaning. -/
def callA (E : Entry) (pol : Bool) (args : List AV) (nid : Nat) (H : Heap) : Option (AV × Heap) :=
  (args.mapM (argX H)).bind fun as => (E.m (as.map (·.1))).bind fun (rs, ps) =>
    if (as.filterMap (·.2.2)).Nodup ∧ (as.any (·.2.1) = true → (rs.all fun r => r.cells.all Cell.free) = true ∧ (ps.all fun p => p.all fun d => !d.mem) = true) then
      (postBack ps (as.filterMap (·.2.2)) H).bind fun H1 => (resBack pol rs nid H1).map fun (xs, H') => (packA xs, H')
    else none

section
variable {P : Program} {w : World} {N : Nat → Prop} {H : Heap} {ι : Place} {w0 : World} {S N0 : Nat → Prop}

theorem RepD.nomem {d : D} {v : Value} (h : RepD P w N d v) (hm : d.mem = false) (w' : World) (N' : Nat → Prop) : RepD P w' N' d v := by
  cases h <;> simp [D.mem] at hm
  · exact .int _ _
  · exact .bool _
  · exact .str _
  · exact .nils
  · exact .nilp
  · subst hm; rename_i hl _; exact .clo _ _ _ hl (fun i hi => by simp at hi)
  · exact .nilf
  · exact .junk _ (by assumption)
  · exact .nili

theorem CellRep.step {base : Nat} {c : Cell} {v : Value} {ob : Option Nat} {N' : Nat → Prop} (h : CellRep P w N base c v ob) (hN : ∀ b, N b → N' b) (hb : ∀ b, ob = some b → ¬ N' b) : CellRep P w N' base c v ob := by
  obtain ⟨d, o⟩ := c
  cases o
  · exact ⟨h.1.mono hN fun _ _ _ => rfl, h.2⟩
  · cases d with
    | ints k xs =>
      rcases h with h | ⟨b, arr, e, cap, h1, h2, h3, h4⟩
      · exact .inl h
      · exact .inr ⟨b, arr, e, cap, h1, h2, hb b h1, h4⟩
    | seq s xs =>
      obtain ⟨h0, h | ⟨b, arr, e, cap, h1, h2, h3, h4, h5, h6, h7, f, h8⟩⟩ := h
      · exact ⟨h0, .inl h⟩
      · exact ⟨h0, .inr ⟨b, arr, e, cap, h1, h2, hb b h1, h4, h5, h6, h7, f, fun i hi => ⟨(h8 i hi).1, (h8 i hi).2.mono hN fun _ _ _ => rfl⟩⟩⟩
    | _ => exact h.elim

/-- A cell that holds nothing of what was lent may be seen under fewer blocks of data. -/
theorem CellRep.less {base : Nat} {c : Cell} {v : Value} {ob : Option Nat} {N' : Nat → Prop} (h : CellRep P w N base c v ob) (hf : c.free = true) (hN : ∀ b, N' b → N b) : CellRep P w N' base c v ob := by
  obtain ⟨d, o⟩ := c
  cases o
  · refine ⟨h.1.nomem ?_ _ _, h.2⟩
    cases d <;> first | rfl | (simp [Cell.free] at hf; done) | (simp [Cell.free] at hf; simp [D.mem, hf])
  · cases d with
    | ints k xs =>
      rcases h with h | ⟨b, arr, e, cap, h1, h2, h3, h4⟩
      · exact .inl h
      · exact .inr ⟨b, arr, e, cap, h1, h2, fun hb => h3 (hN b hb), h4⟩
    | seq s xs => simp [Cell.free] at hf
    | _ => exact h.elim

theorem flat_len_le {s : Nat} {xs : List D} {n : Nat} (h : ∀ x ∈ xs, x.cells.length = s) (hn : xs.length * s ≤ n) : (D.flat xs).length ≤ n := by
  rw [flat_length xs h]; exact hn

theorem cellBack_sound {base nid : Nat} {pol : Bool} {c : Cell} {v : Value} {ob : Option Nat} {x : AV} {H' : Heap} (hI : Inv P w0 S N0 H w N ι) (hbase : w0.heap.size ≤ base) (hc : CellRep P w N base c v ob)
    (hfree : ∀ b, ob = some b → ¬ Taken H ι b) (h : cellBack pol c nid H = some (x, H')) :
    ∃ N' ι', Inv P w0 S N0 H' w N' ι' ∧ Fwd N ι H w N' ι' H' w ∧ RepA P w N' H' ι' x v ∧ (∀ b, N' b → N b ∨ ob = some b) ∧ (∀ b, Taken H' ι' b → Taken H ι b ∨ ob = some b) := by
  obtain ⟨d, o⟩ := c
  unfold cellBack at h
  simp only at h
  cases o
  · simp at h
    obtain ⟨rfl, rfl⟩ := h
    exact ⟨N, ι, hI, Fwd.refl _ _ _ _, .imm hc.1, fun b h => .inl h, fun b h => .inl h⟩
  · cases pol
    · simp at h
      obtain ⟨rfl, rfl⟩ := h
      cases d with
      | ints k xs =>
        rcases hc with ⟨rfl, rfl, a, rfl⟩ | ⟨b, arr, e, cap, rfl, h2, h3, rfl, h5, h6, h7, h8⟩
        · exact ⟨N, ι, hI, Fwd.refl _ _ _ _, .imm (.ints0 _ _ _), fun b h => .inl h, fun b h => .inl h⟩
        · obtain ⟨g1, g2⟩ := hI.more (Array.getElem?_eq_some_iff.1 h5).1 (hfree b rfl) (by omega)
          exact ⟨_, ι, g1, g2, .imm (.ints _ _ _ _ _ (.inr rfl) h7 fun i hi => by rw [Nat.zero_add, cell_of_blk h5]; exact h8 i hi), fun x hx => hx.imp id fun e => by rw [e], fun b h => .inl h⟩
      | seq s xs =>
        obtain ⟨h0, ⟨rfl, rfl, a, rfl⟩ | ⟨b, arr, e, cap, rfl, h2, h3, rfl, h5, h6, h7, f, h8⟩⟩ := hc
        · exact ⟨N, ι, hI, Fwd.refl _ _ _ _, .imm (.seq0 _ _ _), fun b h => .inl h, fun b h => .inl h⟩
        · obtain ⟨g1, g2⟩ := hI.more (Array.getElem?_eq_some_iff.1 h5).1 (hfree b rfl) (by omega)
          exact ⟨_, ι, g1, g2, .imm (.seq _ _ _ _ _ f (.inr rfl) h7 h0 (fun i hi => by rw [Nat.zero_add, cell_of_blk h5]; exact (h8 i hi).1) fun i hi => (h8 i hi).2.fwd g2), fun x hx => hx.imp id fun e => by rw [e], fun b h => .inl h⟩
      | _ => exact hc.elim
    · simp only [Bool.and_self] at h
      split at h
      · rename_i k xs hn
        simp at h
        obtain ⟨rfl, rfl⟩ := h
        rcases hc with ⟨rfl, rfl, a, rfl⟩ | ⟨b, arr, e, cap, rfl, h2, h3, rfl, h5, h6, h7, h8⟩
        · obtain ⟨ι', g0, g1, g2⟩ := hI.bare hn (.ints k []) (fun H' ι' h => .inl ⟨h, rfl⟩)
          refine ⟨N, ι', g1, g2, .all (by simp [Heap.set]) (.inl rfl) (Nat.le_refl _) fun r hr hl => ?_, fun b h => .inl h, ?_⟩
          · simp [Heap.set] at hr
            subst hr
            exact ⟨rfl, .inl ⟨rfl, rfl⟩⟩
          · rintro b ⟨id, r, c, hid, hl, hι⟩
            by_cases hxi : id = nid
            · subst hxi; rw [g0] at hι; cases hι
            · have hid' : H id = some r := by simpa [Heap.set, hxi] using hid
              obtain ⟨r', q1, q2⟩ := g2.hE id r hid'
              rw [hid] at q1
              cases q1
              exact .inl ⟨id, r, c, hid', hl, by rw [← (q2 hl).2.2]; exact hι⟩
        · obtain ⟨ι', g0, g1, g2, g3⟩ := hI.adopt (c := arr.size) (r := .ints k xs) hn (hfree b rfl) (.inr (by omega)) h3 (fun H' ι' hι hf => .inr ⟨b, arr.size, arr, e, hι, h5, rfl, by omega, h8⟩)
          refine ⟨N, ι', g1, g2, .all (by simp [Heap.set]) (.inr ⟨_, rfl⟩) h7 fun r hr hl => ?_, fun b h => .inl h, fun x hx => (g3 x hx).imp id fun e => by rw [e]⟩
          simp [Heap.set] at hr
          subst hr
          exact ⟨rfl, .inr ⟨b, arr.size, g0, by simp, by omega, h7⟩⟩
      · rename_i s xs hn
        simp at h
        obtain ⟨rfl, rfl⟩ := h
        obtain ⟨h0, ⟨rfl, rfl, a, rfl⟩ | ⟨b, arr, e, cap, rfl, h2, h3, rfl, h5, h6, h7, f, h8⟩⟩ := hc
        · obtain ⟨ι', g0, g1, g2⟩ := hI.bare hn (.ds s []) (fun H' ι' h => ⟨by simp, .inl ⟨h, rfl⟩⟩)
          refine ⟨N, ι', g1, g2, .all (by simp [Heap.set]) (.inl rfl) (Nat.le_refl _) fun r hr hl => ?_, fun b h => .inl h, ?_⟩
          · simp [Heap.set] at hr
            subst hr
            exact ⟨rfl, .inl ⟨rfl, rfl⟩⟩
          · rintro b ⟨id, r, c, hid, hl, hι⟩
            by_cases hxi : id = nid
            · subst hxi; rw [g0] at hι; cases hι
            · have hid' : H id = some r := by simpa [Heap.set, hxi] using hid
              obtain ⟨r', q1, q2⟩ := g2.hE id r hid'
              rw [hid] at q1
              cases q1
              exact .inl ⟨id, r, c, hid', hl, by rw [← (q2 hl).2.2]; exact hι⟩
        · have hfl : (D.flat xs).length ≤ arr.size := flat_len_le h0 (Nat.le_trans (Nat.mul_le_mul_right s h7) h6)
          obtain ⟨ι', g0, g1, g2, g3⟩ := hI.adopt (c := arr.size) (r := .ds s xs) hn (hfree b rfl) (.inr (by omega)) h3 (fun H' ι' hι hf => ⟨h0, .inr ⟨b, arr.size, arr, e, hι, h5, rfl, hfl, f, fun i hi => ⟨(h8 i hi).1, (h8 i hi).2.fwd hf⟩⟩⟩)
          refine ⟨N, ι', g1, g2, .all (by simp [Heap.set]) (.inr ⟨_, rfl⟩) h7 fun r hr hl => ?_, fun b h => .inl h, fun x hx => (g3 x hx).imp id fun e => by rw [e]⟩
          simp [Heap.set] at hr
          subst hr
          exact ⟨rfl, .inr ⟨b, arr.size, g0, by simp, by simpa using h6, h7⟩⟩
      · simp at h
end
end Go.Ab
