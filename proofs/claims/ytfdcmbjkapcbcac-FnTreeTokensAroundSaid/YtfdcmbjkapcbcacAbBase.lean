/-
  AN ABSTRACT LAYER over the model: data without memory ('D'), values over it ('AV'), rows that a call owns ('Row'), and what it means that a world bears them.
-/
import Derived.WalkKit
namespace Go.Ab
variable {P : Program}

/-- What a pure function is handed: a number, numbers, a truth. -/
inductive Q where
  | i (n : Int)
  | l (xs : List Int)
  | b (b : Bool)

/-- Data without memory: what a value reads as, to the bottom. 'fn': a function of such arguments: where it is known ('dom'), its number ('rb': 1 stands for true). -/
inductive D where
  | int (k : IntKind) (n : Int)
  | bool (b : Bool)
  | str (s : ByteArray)
  | nils
  | nilp
  | ints (k : IntKind) (xs : List Int)
  | seq (s : Nat) (xs : List D)
  | agg (cs : List D)
  | clo (f : FuncId) (caps : List D)
  | nilf
  | pbox (cs : List D)
  | junk
  | iface (t : TypeId) (d : D)
  | nili
  | fn (rb : Bool) (dom : List Q → Bool) (G : List Q → Int)

def D.cells : D → List D
  | .agg cs => cs
  | d => [d]

def D.flat (xs : List D) : List D := xs.flatMap D.cells

/-- The number of cells of an element of a slice. -/
def D.sz : D → Nat
  | .seq s _ => s
  | _ => 1

/-- The world w has come from w0: only blocks of the class S, and new ones, have turned. -/
structure Keeps (S : Nat → Prop) (w0 w : World) : Prop where
  os : w.os = w0.os
  tape : w.tape = w0.tape
  output : w.output = w0.output
  size : w0.heap.size ≤ w.heap.size
  block : ∀ b, b < w0.heap.size → ¬ S b → w.heap[b]? = w0.heap[b]?
  cells : ∀ b arr e, S b → w0.heap[b]? = some (.cells arr e (0, 0)) → ∃ arr' e', w.heap[b]? = some (.cells arr' e' (0, 0)) ∧ arr'.size = arr.size

theorem Keeps.refl (S : Nat → Prop) (w : World) : Keeps S w w := ⟨rfl, rfl, rfl, Nat.le_refl _, fun _ _ _ => rfl, fun _ arr e _ h => ⟨arr, e, h, rfl⟩⟩

/-- An argument of a pure function. -/
inductive QRep (w : World) (N : Nat → Prop) : Q → Value → Prop where
  | i (n) : QRep w N (.i n) (.int .i64 n)
  | b (b) : QRep w N (.b b) (.bool b)
  | l0 (a cap) : QRep w N (.l []) (.slice a 0 cap)
  | l (xs b off cap) (hN : N b) (hc : xs.length ≤ cap) (h : ∀ i (_ : i < xs.length), w.cell? ⟨b, off + i, none⟩ = some (.int .i64 xs[i])) :
      QRep w N (.l xs) (.slice (some ⟨b, off, none⟩) xs.length cap)

/-- What a pure function hands back. -/
def fnV (rb : Bool) (n : Int) : Value := match rb with
  | false => .int .i64 n
  | true => .bool (n == 1)

def fnD (rb : Bool) (n : Int) : D := match rb with
  | false => .int .i64 n
  | true => .bool (n == 1)

/-- A function value that, called from whatever later world, tells G and turns nothing. -/
def FnRep (P : Program) (w : World) (N : Nat → Prop) (rb : Bool) (dom : List Q → Bool) (G : List Q → Int) (v : Value) : Prop :=
  ∃ (f : FuncId) (caps : Array Value) (fn : Func), v = .func (.func f) #[] caps ∧ P.funcs[f]? = some fn ∧ (fn.name == "runtime.NumGoroutine") = false ∧ fn.body.isNone = false ∧
    ∀ (w' : World) (N' : Nat → Prop), (∀ b, N b → N' b) → (∀ b, N' b → b < w'.heap.size) → (∀ b o, N b → w'.cell? ⟨b, o, none⟩ = w.cell? ⟨b, o, none⟩) →
      ∀ (qs : List Q) (vs : List Value), qs.length = vs.length → (∀ i (h1 : i < qs.length) (h2 : i < vs.length), QRep w' N' qs[i] vs[i]) → dom qs = true →
        Calls P f (vs.toArray ++ caps) w' fun e w'' => e = .returned (fnV rb (G qs)) ∧ Keeps (fun _ => False) w' w''

/-- A value bears the data d in the world w; what memory it takes lies in blocks of the class N. -/
inductive RepD (P : Program) (w : World) (N : Nat → Prop) : D → Value → Prop where
  | int (k n) : RepD P w N (.int k n) (.int k n)
  | bool (b) : RepD P w N (.bool b) (.bool b)
  | str (s) : RepD P w N (.str s) (.string s)
  | nils : RepD P w N .nils (.slice none 0 0)
  | nilp : RepD P w N .nilp (.pointer none)
  | ints0 (k a cap) : RepD P w N (.ints k []) (.slice a 0 cap)
  | ints (k xs b off cap) (hN : N b) (hc : xs.length ≤ cap) (h : ∀ i (_ : i < xs.length), w.cell? ⟨b, off + i, none⟩ = some (.int k xs[i])) :
      RepD P w N (.ints k xs) (.slice (some ⟨b, off, none⟩) xs.length cap)
  | seq0 (s a cap) : RepD P w N (.seq s []) (.slice a 0 cap)
  | seq (s xs b off cap) (f : Nat → Value) (hN : N b) (hc : xs.length ≤ cap) (hs : ∀ x ∈ xs, x.cells.length = s)
      (h : ∀ i (_ : i < (D.flat xs).length), w.cell? ⟨b, off + i, none⟩ = some (f i)) (hr : ∀ i (hi : i < (D.flat xs).length), RepD P w N (D.flat xs)[i] (f i)) :
      RepD P w N (.seq s xs) (.slice (some ⟨b, off, none⟩) xs.length cap)
  | agg (cs) (vs : Array Value) (hl : vs.size = cs.length) (h : ∀ i (hi : i < cs.length), RepD P w N cs[i] (vs.getD i undef)) : RepD P w N (.agg cs) (.agg vs)
  | clo (f caps) (vs : Array Value) (hl : vs.size = caps.length) (h : ∀ i (hi : i < caps.length), RepD P w N caps[i] (vs.getD i undef)) : RepD P w N (.clo f caps) (.func (.func f) #[] vs)
  | nilf : RepD P w N .nilf .nilFunc
  | pbox (cs b) (g : Nat → Value) (hN : N b) (hc : ∀ i, i < cs.length → w.cell? ⟨b, i, none⟩ = some (g i)) (hr : ∀ i (hi : i < cs.length), RepD P w N cs[i] (g i)) : RepD P w N (.pbox cs) (.pointer (some ⟨b, 0, none⟩))
  | junk (v) (h : v.oneCell' = true) : RepD P w N .junk v
  | iface (t d v) (h : RepD P w N d v) : RepD P w N (.iface t d) (.iface t v)
  | nili : RepD P w N .nili .nilIface
  | fn (rb dom G v) (h : FnRep P w N rb dom G v) : RepD P w N (.fn rb dom G) v

theorem RepD.mono {w w' : World} {N N' : Nat → Prop} {d : D} {v : Value} (h : RepD P w N d v) (hN : ∀ b, N b → N' b)
    (hc : ∀ b o, N b → w'.cell? ⟨b, o, none⟩ = w.cell? ⟨b, o, none⟩) : RepD P w' N' d v := by
  induction h with
  | int k n => exact .int k n
  | bool b => exact .bool b
  | str s => exact .str s
  | nils => exact .nils
  | nilp => exact .nilp
  | ints0 k a cap => exact .ints0 k a cap
  | ints k xs b off cap hb hl h => exact .ints k xs b off cap (hN b hb) hl fun i hi => by rw [hc _ _ hb]; exact h i hi
  | seq0 s a cap => exact .seq0 s a cap
  | seq s xs b off cap f hb hl hs h _ ih => exact .seq s xs b off cap f (hN b hb) hl hs (fun i hi => by rw [hc _ _ hb]; exact h i hi) ih
  | agg cs vs hl _ ih => exact .agg cs vs hl ih
  | clo f caps vs hl _ ih => exact .clo f caps vs hl ih
  | nilf => exact .nilf
  | pbox cs b g hb hg _ ih => exact .pbox cs b g (hN b hb) (fun i hi => by rw [hc _ _ hb]; exact hg i hi) ih
  | junk v h => exact .junk v h
  | iface t d v _ ih => exact .iface t d v ih
  | nili => exact .nili
  | fn rb dom G v h =>
    obtain ⟨f, caps, fn, h1, h2, h3, h4, h5⟩ := h
    exact .fn rb dom G v ⟨f, caps, fn, h1, h2, h3, h4, fun w2 N2 a b c => h5 w2 N2 (fun x hx => a x (hN x hx)) b fun x o hx => (c x o (hN x hx)).trans (hc x o hx)⟩

/-- Abstract values: data; a slice into a row that the call owns; a pointer into such a row (element i, cell j of it); the address of a cell of data; parts. -/
inductive AV where
  | imm (d : D)
  | row (id s off len : Nat)
  | all (id s : Nat)
  | ptr (id i j : Nat)
  | eptr (d : D) (i j : Nat)
  | dptr (cs : List D) (j : Nat)
  | agg (cs : List AV)
  | tup (vs : List AV)
  | clo (f : FuncId) (caps : List AV)
  | yld (id : Nat)
  | dfr (id : Nat)
  | undef
  | dead

def AV.cells : AV → List AV
  | .agg cs => cs
  | .imm (.agg cs) => cs.map .imm
  | a => [a]

/-- How a code is left. -/
inductive Ex where
  | normal
  | exit (id : Nat)
  | ret

def Ex.to : Ex → Exit
  | .normal => .normal
  | .exit id => .exit id
  | .ret => .ret

/-- The record of a range over a function. -/
inductive LSt where
  | ready
  | busy
  | done (e : Ex)

def Ex.jump : Ex → Option Code
  | .normal => none
  | .exit id => some (.exit id)
  | .ret => some .ret

def LSt.state : LSt → LoopState
  | .ready => .ready
  | .busy => .busy
  | .done _ => .done

def LSt.pending : LSt → Option Code
  | .done e => e.jump
  | _ => none

inductive Row where
  | ints (k : IntKind) (xs : List Int)
  | ds (s : Nat) (xs : List D)
  | box (cs : List AV)
  | loop (me : FuncId) (ts : List AV) (ps : List Tmp) (as bd : Code) (st : LSt)
  | dfr
  | dead

def Row.live : Row → Bool
  | .dead => false
  | _ => true

def Row.sz : Row → Nat
  | .ints _ _ => 1
  | .ds s _ => s
  | .box cs => cs.length
  | .loop .. => 0
  | .dfr => 0
  | .dead => 0

def Row.len : Row → Nat
  | .ints _ xs => xs.length
  | .ds _ xs => xs.length
  | .box _ => 1
  | .loop .. => 0
  | .dfr => 0
  | .dead => 0

def Row.dim (r : Row) : Nat × Nat := (r.sz, r.len)

abbrev Heap := Nat → Option Row
abbrev Place := Nat → Option (Nat × Nat)

def Heap.set (H : Heap) (id : Nat) (r : Row) : Heap := fun x => if x = id then some r else H x

/-- Where a slice into the row id lies. -/
def SlPos (ι : Place) (id sz off len : Nat) (a : Option Addr) (cap : Nat) : Prop :=
  (len = 0 ∧ cap = 0) ∨ ∃ b c, ι id = some (b, c) ∧ a = some ⟨b, off * sz, none⟩ ∧ (off + cap) * sz ≤ c ∧ len ≤ cap

inductive RepA (P : Program) (w : World) (N : Nat → Prop) (H : Heap) (ι : Place) : AV → Value → Prop where
  | imm {d v} (h : RepD P w N d v) : RepA P w N H ι (.imm d) v
  | row {id s off len a cap} (hu : H id ≠ none) (hs : len = 0 ∨ ∃ x, a = some x) (hc : len ≤ cap) (h : ∀ r, H id = some r → r.live = true → r.sz = s ∧ SlPos ι id s off len a cap) : RepA P w N H ι (.row id s off len) (.slice a len cap)
  | all {id s a len cap} (hu : H id ≠ none) (hs : len = 0 ∨ ∃ x, a = some x) (hc : len ≤ cap) (h : ∀ r, H id = some r → r.live = true → r.dim = (s, len) ∧ SlPos ι id s 0 len a cap) : RepA P w N H ι (.all id s) (.slice a len cap)
  | ptr {id i j x} (hu : H id ≠ none) (h : ∀ r, H id = some r → r.live = true → ∃ b c, ι id = some (b, c) ∧ x = ⟨b, i * r.sz + j, none⟩) : RepA P w N H ι (.ptr id i j) (.pointer (some x))
  | eptr {d i j b off len cap v} (h : RepD P w N d (.slice (some ⟨b, off, none⟩) len cap)) (hi : i < len) (hv : v = .pointer (some ⟨b, off + i * d.sz + j, none⟩)) : RepA P w N H ι (.eptr d i j) v
  | dptr {cs j b v} (h : RepD P w N (.pbox cs) (.pointer (some ⟨b, 0, none⟩))) (hv : v = .pointer (some ⟨b, j, none⟩)) : RepA P w N H ι (.dptr cs j) v
  | agg {cs} {vs : Array Value} (hl : vs.size = cs.length) (h : ∀ i (hi : i < cs.length), RepA P w N H ι cs[i] (vs.getD i Go.undef)) : RepA P w N H ι (.agg cs) (.agg vs)
  | tup {cs} {vs : Array Value} (hl : vs.size = cs.length) (h : ∀ i (hi : i < cs.length), RepA P w N H ι cs[i] (vs.getD i Go.undef)) : RepA P w N H ι (.tup cs) (.tuple vs)
  | clo {f cs} {vs : Array Value} (hl : vs.size = cs.length) (h : ∀ i (hi : i < cs.length), RepA P w N H ι cs[i] (vs.getD i Go.undef)) : RepA P w N H ι (.clo f cs) (.func (.func f) #[] vs)
  | yld {id v} (hu : H id ≠ none) (hv : ∃ b, v = .func (.yield b) #[] #[]) (h : ∀ r, H id = some r → r.live = true → ∃ b c, ι id = some (b, c) ∧ v = .func (.yield b) #[] #[]) : RepA P w N H ι (.yld id) v
  | dfr {id v} (hu : H id ≠ none) (hv : ∃ b, v = .map (some b)) (h : ∀ r, H id = some r → r.live = true → ∃ b c, ι id = some (b, c) ∧ v = .map (some b)) : RepA P w N H ι (.dfr id) v
  | undef : RepA P w N H ι .undef Go.undef
  | dead {v} : RepA P w N H ι .dead v

/-- Rows that are alive go on as they are, at their places; what was used stays used. -/
def Ext (H H' : Heap) (ι ι' : Place) : Prop :=
  ∀ id r, H id = some r → ∃ r', H' id = some r' ∧ (r'.live = true → r.live = true ∧ r'.dim = r.dim ∧ ι' id = ι id)

theorem Ext.refl (H : Heap) (ι : Place) : Ext H H ι ι := fun _ r h => ⟨r, h, fun hl => ⟨hl, rfl, rfl⟩⟩

theorem Ext.trans {H1 H2 H3 : Heap} {ι1 ι2 ι3 : Place} (h : Ext H1 H2 ι1 ι2) (g : Ext H2 H3 ι2 ι3) : Ext H1 H3 ι1 ι3 := fun id r hr => by
  obtain ⟨r2, h2, l2⟩ := h id r hr
  obtain ⟨r3, h3, l3⟩ := g id r2 h2
  refine ⟨r3, h3, fun hl => ?_⟩
  obtain ⟨a, b, c⟩ := l3 hl
  obtain ⟨a', b', c'⟩ := l2 a
  exact ⟨a', b.trans b', c.trans c'⟩

theorem RepA.mono {w w' : World} {N N' : Nat → Prop} {H H' : Heap} {ι ι' : Place} {d : AV} {v : Value} (h : RepA P w N H ι d v) (hN : ∀ b, N b → N' b)
    (hc : ∀ b o, N b → w'.cell? ⟨b, o, none⟩ = w.cell? ⟨b, o, none⟩) (hE : Ext H H' ι ι') : RepA P w' N' H' ι' d v := by
  induction h with
  | imm h => exact .imm (h.mono hN hc)
  | @row id s off len a cap hu hs hcp h =>
    obtain ⟨r, hr⟩ := Option.ne_none_iff_exists'.1 hu
    obtain ⟨r', hr', hl⟩ := hE id r hr
    refine .row (by rw [hr']; simp) hs hcp fun r2 h2 l2 => ?_
    obtain rfl : r' = r2 := by rw [hr'] at h2; exact Option.some.inj h2
    obtain ⟨a1, a2, a3⟩ := hl l2
    have := h r hr a1
    unfold SlPos at *
    rw [show r'.sz = r.sz from congrArg Prod.fst a2, a3]
    exact this
  | @all id s a len cap hu hs hcp h =>
    obtain ⟨r, hr⟩ := Option.ne_none_iff_exists'.1 hu
    obtain ⟨r', hr', hl⟩ := hE id r hr
    refine .all (by rw [hr']; simp) hs hcp fun r2 h2 l2 => ?_
    obtain rfl : r' = r2 := by rw [hr'] at h2; exact Option.some.inj h2
    obtain ⟨a1, a2, a3⟩ := hl l2
    have := h r hr a1
    unfold SlPos at *
    rw [a2, a3]
    exact this
  | @ptr id i j x hu h =>
    obtain ⟨r, hr⟩ := Option.ne_none_iff_exists'.1 hu
    obtain ⟨r', hr', hl⟩ := hE id r hr
    refine .ptr (by rw [hr']; simp) fun r2 h2 l2 => ?_
    obtain rfl : r' = r2 := by rw [hr'] at h2; exact Option.some.inj h2
    obtain ⟨a1, a2, a3⟩ := hl l2
    have := h r hr a1
    rw [show r'.sz = r.sz from congrArg Prod.fst a2, a3]
    exact this
  | eptr h hi hv => exact .eptr (h.mono hN hc) hi hv
  | dptr h hv => exact .dptr (h.mono hN hc) hv
  | agg hl _ ih => exact .agg hl ih
  | tup hl _ ih => exact .tup hl ih
  | clo hl _ ih => exact .clo hl ih
  | @yld id v hu hv h =>
    obtain ⟨r, hr⟩ := Option.ne_none_iff_exists'.1 hu
    obtain ⟨r', hr', hl⟩ := hE id r hr
    refine .yld (by rw [hr']; simp) hv fun r2 h2 l2 => ?_
    obtain rfl : r' = r2 := by rw [hr'] at h2; exact Option.some.inj h2
    obtain ⟨a1, a2, a3⟩ := hl l2
    rw [a3]
    exact h r hr a1
  | @dfr id v hu hv h =>
    obtain ⟨r, hr⟩ := Option.ne_none_iff_exists'.1 hu
    obtain ⟨r', hr', hl⟩ := hE id r hr
    refine .dfr (by rw [hr']; simp) hv fun r2 h2 l2 => ?_
    obtain rfl : r' = r2 := by rw [hr'] at h2; exact Option.some.inj h2
    obtain ⟨a1, a2, a3⟩ := hl l2
    rw [a3]
    exact h r hr a1
  | undef => exact .undef
  | dead => exact .dead

/-- What a row that is alive has in the world. -/
def RepRow (P : Program) (w : World) (N : Nat → Prop) (H : Heap) (ι : Place) (id : Nat) : Row → Prop
  | .ints k xs => (ι id = none ∧ xs = []) ∨ ∃ b c arr e, ι id = some (b, c) ∧ w.heap[b]? = some (.cells arr e (0, 0)) ∧ arr.size = c ∧ xs.length ≤ c ∧
      ∀ i (_ : i < xs.length), arr[i]? = some (.int k xs[i])
  | .ds s xs => (∀ x ∈ xs, x.cells.length = s) ∧ ((ι id = none ∧ xs = []) ∨ ∃ b c arr e, ι id = some (b, c) ∧ w.heap[b]? = some (.cells arr e (0, 0)) ∧ arr.size = c ∧ (D.flat xs).length ≤ c ∧
      ∃ f : Nat → Value, ∀ i (hi : i < (D.flat xs).length), arr[i]? = some (f i) ∧ RepD P w N (D.flat xs)[i] (f i))
  | .box cs => ∃ b c arr e, ι id = some (b, c) ∧ w.heap[b]? = some (.cells arr e (0, 0)) ∧ arr.size = c ∧ cs.length = c ∧
      ∃ f : Nat → Value, ∀ i (hi : i < cs.length), arr[i]? = some (f i) ∧ RepA P w N H ι cs[i] (f i)
  | .loop _ ts ps as bd st => ∃ b c L, ι id = some (b, c) ∧ w.heap[b]? = some (.loop L) ∧ L.state = st.state ∧ L.pending = st.pending ∧ L.params = ps.toArray ∧ L.assign = as ∧ L.body = bd ∧ L.tmps.size = ts.length ∧
      ∀ i (hi : i < ts.length), RepA P w N H ι ts[i] (L.tmps.getD i Go.undef)
  | .dfr => ∃ b c, ι id = some (b, c) ∧ w.heap[b]? = some (.deferred (some []))
  | .dead => True

/-- The state of an abstract run: temporaries and rows. -/
structure St where
  t : List AV
  H : Heap
  p : List AV
  d : List AV := []

/-- What holds of memory in the middle of a run. w0, S, N0: the world, the blocks that may turn, the blocks of data, when it began. -/
structure Inv (P : Program) (w0 : World) (S N0 : Nat → Prop) (H : Heap) (w : World) (N : Nat → Prop) (ι : Place) : Prop where
  keeps : Keeps S w0 w
  rows : ∀ id r, H id = some r → RepRow P w N H ι id r
  inj : ∀ id id' r r' b c c', H id = some r → H id' = some r' → r.live = true → r'.live = true → ι id = some (b, c) → ι id' = some (b, c') → id = id'
  own : ∀ id r b c, H id = some r → r.live = true → ι id = some (b, c) → (S b ∨ w0.heap.size ≤ b) ∧ ¬ N b
  lt : ∀ b, N b → b < w.heap.size
  old : ∀ b, N b → N0 b ∨ w0.heap.size ≤ b
  new : ∀ b, N0 b → N b

/-- A row that is alive lies in the heap. -/
theorem Inv.blk {w0 : World} {S N0 : Nat → Prop} {H : Heap} {w : World} {N : Nat → Prop} {ι : Place} (h : Inv P w0 S N0 H w N ι) {id : Nat} {r : Row} {b c : Nat} (hr : H id = some r) (hl : r.live = true) (hι : ι id = some (b, c)) :
    b < w.heap.size := by
  have := h.rows id r hr
  have key : ∀ {o : Obj}, w.heap[b]? = some o → b < w.heap.size := fun h => (Array.getElem?_eq_some_iff.1 h).1
  cases r with
  | dead => simp [Row.live] at hl
  | ints k xs =>
    rcases this with ⟨h0, _⟩ | ⟨b', c', arr, e, h1, h2, h3, _⟩
    · rw [hι] at h0; cases h0
    · rw [hι] at h1; cases h1; exact key h2
  | ds s xs =>
    rcases this.2 with ⟨h0, _⟩ | ⟨b', c', arr, e, h1, h2, h3, _⟩
    · rw [hι] at h0; cases h0
    · rw [hι] at h1; cases h1; exact key h2
  | box cs =>
    obtain ⟨b', c', arr, e, h1, h2, h3, _⟩ := this
    rw [hι] at h1; cases h1; exact key h2
  | loop me ts ps as bd st =>
    obtain ⟨b', c', L, h1, h2, _⟩ := this
    rw [hι] at h1; cases h1; exact key h2
  | dfr =>
    obtain ⟨b', c', h1, h2⟩ := this
    rw [hι] at h1; cases h1; exact key h2

/-- A mark among the calls that are put off: the block of a range over a function. -/
def markOf (v : Value) : Deferred := match v with
  | .map (some b) => { target := .collected b, args := #[] }
  | _ => { target := .nil, args := #[] }

/-- The calls that are put off are marks. -/
def Marks (P : Program) (w : World) (N : Nat → Prop) (H : Heap) (ι : Place) (d : List AV) (ds : List Deferred) : Prop :=
  ∃ ms : List Value, ds = ms.map markOf ∧ RepA P w N H ι (.tup d) (.tuple ms.toArray)

/-- The machine's state is one that the abstract state tells. -/
def Rel (P : Program) (w0 : World) (S N0 : Nat → Prop) (pv : List Value) (s : St) (a : Act) (w : World) : Prop :=
  ∃ N ι, Inv P w0 S N0 s.H w N ι ∧ Marks P w N s.H ι s.d a.defers ∧ a.tmps.size = s.t.length ∧ (∀ i (hi : i < s.t.length), RepA P w N s.H ι s.t[i] (a.tmps.getD i Go.undef)) ∧
    s.p.length = pv.length ∧ ∀ i (hi : i < s.p.length) (hv : i < pv.length), RepA P w N s.H ι s.p[i] pv[i]

end Go.Ab
