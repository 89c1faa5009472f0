/-
  AN ABSTRACT LAYER over the model: data without memory ('D'), values over it ('AV'), rows that a call owns ('Row'), and what it means that a world bears them.
-/
import Derived.WalkKit
namespace Go.Ab

/-- Data without memory: what a value reads as, to the bottom. -/
inductive D where
  | int (k : IntKind) (n : Int)
  | bool (b : Bool)
  | str (s : ByteArray)
  | nils
  | nilp
  | ints (k : IntKind) (xs : List Int)
  | seq (s : Nat) (xs : List D)
  | agg (cs : List D)
  | clo (f : FuncId) (caps : List D)
  | nilf
  | pbox (cs : List D)
  | junk

def D.cells : D → List D
  | .agg cs => cs
  | d => [d]

def D.flat (xs : List D) : List D := xs.flatMap D.cells

/-- The number of cells of an element of a slice. -/
def D.sz : D → Nat
  | .seq s _ => s
  | _ => 1

/-- A value bears the data d in the world w; what memory it takes lies in blocks of the class N. -/
inductive RepD (w : World) (N : Nat → Prop) : D → Value → Prop where
  | int (k n) : RepD w N (.int k n) (.int k n)
  | bool (b) : RepD w N (.bool b) (.bool b)
  | str (s) : RepD w N (.str s) (.string s)
  | nils : RepD w N .nils (.slice none 0 0)
  | nilp : RepD w N .nilp (.pointer none)
  | ints0 (k a cap) : RepD w N (.ints k []) (.slice a 0 cap)
  | ints (k xs b off cap) (hN : N b) (hc : xs.length ≤ cap) (h : ∀ i (_ : i < xs.length), w.cell? ⟨b, off + i, none⟩ = some (.int k xs[i])) :
      RepD w N (.ints k xs) (.slice (some ⟨b, off, none⟩) xs.length cap)
  | seq0 (s a cap) : RepD w N (.seq s []) (.slice a 0 cap)
  | seq (s xs b off cap) (f : Nat → Value) (hN : N b) (hc : xs.length ≤ cap) (hs : ∀ x ∈ xs, x.cells.length = s)
      (h : ∀ i (_ : i < (D.flat xs).length), w.cell? ⟨b, off + i, none⟩ = some (f i)) (hr : ∀ i (hi : i < (D.flat xs).length), RepD w N (D.flat xs)[i] (f i)) :
      RepD w N (.seq s xs) (.slice (some ⟨b, off, none⟩) xs.length cap)
  | agg (cs) (vs : Array Value) (hl : vs.size = cs.length) (h : ∀ i (hi : i < cs.length), RepD w N cs[i] (vs.getD i undef)) : RepD w N (.agg cs) (.agg vs)
  | clo (f caps) (vs : Array Value) (hl : vs.size = caps.length) (h : ∀ i (hi : i < caps.length), RepD w N caps[i] (vs.getD i undef)) : RepD w N (.clo f caps) (.func (.func f) #[] vs)
  | nilf : RepD w N .nilf .nilFunc
  | pbox (cs b) (g : Nat → Value) (hN : N b) (hc : ∀ i, i < cs.length → w.cell? ⟨b, i, none⟩ = some (g i)) (hr : ∀ i (hi : i < cs.length), RepD w N cs[i] (g i)) : RepD w N (.pbox cs) (.pointer (some ⟨b, 0, none⟩))
  | junk (v) (h : v.oneCell' = true) : RepD w N .junk v

theorem RepD.mono {w w' : World} {N N' : Nat → Prop} {d : D} {v : Value} (h : RepD w N d v) (hN : ∀ b, N b → N' b)
    (hc : ∀ b o, N b → w'.cell? ⟨b, o, none⟩ = w.cell? ⟨b, o, none⟩) : RepD w' N' d v := by
  induction h with
  | int k n => exact .int k n
  | bool b => exact .bool b
  | str s => exact .str s
  | nils => exact .nils
  | nilp => exact .nilp
  | ints0 k a cap => exact .ints0 k a cap
  | ints k xs b off cap hb hl h => exact .ints k xs b off cap (hN b hb) hl fun i hi => by rw [hc _ _ hb]; exact h i hi
  | seq0 s a cap => exact .seq0 s a cap
  | seq s xs b off cap f hb hl hs h _ ih => exact .seq s xs b off cap f (hN b hb) hl hs (fun i hi => by rw [hc _ _ hb]; exact h i hi) ih
  | agg cs vs hl _ ih => exact .agg cs vs hl ih
  | clo f caps vs hl _ ih => exact .clo f caps vs hl ih
  | nilf => exact .nilf
  | pbox cs b g hb hg _ ih => exact .pbox cs b g (hN b hb) (fun i hi => by rw [hc _ _ hb]; exact hg i hi) ih
  | junk v h => exact .junk v h

/-- Abstract values: data; a slice into a row that the call owns; a pointer into such a row (element i, cell j of it); the address of a cell of data; parts. -/
inductive AV where
  | imm (d : D)
  | row (id s off len : Nat)
  | all (id s : Nat)
  | ptr (id i j : Nat)
  | eptr (d : D) (i j : Nat)
  | dptr (cs : List D) (j : Nat)
  | agg (cs : List AV)
  | tup (vs : List AV)
  | undef
  | dead

def AV.cells : AV → List AV
  | .agg cs => cs
  | .imm (.agg cs) => cs.map .imm
  | a => [a]

inductive Row where
  | ints (k : IntKind) (xs : List Int)
  | ds (s : Nat) (xs : List D)
  | box (cs : List AV)
  | dead

def Row.live : Row → Bool
  | .dead => false
  | _ => true

def Row.sz : Row → Nat
  | .ints _ _ => 1
  | .ds s _ => s
  | .box cs => cs.length
  | .dead => 0

def Row.len : Row → Nat
  | .ints _ xs => xs.length
  | .ds _ xs => xs.length
  | .box _ => 1
  | .dead => 0

def Row.dim (r : Row) : Nat × Nat := (r.sz, r.len)

abbrev Heap := Nat → Option Row
abbrev Place := Nat → Option (Nat × Nat)

def Heap.set (H : Heap) (id : Nat) (r : Row) : Heap := fun x => if x = id then some r else H x

/-- Where a slice into the row id lies. -/
def SlPos (ι : Place) (id sz off len : Nat) (a : Option Addr) (cap : Nat) : Prop :=
  (len = 0 ∧ cap = 0) ∨ ∃ b c, ι id = some (b, c) ∧ a = some ⟨b, off * sz, none⟩ ∧ (off + cap) * sz ≤ c ∧ len ≤ cap

inductive RepA (w : World) (N : Nat → Prop) (H : Heap) (ι : Place) : AV → Value → Prop where
  | imm {d v} (h : RepD w N d v) : RepA w N H ι (.imm d) v
  | row {id s off len a cap} (hu : H id ≠ none) (hs : len = 0 ∨ ∃ x, a = some x) (hc : len ≤ cap) (h : ∀ r, H id = some r → r.live = true → r.sz = s ∧ SlPos ι id s off len a cap) : RepA w N H ι (.row id s off len) (.slice a len cap)
  | all {id s a len cap} (hu : H id ≠ none) (hs : len = 0 ∨ ∃ x, a = some x) (hc : len ≤ cap) (h : ∀ r, H id = some r → r.live = true → r.dim = (s, len) ∧ SlPos ι id s 0 len a cap) : RepA w N H ι (.all id s) (.slice a len cap)
  | ptr {id i j x} (hu : H id ≠ none) (h : ∀ r, H id = some r → r.live = true → ∃ b c, ι id = some (b, c) ∧ x = ⟨b, i * r.sz + j, none⟩) : RepA w N H ι (.ptr id i j) (.pointer (some x))
  | eptr {d i j b off len cap v} (h : RepD w N d (.slice (some ⟨b, off, none⟩) len cap)) (hi : i < len) (hv : v = .pointer (some ⟨b, off + i * d.sz + j, none⟩)) : RepA w N H ι (.eptr d i j) v
  | dptr {cs j b v} (h : RepD w N (.pbox cs) (.pointer (some ⟨b, 0, none⟩))) (hv : v = .pointer (some ⟨b, j, none⟩)) : RepA w N H ι (.dptr cs j) v
  | agg {cs} {vs : Array Value} (hl : vs.size = cs.length) (h : ∀ i (hi : i < cs.length), RepA w N H ι cs[i] (vs.getD i Go.undef)) : RepA w N H ι (.agg cs) (.agg vs)
  | tup {cs} {vs : Array Value} (hl : vs.size = cs.length) (h : ∀ i (hi : i < cs.length), RepA w N H ι cs[i] (vs.getD i Go.undef)) : RepA w N H ι (.tup cs) (.tuple vs)
  | undef : RepA w N H ι .undef Go.undef
  | dead {v} : RepA w N H ι .dead v

/-- Rows that are alive go on as they are, at their places; what was used stays used. -/
def Ext (H H' : Heap) (ι ι' : Place) : Prop :=
  ∀ id r, H id = some r → ∃ r', H' id = some r' ∧ (r'.live = true → r.live = true ∧ r'.dim = r.dim ∧ ι' id = ι id)

theorem Ext.refl (H : Heap) (ι : Place) : Ext H H ι ι := fun _ r h => ⟨r, h, fun hl => ⟨hl, rfl, rfl⟩⟩

theorem Ext.trans {H1 H2 H3 : Heap} {ι1 ι2 ι3 : Place} (h : Ext H1 H2 ι1 ι2) (g : Ext H2 H3 ι2 ι3) : Ext H1 H3 ι1 ι3 := fun id r hr => by
  obtain ⟨r2, h2, l2⟩ := h id r hr
  obtain ⟨r3, h3, l3⟩ := g id r2 h2
  refine ⟨r3, h3, fun hl => ?_⟩
  obtain ⟨a, b, c⟩ := l3 hl
  obtain ⟨a', b', c'⟩ := l2 a
  exact ⟨a', b.trans b', c.trans c'⟩

theorem RepA.mono {w w' : World} {N N' : Nat → Prop} {H H' : Heap} {ι ι' : Place} {d : AV} {v : Value} (h : RepA w N H ι d v) (hN : ∀ b, N b → N' b)
    (hc : ∀ b o, N b → w'.cell? ⟨b, o, none⟩ = w.cell? ⟨b, o, none⟩) (hE : Ext H H' ι ι') : RepA w' N' H' ι' d v := by
  induction h with
  | imm h => exact .imm (h.mono hN hc)
  | @row id s off len a cap hu hs hcp h =>
    obtain ⟨r, hr⟩ := Option.ne_none_iff_exists'.1 hu
    obtain ⟨r', hr', hl⟩ := hE id r hr
    refine .row (by rw [hr']; simp) hs hcp fun r2 h2 l2 => ?_
    obtain rfl : r' = r2 := by rw [hr'] at h2; exact Option.some.inj h2
    obtain ⟨a1, a2, a3⟩ := hl l2
    have := h r hr a1
    unfold SlPos at *
    rw [show r'.sz = r.sz from congrArg Prod.fst a2, a3]
    exact this
  | @all id s a len cap hu hs hcp h =>
    obtain ⟨r, hr⟩ := Option.ne_none_iff_exists'.1 hu
    obtain ⟨r', hr', hl⟩ := hE id r hr
    refine .all (by rw [hr']; simp) hs hcp fun r2 h2 l2 => ?_
    obtain rfl : r' = r2 := by rw [hr'] at h2; exact Option.some.inj h2
    obtain ⟨a1, a2, a3⟩ := hl l2
    have := h r hr a1
    unfold SlPos at *
    rw [a2, a3]
    exact this
  | @ptr id i j x hu h =>
    obtain ⟨r, hr⟩ := Option.ne_none_iff_exists'.1 hu
    obtain ⟨r', hr', hl⟩ := hE id r hr
    refine .ptr (by rw [hr']; simp) fun r2 h2 l2 => ?_
    obtain rfl : r' = r2 := by rw [hr'] at h2; exact Option.some.inj h2
    obtain ⟨a1, a2, a3⟩ := hl l2
    have := h r hr a1
    rw [show r'.sz = r.sz from congrArg Prod.fst a2, a3]
    exact this
  | eptr h hi hv => exact .eptr (h.mono hN hc) hi hv
  | dptr h hv => exact .dptr (h.mono hN hc) hv
  | agg hl _ ih => exact .agg hl ih
  | tup hl _ ih => exact .tup hl ih
  | undef => exact .undef
  | dead => exact .dead

/-- What a row that is alive has in the world. -/
def RepRow (w : World) (N : Nat → Prop) (H : Heap) (ι : Place) (id : Nat) : Row → Prop
  | .ints k xs => (ι id = none ∧ xs = []) ∨ ∃ b c arr e, ι id = some (b, c) ∧ w.heap[b]? = some (.cells arr e (0, 0)) ∧ arr.size = c ∧ xs.length ≤ c ∧
      ∀ i (_ : i < xs.length), arr[i]? = some (.int k xs[i])
  | .ds s xs => (∀ x ∈ xs, x.cells.length = s) ∧ ((ι id = none ∧ xs = []) ∨ ∃ b c arr e, ι id = some (b, c) ∧ w.heap[b]? = some (.cells arr e (0, 0)) ∧ arr.size = c ∧ (D.flat xs).length ≤ c ∧
      ∃ f : Nat → Value, ∀ i (hi : i < (D.flat xs).length), arr[i]? = some (f i) ∧ RepD w N (D.flat xs)[i] (f i))
  | .box cs => ∃ b c arr e, ι id = some (b, c) ∧ w.heap[b]? = some (.cells arr e (0, 0)) ∧ arr.size = c ∧ cs.length = c ∧
      ∃ f : Nat → Value, ∀ i (hi : i < cs.length), arr[i]? = some (f i) ∧ RepA w N H ι cs[i] (f i)
  | .dead => True

/-- The world w has come from w0: only blocks of the class S, and new ones, have turned. -/
structure Keeps (S : Nat → Prop) (w0 w : World) : Prop where
  os : w.os = w0.os
  tape : w.tape = w0.tape
  output : w.output = w0.output
  size : w0.heap.size ≤ w.heap.size
  block : ∀ b, b < w0.heap.size → ¬ S b → w.heap[b]? = w0.heap[b]?
  cells : ∀ b arr e, S b → w0.heap[b]? = some (.cells arr e (0, 0)) → ∃ arr' e', w.heap[b]? = some (.cells arr' e' (0, 0)) ∧ arr'.size = arr.size

theorem Keeps.refl (S : Nat → Prop) (w : World) : Keeps S w w := ⟨rfl, rfl, rfl, Nat.le_refl _, fun _ _ _ => rfl, fun _ arr e _ h => ⟨arr, e, h, rfl⟩⟩

/-- The state of an abstract run: temporaries and rows. -/
structure St where
  t : List AV
  H : Heap
  p : List AV

/-- What holds of memory in the middle of a run. w0, S, N0: the world, the blocks that may turn, the blocks of data, when it began. -/
structure Inv (w0 : World) (S N0 : Nat → Prop) (H : Heap) (w : World) (N : Nat → Prop) (ι : Place) : Prop where
  keeps : Keeps S w0 w
  rows : ∀ id r, H id = some r → RepRow w N H ι id r
  inj : ∀ id id' r r' b c c', H id = some r → H id' = some r' → r.live = true → r'.live = true → ι id = some (b, c) → ι id' = some (b, c') → id = id'
  own : ∀ id r b c, H id = some r → r.live = true → ι id = some (b, c) → (S b ∨ w0.heap.size ≤ b) ∧ ¬ N b
  lt : ∀ b, N b → b < w.heap.size
  old : ∀ b, N b → N0 b ∨ w0.heap.size ≤ b
  new : ∀ b, N0 b → N b

theorem Inv.blk {w0 : World} {S N0 : Nat → Prop} {H : Heap} {w : World} {N : Nat → Prop} {ι : Place} (h : Inv w0 S N0 H w N ι) {id : Nat} {r : Row} {b c : Nat} (hr : H id = some r) (hl : r.live = true) (hι : ι id = some (b, c)) :
    ∃ arr e, w.heap[b]? = some (.cells arr e (0, 0)) ∧ arr.size = c := by
  have := h.rows id r hr
  cases r with
  | dead => simp [Row.live] at hl
  | ints k xs =>
    rcases this with ⟨h0, _⟩ | ⟨b', c', arr, e, h1, h2, h3, _⟩
    · rw [hι] at h0; cases h0
    · rw [hι] at h1; cases h1; exact ⟨arr, e, h2, h3⟩
  | ds s xs =>
    rcases this.2 with ⟨h0, _⟩ | ⟨b', c', arr, e, h1, h2, h3, _⟩
    · rw [hι] at h0; cases h0
    · rw [hι] at h1; cases h1; exact ⟨arr, e, h2, h3⟩
  | box cs =>
    obtain ⟨b', c', arr, e, h1, h2, h3, _⟩ := this
    rw [hι] at h1; cases h1; exact ⟨arr, e, h2, h3⟩

/-- The machine's state is one that the abstract state tells. -/
def Rel (w0 : World) (S N0 : Nat → Prop) (pv : List Value) (s : St) (a : Act) (w : World) : Prop :=
  ∃ N ι, Inv w0 S N0 s.H w N ι ∧ a.defers = [] ∧ a.tmps.size = s.t.length ∧ (∀ i (hi : i < s.t.length), RepA w N s.H ι s.t[i] (a.tmps.getD i Go.undef)) ∧
    s.p.length = pv.length ∧ ∀ i (hi : i < s.p.length) (hv : i < pv.length), RepA w N s.H ι s.p[i] pv[i]

end Go.Ab
