/-
  AN ABSTRACT LAYER, 3: operations that do not look at rows.
-/
import Derived.Test.YtfdcmbjkapcbcacAbMem
namespace Go.Ab
variable {P : Program}

def ofConst : Value → AV
  | .int k n => .imm (.int k n)
  | .bool b => .imm (.bool b)
  | .string s => .imm (.str s)
  | .slice none 0 0 => .imm .nils
  | .pointer none => .imm .nilp
  | .nilFunc => .imm .nilf
  | .nilIface => .imm .nili
  | _ => .dead

theorem rep_ofConst (w : World) (N : Nat → Prop) (H : Heap) (ι : Place) (v : Value) : RepA P w N H ι (ofConst v) v := by
  unfold ofConst
  split
  · exact .imm (.int _ _)
  · exact .imm (.bool _)
  · exact .imm (.str _)
  · exact .imm .nils
  · exact .imm .nilp
  · exact .imm .nilf
  · exact .imm .nili
  · exact .dead

def evalA (t : List AV) : Operand → AV
  | .tmp i => t.getD i .dead
  | .const v => ofConst v
  | .func f => .imm (.clo f [])
  | _ => .dead

/-- 'true': the type has parts. -/
def aggT (P : Program) (t : TypeId) : Option Bool :=
  match P.underlying t with
  | some (.struct _) => some true
  | some (.array _ _) => some true
  | some _ => some false
  | none => none

def sizeT (P : Program) (t : TypeId) : Option Nat := (P.info? t).map (·.size)

section
variable {P : Program} {w : World}

theorem run_under {t : TypeId} {d : TypeDesc} (h : P.underlying t = some d) : (underlying t).run P w = .ok d w := by
  simp [underlying, h]

theorem run_isAgg {t : TypeId} {b : Bool} (h : aggT P t = some b) : (isAgg t).run P w = .ok b w := by
  unfold aggT at h
  cases hu : P.underlying t with
  | none => simp [hu] at h
  | some d =>
    simp only [isAgg, Sem.run_bind, run_under hu, Result.andThen_ok]
    rw [hu] at h
    cases d <;> simp at h <;> subst h <;> rfl

theorem run_sizeOf {t : TypeId} {n : Nat} (h : sizeT P t = some n) : (sizeOf t).run P w = .ok n w := by
  unfold sizeT at h
  cases hi : P.info? t with
  | none => simp [hi] at h
  | some i =>
    simp [hi] at h
    simp [sizeOf, typeInfo, hi, h]
end

/-- Integer operations, as the model reckons them. -/
def binInt (op : BinOp) (k : IntKind) (a b : Int) : Option D :=
  match op with
  | .add => some (.int k (k.wrap (a + b)))
  | .sub => some (.int k (k.wrap (a - b)))
  | .mul => some (.int k (k.wrap (a * b)))
  | .quo => if b = 0 then none else some (.int k (k.wrap (a.tdiv b)))
  | .rem => if b = 0 then none else some (.int k (a.tmod b))
  | .and => some (.int k (k.wrap (BitVec.ofInt k.bits a &&& BitVec.ofInt k.bits b).toNat))
  | .or => some (.int k (k.wrap (BitVec.ofInt k.bits a ||| BitVec.ofInt k.bits b).toNat))
  | .xor => some (.int k (k.wrap (BitVec.ofInt k.bits a ^^^ BitVec.ofInt k.bits b).toNat))
  | .eql => some (.bool (a == b))
  | .neq => some (.bool (a != b))
  | .lss => some (.bool (decide (a < b)))
  | .leq => some (.bool (decide (a ≤ b)))
  | .gtr => some (.bool (decide (a > b)))
  | .geq => some (.bool (decide (a ≥ b)))
  | .shr => if b < 0 then none else some (.int k (a.fdiv (2 ^ min b.toNat k.bits)))
  | _ => none

def binStr (op : BinOp) (a b : ByteArray) : Option D :=
  match op with
  | .add => if ((a.size + b.size : Nat) : Int) > IntKind.i64.max then none else some (.str (a ++ b))
  | .eql => some (.bool (a.toList == b.toList))
  | .neq => some (.bool (!(a.toList == b.toList)))
  | _ => none

def binBool (P : Program) (op : BinOp) (t : TypeId) (a b : Bool) : Option D :=
  match P.underlying t, op with
  | some .bool, .eql => some (.bool (a == b))
  | some .bool, .neq => some (.bool (!(a == b)))
  | _, _ => none

def binFn (P : Program) (op : BinOp) (t : TypeId) (b : Bool) : Option D :=
  match P.underlying t, op with
  | some (.func _ _ _), .eql => some (.bool b)
  | some (.func _ _ _), .neq => some (.bool (!b))
  | _, _ => none

def binIf (P : Program) (op : BinOp) (t : TypeId) (b : Bool) : Option D :=
  match P.underlying t, op with
  | some (.interface _), .eql => some (.bool b)
  | some (.interface _), .neq => some (.bool (!b))
  | _, _ => none

/-- Two structs whose fields are integers, field by field. -/
def binFields (P : Program) : List Field → List D → List D → Option Bool
  | [], _, _ => some true
  | f :: fs, xs, ys =>
    if f.name ≠ "_" then
      match P.underlying f.type, xs[f.offset]?, ys[f.offset]? with
      | some (.int _), some (.int k a), some (.int k' b) => if k = k' then (binFields P fs xs ys).map fun r => (a == b) && r else none
      | _, _, _ => none
    else none

def binAgg (P : Program) (op : BinOp) (t : TypeId) (xs ys : List D) : Option D :=
  match P.underlying t with
  | some (.struct fs) => if P.eqGuardType P.depth t = false ∧ P.stoodInHeld t = false then (binFields P fs.toList xs ys).bind fun r => match op with
      | .eql => some (.bool r)
      | .neq => some (.bool (!r))
      | _ => none
    else none
  | _ => none

/-- One kind for both. -/
def binD (P : Program) (op : BinOp) (t : TypeId) : D → D → Option D
  | .int k a, .int k' b => if k = k' then binInt op k a b else none
  | .str a, .str b => binStr op a b
  | .bool a, .bool b => binBool P op t a b
  | .clo _ _, .nilf => binFn P op t false
  | .fn _ _ _, .nilf => binFn P op t false
  | .nilf, .fn _ _ _ => binFn P op t false
  | .nilf, .clo _ _ => binFn P op t false
  | .nilf, .nilf => binFn P op t true
  | .iface _ _, .nili => binIf P op t false
  | .nili, .iface _ _ => binIf P op t false
  | .agg xs, .agg ys => binAgg P op t xs ys
  | _, _ => none

def binA (P : Program) (op : BinOp) (t : TypeId) : AV → AV → Option AV
  | .imm a, .imm b => (binD P op t a b).map .imm
  | _, _ => none

theorem run_equal_bool {P : Program} {w : World} {t : TypeId} {a b : Bool} (hu : P.underlying t = some .bool) : (Op.equal t (.bool a) (.bool b)).run P w = .ok (a == b) w := by
  show (Op.equalIn (9999 + 1) t (.bool a) (.bool b)).run P w = _
  unfold Op.equalIn
  simp only [Sem.run_bind, run_under hu, Result.andThen_ok, Sem.run_pure]

theorem run_equal_func {P : Program} {w : World} {t : TypeId} {a b c} {u v : Value} {r : Bool} (hu : P.underlying t = some (.func a b c)) (h : (u = .nilFunc ∧ v = .nilFunc ∧ r = true) ∨ (u = .nilFunc ∧ (∃ f x y, v = .func f x y) ∧ r = false) ∨ ((∃ f x y, u = .func f x y) ∧ v = .nilFunc ∧ r = false)) :
    (Op.equal t u v).run P w = .ok r w := by
  show (Op.equalIn (9999 + 1) t u v).run P w = _
  unfold Op.equalIn
  rcases h with ⟨rfl, rfl, rfl⟩ | ⟨rfl, ⟨f, x, y, rfl⟩, rfl⟩ | ⟨⟨f, x, y, rfl⟩, rfl, rfl⟩ <;> simp only [Sem.run_bind, run_under hu, Result.andThen_ok, Sem.run_pure]

theorem binFn_sound {P : Program} {w : World} {N : Nat → Prop} {op : BinOp} {t : TypeId} {x y : Operand} {r : Bool} {c : D} {u v : Value} (h : binFn P op t r = some c)
    (hv : (u = .nilFunc ∧ v = .nilFunc ∧ r = true) ∨ (u = .nilFunc ∧ (∃ f x y, v = .func f x y) ∧ r = false) ∨ ((∃ f x y, u = .func f x y) ∧ v = .nilFunc ∧ r = false)) :
    ∃ z, ((do eqGuard op t x y u v; binOp op t u v) : Sem Value).run P w = .ok z w ∧ RepD P w N c z := by
  have hg : (eqGuard op t x y u v).run P w = .ok () w := by
    unfold eqGuard
    rcases hv with ⟨rfl, rfl, rfl⟩ | ⟨rfl, ⟨f, x, y, rfl⟩, rfl⟩ | ⟨⟨f, x, y, rfl⟩, rfl, rfl⟩ <;> cases op <;> simp
  simp only [Sem.run_bind, hg, Result.andThen_ok]
  unfold binFn at h
  split at h <;> simp at h
  all_goals subst h
  all_goals rename_i hu
  · refine ⟨.bool r, ?_, .bool _⟩
    have := run_equal_func (w := w) hu hv
    rcases hv with ⟨rfl, rfl, rfl⟩ | ⟨rfl, ⟨f, x, y, rfl⟩, rfl⟩ | ⟨⟨f, x, y, rfl⟩, rfl, rfl⟩ <;> simp [binOp, this]
  · refine ⟨.bool (!r), ?_, .bool _⟩
    have := run_equal_func (w := w) hu hv
    rcases hv with ⟨rfl, rfl, rfl⟩ | ⟨rfl, ⟨f, x, y, rfl⟩, rfl⟩ | ⟨⟨f, x, y, rfl⟩, rfl, rfl⟩ <;> simp [binOp, this]

theorem run_equal_if {P : Program} {w : World} {t : TypeId} {ms} {u v : Value} {r : Bool} (hu : P.underlying t = some (.interface ms)) (h : (u = .nilIface ∧ v = .nilIface ∧ r = true) ∨ (u = .nilIface ∧ (∃ f x, v = .iface f x) ∧ r = false) ∨ ((∃ f x, u = .iface f x) ∧ v = .nilIface ∧ r = false)) :
    (Op.equal t u v).run P w = .ok r w := by
  show (Op.equalIn (9999 + 1) t u v).run P w = _
  unfold Op.equalIn
  rcases h with ⟨rfl, rfl, rfl⟩ | ⟨rfl, ⟨f, x, rfl⟩, rfl⟩ | ⟨⟨f, x, rfl⟩, rfl, rfl⟩ <;> simp only [Sem.run_bind, run_under hu, Result.andThen_ok, Sem.run_pure]

theorem binIf_sound' {P : Program} {w : World} {N : Nat → Prop} {op : BinOp} {t : TypeId} {r : Bool} {c : D} {u v : Value} (h : binIf P op t r = some c)
    (hv : (u = .nilIface ∧ v = .nilIface ∧ r = true) ∨ (u = .nilIface ∧ (∃ f x, v = .iface f x) ∧ r = false) ∨ ((∃ f x, u = .iface f x) ∧ v = .nilIface ∧ r = false)) :
    ∃ z, (binOp op t u v : Sem Value).run P w = .ok z w ∧ RepD P w N c z := by
  unfold binIf at h
  split at h <;> simp at h
  all_goals subst h
  all_goals rename_i hu
  · refine ⟨.bool r, ?_, .bool _⟩
    have := run_equal_if (w := w) hu hv
    rcases hv with ⟨rfl, rfl, rfl⟩ | ⟨rfl, ⟨f, x, rfl⟩, rfl⟩ | ⟨⟨f, x, rfl⟩, rfl, rfl⟩ <;> simp only [binOp] <;> simp [this]
  · refine ⟨.bool (!r), ?_, .bool _⟩
    have := run_equal_if (w := w) hu hv
    rcases hv with ⟨rfl, rfl, rfl⟩ | ⟨rfl, ⟨f, x, rfl⟩, rfl⟩ | ⟨⟨f, x, rfl⟩, rfl, rfl⟩ <;> simp only [binOp] <;> simp [this]

theorem binIf_sound {P : Program} {w : World} {N : Nat → Prop} {op : BinOp} {t : TypeId} {x y : Operand} {r : Bool} {c : D} {u v : Value} (h : binIf P op t r = some c)
    (hv : (u = .nilIface ∧ v = .nilIface ∧ r = true ∧ False) ∨ (u = .nilIface ∧ (∃ f x, v = .iface f x) ∧ r = false) ∨ ((∃ f x, u = .iface f x) ∧ v = .nilIface ∧ r = false)) :
    ∃ z, ((do eqGuard op t x y u v; binOp op t u v) : Sem Value).run P w = .ok z w ∧ RepD P w N c z := by
  have hg : (eqGuard op t x y u v).run P w = .ok () w := by
    unfold eqGuard
    rcases hv with ⟨_, _, _, h⟩ | ⟨rfl, ⟨f, x, rfl⟩, rfl⟩ | ⟨⟨f, x, rfl⟩, rfl, rfl⟩
    · exact h.elim
    · cases op <;> simp
    · cases op <;> simp
  simp only [Sem.run_bind, hg, Result.andThen_ok]
  exact binIf_sound' h (hv.imp (fun h => ⟨h.1, h.2.1, h.2.2.1⟩) id)

theorem run_forIn_all {P : Program} {w : World} {α : Type} (f : α → Option Bool × Unit → Sem (ForInStep (Option Bool × Unit))) (g : α → Bool) : ∀ (fs : List α),
    (∀ a ∈ fs, (f a (none, ())).run P w = .ok (if g a then .yield (none, ()) else .done (some false, ())) w) → (forIn fs ((none, ()) : Option Bool × Unit) f).run P w = .ok (if fs.all g then none else some false, ()) w
  | [], _ => by simp [List.forIn_nil]
  | a :: fs, h => by
    have h1 := h a (by simp)
    have ih := run_forIn_all f g fs fun x hx => h x (by simp [hx])
    rw [List.forIn_cons, Sem.run_bind, h1]
    cases hg : g a with
    | false => simp [hg, Result.andThen_ok]
    | true => simp [hg, Result.andThen_ok, ih]

theorem binFields_spec {P : Program} {w : World} {N : Nat → Prop} {xs ys : List D} {us vs : Array Value} (hu : us.size = xs.length) (hv : vs.size = ys.length)
    (hx : ∀ i (hi : i < xs.length), RepD P w N xs[i] (us.getD i Go.undef)) (hy : ∀ i (hi : i < ys.length), RepD P w N ys[i] (vs.getD i Go.undef)) : ∀ {fs : List Field} {r : Bool}, binFields P fs xs ys = some r →
    ∃ g : Field → Bool, r = fs.all g ∧ ∀ f ∈ fs, f.name ≠ "_" ∧ ∃ k a b kd, P.underlying f.type = some (.int kd) ∧ us[f.offset]? = some (.int k a) ∧ vs[f.offset]? = some (.int k b) ∧ g f = (a == b) := by
  intro fs
  have key : ∀ (f : Field) k a b, xs[f.offset]? = some (.int k a) → ys[f.offset]? = some (.int k b) → us[f.offset]? = some (.int k a) ∧ vs[f.offset]? = some (.int k b) := by
    intro f k a b h1 h2
    obtain ⟨i1, e1⟩ := List.getElem?_eq_some_iff.1 h1
    obtain ⟨i2, e2⟩ := List.getElem?_eq_some_iff.1 h2
    have r1 := hx _ i1
    have r2 := hy _ i2
    rw [e1] at r1
    rw [e2] at r2
    have g1 : us.getD f.offset Go.undef = .int k a := by
      generalize us.getD f.offset Go.undef = v at r1
      cases r1; rfl
    have g2 : vs.getD f.offset Go.undef = .int k b := by
      generalize vs.getD f.offset Go.undef = v at r2
      cases r2; rfl
    refine ⟨?_, ?_⟩
    · rw [← g1]; simp [hu, i1]
    · rw [← g2]; simp [hv, i2]
  have val : ∃ g : Field → Bool, ∀ (f : Field) k a b, xs[f.offset]? = some (.int k a) → ys[f.offset]? = some (.int k b) → g f = (a == b) :=
    ⟨fun f => match xs[f.offset]?, ys[f.offset]? with | some (.int _ a), some (.int _ b) => a == b | _, _ => true, fun f k a b h1 h2 => by simp only [h1, h2]⟩
  obtain ⟨g, hg⟩ := val
  suffices ∀ {fs : List Field} {r : Bool}, binFields P fs xs ys = some r → r = fs.all g ∧ ∀ f ∈ fs, f.name ≠ "_" ∧ ∃ k a b kd, P.underlying f.type = some (.int kd) ∧ us[f.offset]? = some (.int k a) ∧ vs[f.offset]? = some (.int k b) ∧ g f = (a == b) from fun {r} h => ⟨g, this h⟩
  intro fs
  induction fs with
  | nil => intro r h; simp only [binFields, Option.some.injEq] at h; subst h; exact ⟨rfl, fun _ h => by cases h⟩
  | cons f fs ih =>
    intro r h
    rw [binFields] at h
    split at h
    case isFalse => cases h
    rename_i hn
    split at h
    case h_2 => cases h
    rename_i kd k a k' b e0 e1 e2
    split at h
    case isFalse => cases h
    rename_i hk
    subst hk
    simp only [Option.map_eq_some_iff] at h
    obtain ⟨r', h, rfl⟩ := h
    obtain ⟨rfl, hf⟩ := ih h
    obtain ⟨c1, c2⟩ := key f k a b e1 e2
    refine ⟨by rw [List.all_cons, hg f k a b e1 e2], fun x hx => ?_⟩
    rcases List.mem_cons.1 hx with rfl | hx
    · exact ⟨hn, k, a, b, kd, e0, c1, c2, hg _ k a b e1 e2⟩
    · exact hf x hx

theorem run_equal_int {P : Program} {w : World} {t : TypeId} {kd k : IntKind} {a b : Int} {n : Nat} (hu : P.underlying t = some (.int kd)) : (Op.equalIn (n + 1) t (.int k a) (.int k b)).run P w = .ok (a == b) w := by
  unfold Op.equalIn
  simp only [Sem.run_bind, run_under hu, Result.andThen_ok, if_true, Sem.run_pure]

theorem run_part_cell {P : Program} {w : World} {t : TypeId} {kd : IntKind} {cs : Array Value} {off : Nat} {v : Value} (hu : P.underlying t = some (.int kd)) (h : cs[off]? = some v) : (part t cs off).run P w = .ok v w := by
  have ha : aggT P t = some false := by simp [aggT, hu]
  unfold part
  simp [run_isAgg ha, h]

theorem binAgg_sound {P : Program} {w : World} {N : Nat → Prop} {op : BinOp} {t : TypeId} {x y : Operand} {xs ys : List D} {c : D} {us vs : Array Value} (h : binAgg P op t xs ys = some c) (hu : us.size = xs.length) (hv : vs.size = ys.length)
    (hx : ∀ i (hi : i < xs.length), RepD P w N xs[i] (us.getD i Go.undef)) (hy : ∀ i (hi : i < ys.length), RepD P w N ys[i] (vs.getD i Go.undef)) :
    ∃ z, ((do eqGuard op t x y (.agg us) (.agg vs); binOp op t (.agg us) (.agg vs)) : Sem Value).run P w = .ok z w ∧ RepD P w N c z := by
  unfold binAgg at h
  split at h
  case h_2 => cases h
  rename_i fs hus
  split at h
  case isFalse => cases h
  rename_i hgd
  simp only [Option.bind_eq_some_iff] at h
  obtain ⟨r, h1, h2⟩ := h
  obtain ⟨g, rfl, hf⟩ := binFields_spec hu hv hx hy h1
  have hp : (program : Sem Program).run P w = .ok P w := rfl
  have hq : (Op.equal t (.agg us) (.agg vs)).run P w = .ok (fs.toList.all g) w := by
    show (Op.equalIn (9999 + 1) t (.agg us) (.agg vs)).run P w = _
    unfold Op.equalIn
    simp only [Sem.run_bind, run_under hus, Result.andThen_ok, hp, hgd.2, Bool.false_eq_true, if_false]
    rw [← Array.forIn_toList, run_forIn_all _ g]
    · cases fs.toList.all g <;> simp [Result.andThen_ok]
    · intro f hm
      obtain ⟨hn, k, a, b, kd, e0, e1, e2, e3⟩ := hf f hm
      rw [if_pos hn]
      simp only [Sem.run_bind, run_part_cell e0 e1, run_part_cell e0 e2, Result.andThen_ok, run_equal_int e0, e3]
      cases a == b <;> simp
  have hgu : (eqGuard op t x y (.agg us) (.agg vs)).run P w = .ok () w := by
    unfold eqGuard
    cases op <;> simp [hgd.1]
  simp only [Sem.run_bind, hgu, Result.andThen_ok]
  cases op <;> simp only [Option.some.injEq, reduceCtorEq] at h2
  · subst h2
    exact ⟨_, by simp only [binOp, Sem.run_bind, hq, Result.andThen_ok, Sem.run_pure], .bool _⟩
  · subst h2
    exact ⟨_, by simp only [binOp, Sem.run_bind, hq, Result.andThen_ok, Sem.run_pure], .bool _⟩

theorem binD_sound {P : Program} {w : World} {N : Nat → Prop} {op : BinOp} {t : TypeId} {x y : Operand} {a b c : D} {u v : Value} (h : binD P op t a b = some c) (ha : RepD P w N a u) (hb : RepD P w N b v) :
    ∃ z, ((do eqGuard op t x y u v; binOp op t u v) : Sem Value).run P w = .ok z w ∧ RepD P w N c z := by
  have hg : ∀ (hu : (∀ cs, u ≠ .agg cs) ∧ u ≠ .nilIface), (eqGuard op t x y u v).run P w = .ok () w := by
    intro hu
    unfold eqGuard
    cases op <;> cases u <;> simp_all
  cases ha <;> cases hb <;> simp only [binD] at h <;> try (simp at h; done)
  case int.int k a k' b =>
    split at h
    · rename_i hk
      subst hk
      simp only [Sem.run_bind, hg ⟨by simp, by simp⟩, Result.andThen_ok]
      cases op <;> simp only [binInt] at h
      case quo => split at h <;> simp at h; subst h; rename_i hz; exact ⟨_, by simp [binOp, Op.intDiv, hz], .int _ _⟩
      case rem => split at h <;> simp at h; subst h; rename_i hz; exact ⟨_, by simp [binOp, Op.intDiv, hz], .int _ _⟩
      case shr => split at h <;> simp at h; subst h; rename_i hz; exact ⟨_, by simp [binOp, Op.shift, hz], .int _ _⟩
      all_goals (simp at h)
      all_goals subst h
      all_goals first
        | exact ⟨_, rfl, .int _ _⟩
        | exact ⟨_, rfl, .bool _⟩
        | exact ⟨_, by simp [binOp]; rfl, .int _ _⟩
        | exact ⟨_, by simp [binOp]; rfl, .bool _⟩
    · simp at h
  case str.str a b =>
    simp only [Sem.run_bind, hg ⟨by simp, by simp⟩, Result.andThen_ok]
    cases op <;> simp only [binStr] at h
    case add => split at h <;> simp at h; subst h; rename_i hz; exact ⟨_, by simp only [binOp, Op.stringOp, if_neg hz]; rfl, .str _⟩
    all_goals (simp at h)
    all_goals subst h
    all_goals exact ⟨_, rfl, .bool _⟩
  case clo.nilf => exact binFn_sound h (.inr (.inr ⟨⟨_, _, _, rfl⟩, rfl, rfl⟩))
  case nilf.clo => exact binFn_sound h (.inr (.inl ⟨rfl, ⟨_, _, _, rfl⟩, rfl⟩))
  case fn.nilf h1 =>
    obtain ⟨f, caps, fn, rfl, _⟩ := h1
    exact binFn_sound h (.inr (.inr ⟨⟨_, _, _, rfl⟩, rfl, rfl⟩))
  case nilf.fn h1 =>
    obtain ⟨f, caps, fn, rfl, _⟩ := h1
    exact binFn_sound h (.inr (.inl ⟨rfl, ⟨_, _, _, rfl⟩, rfl⟩))
  case nilf.nilf => exact binFn_sound h (.inl ⟨rfl, rfl, rfl⟩)
  case agg.agg hl1 h1 _ _ hl2 h2 => exact binAgg_sound h hl1 hl2 h1 h2
  case iface.nili => exact binIf_sound h (.inr (.inr ⟨⟨_, _, rfl⟩, rfl, rfl⟩))
  case nili.iface => exact binIf_sound h (.inr (.inl ⟨rfl, ⟨_, _, rfl⟩, rfl⟩))
  case bool.bool a b =>
    simp only [Sem.run_bind, hg ⟨by simp, by simp⟩, Result.andThen_ok]
    unfold binBool at h
    split at h <;> simp at h
    all_goals subst h
    all_goals rename_i hu
    · refine ⟨.bool (a == b), ?_, .bool _⟩
      show ((do pure (.bool (← Op.equal t (.bool a) (.bool b))) : Sem Value)).run P w = _
      simp only [Sem.run_bind, run_equal_bool hu, Result.andThen_ok, Sem.run_pure]
    · refine ⟨.bool (!(a == b)), ?_, .bool _⟩
      show ((do pure (.bool (!(← Op.equal t (.bool a) (.bool b)))) : Sem Value)).run P w = _
      simp only [Sem.run_bind, run_equal_bool hu, Result.andThen_ok, Sem.run_pure]

def unD : UnOp → D → Option D
  | .neg, .int k n => some (.int k (k.wrap (0 - n)))
  | .not, .bool b => some (.bool !b)
  | _, _ => none

theorem unD_sound {P : Program} {w : World} {N : Nat → Prop} {op : UnOp} {a c : D} {u : Value} (h : unD op a = some c) (ha : RepD P w N a u) :
    ∃ z, (Op.unary op u).run P w = .ok z w ∧ RepD P w N c z := by
  cases ha <;> cases op <;> simp [unD] at h <;> subst h
  · refine ⟨_, rfl, ?_⟩
    rw [Int.zero_sub]
    exact .int _ _
  · exact ⟨_, rfl, .bool _⟩

/-! ### Addresses -/

def nilCheckA : AV → Option AV
  | .ptr id i j => some (.ptr id i j)
  | .eptr d i j => some (.eptr d i j)
  | .dptr cs j => some (.dptr cs j)
  | .imm (.pbox cs) => some (.dptr cs 0)
  | .imm (.clo f cs) => some (.imm (.clo f cs))
  | .imm (.fn rb dom G) => some (.imm (.fn rb dom G))
  | .clo f cs => some (.clo f cs)
  | .yld id => some (.yld id)
  | _ => none

/-- The fields of a struct type. -/
def fieldsT (P : Program) (t : TypeId) : Option (Array Field) :=
  match P.underlying t with
  | some (.struct fs) => some fs
  | _ => none

def fieldAddrA (P : Program) (t : TypeId) (f : Nat) (x : AV) : Option AV :=
  (fieldsT P t).bind fun fs => (fs[f]?).bind fun fd => (sizeT P fd.type).bind fun n => if n = 0 then none else
    match x with
    | .ptr id i j => some (.ptr id i (j + fd.offset))
    | .eptr d i j => some (.eptr d i (j + fd.offset))
    | .dptr cs j => some (.dptr cs (j + fd.offset))
    | .imm (.pbox cs) => some (.dptr cs fd.offset)
    | _ => none

theorem fieldsT_spec {P : Program} {t : TypeId} {fs : Array Field} (h : fieldsT P t = some fs) : P.underlying t = some (.struct fs) := by
  unfold fieldsT at h
  split at h <;> simp at h
  subst h
  assumption

def dlen : D → Option Nat
  | .nils => some 0
  | .ints _ xs => some xs.length
  | .seq _ xs => some xs.length
  | _ => none

/-- The element type of a slice type. -/
def elemT (P : Program) (t : TypeId) : Option TypeId :=
  match P.underlying t with
  | some (.slice e) => some e
  | _ => none

theorem elemT_spec {P : Program} {t e : TypeId} (h : elemT P t = some e) : P.underlying t = some (.slice e) := by
  unfold elemT at h
  split at h <;> simp at h
  subst h
  assumption

/-- The length and the element type of an array type. -/
def arrT (P : Program) (t : TypeId) : Option (Nat × TypeId) :=
  match P.underlying t with
  | some (.array n e) => some (n, e)
  | _ => none

theorem arrT_spec {P : Program} {t e : TypeId} {n : Nat} (h : arrT P t = some (n, e)) : P.underlying t = some (.array n e) := by
  unfold arrT at h
  split at h <;> simp at h
  obtain ⟨rfl, rfl⟩ := h
  assumption

/-- The number of elements of a row. -/
def rlen : Row → Option Nat
  | .ints _ xs => some xs.length
  | .ds _ xs => some xs.length
  | _ => none

theorem rlen_spec {r : Row} {n : Nat} (h : rlen r = some n) : r.live = true ∧ r.len = n := by
  cases r <;> simp [rlen] at h <;> exact ⟨rfl, h⟩

def idx (i : Int) (n : Nat) : Option Nat := if 0 ≤ i ∧ i < n then some i.toNat else none

/-- The address of an element: of a slice (elements of 's' cells), of an array in a row. -/
def indexAddrA (P : Program) (t : TypeId) (H : Heap) (x ix : AV) : Option AV :=
  match ix with
  | .imm (.int _ i) =>
    match x with
    | .row id s off len => (elemT P t).bind fun e => (sizeT P e).bind fun s' => if s' = s then (idx i len).map fun k => .ptr id (off + k) 0 else none
    | .all id s => (elemT P t).bind fun e => (sizeT P e).bind fun s' => if s' = s then (H id).bind fun r => (rlen r).bind fun n => (idx i n).map fun k => .ptr id k 0 else none
    | .imm d => (elemT P t).bind fun e => (sizeT P e).bind fun s => if s = d.sz then (dlen d).bind fun n => (idx i n).map fun k => .eptr d k 0 else none
    | .ptr id i0 j => (arrT P t).bind fun (n, e) => (sizeT P e).bind fun s => (idx i n).map fun k => .ptr id i0 (j + k * s)
    | .eptr d i0 j => (arrT P t).bind fun (n, e) => (sizeT P e).bind fun s => (idx i n).map fun k => .eptr d i0 (j + k * s)
    | .dptr cs j => (arrT P t).bind fun (n, e) => (sizeT P e).bind fun s => (idx i n).map fun k => .dptr cs (j + k * s)
    | _ => none
  | _ => none

section
variable {P : Program} {w : World} {N : Nat → Prop} {H : Heap} {ι : Place}

theorem nilCheckA_sound {x y : AV} {v : Value} (h : nilCheckA x = some y) (hx : RepA P w N H ι x v) : ((∃ a, v = .pointer (some a)) ∨ (∃ f vs, v = .func (.func f) #[] vs) ∨ ∃ b, v = .func (.yield b) #[] #[]) ∧ RepA P w N H ι y v := by
  unfold nilCheckA at h
  split at h <;> simp at h <;> subst h
  · cases hx with | ptr hu h => exact ⟨.inl ⟨_, rfl⟩, .ptr hu h⟩
  · cases hx with | eptr h hi hv => exact ⟨.inl ⟨_, hv⟩, .eptr h hi hv⟩
  · cases hx with | dptr h hv => exact ⟨.inl ⟨_, hv⟩, .dptr h hv⟩
  · cases hx with
    | imm hx =>
    cases hx with
    | pbox _ b g hN hc hr => exact ⟨.inl ⟨_, rfl⟩, .dptr (.pbox _ b g hN hc hr) rfl⟩
  · cases hx with
    | imm hx =>
    cases hx with
    | clo _ _ vs hl hr => exact ⟨.inr (.inl ⟨_, _, rfl⟩), .imm (.clo _ _ vs hl hr)⟩
  · cases hx with
    | imm hx =>
    cases hx with
    | fn _ _ _ _ h1 =>
      have h2 := h1
      obtain ⟨f, caps, fn, rfl, _⟩ := h2
      exact ⟨.inr (.inl ⟨_, _, rfl⟩), .imm (.fn _ _ _ _ h1)⟩
  · cases hx with
    | clo hl hr => exact ⟨.inr (.inl ⟨_, _, rfl⟩), .clo hl hr⟩
  · cases hx with
    | yld hu hv h =>
      obtain ⟨b, rfl⟩ := hv
      exact ⟨.inr (.inr ⟨_, rfl⟩), .yld hu ⟨_, rfl⟩ h⟩

theorem fieldAddrA_sound {t : TypeId} {f : Nat} {x y : AV} {v : Value} (h : fieldAddrA P t f x = some y) (hx : RepA P w N H ι x v) :
    ∃ z, (Instr.fieldAt t v f).run P w = .ok z w ∧ RepA P w N H ι y z := by
  unfold fieldAddrA at h
  simp only [Option.bind_eq_some_iff] at h
  obtain ⟨fs, h1, fd, h2, n, h3, h4⟩ := h
  split at h4
  · simp at h4
  · rename_i hn
    have hu := fieldsT_spec h1
    split at h4 <;> simp at h4 <;> subst h4
    · cases hx with
      | @ptr id i j x hid h =>
      refine ⟨.pointer (some (x.add fd.offset)), ?_, ?_⟩
      · simp [Instr.fieldAt, run_under hu, h2, Instr.sureAddr, fieldPlace, run_sizeOf h3, hn]
      · refine .ptr hid fun r hr hl => ?_
        obtain ⟨b, c, h5, rfl⟩ := h r hr hl
        exact ⟨b, c, h5, by rw [Addr.add_lit, Nat.add_assoc]⟩
    · rename_i d i j
      cases hx with
      | @eptr _ _ _ b off len cap _ h hi hv =>
      subst hv
      refine ⟨.pointer (some (⟨b, off + i * d.sz + j + fd.offset, none⟩)), ?_, ?_⟩
      · simp [Instr.fieldAt, run_under hu, h2, Instr.sureAddr, fieldPlace, run_sizeOf h3, hn, Addr.add_lit]
      · exact .eptr h hi (by rw [Nat.add_assoc (off + i * d.sz)])
    · rename_i cs j
      cases hx with
      | @dptr _ _ b _ h hv =>
      subst hv
      refine ⟨.pointer (some (⟨b, j + fd.offset, none⟩)), ?_, .dptr h rfl⟩
      simp [Instr.fieldAt, run_under hu, h2, Instr.sureAddr, fieldPlace, run_sizeOf h3, hn, Addr.add_lit]
    · cases hx with
      | imm hx =>
      cases hx with
      | pbox _ b g hN hc hr =>
      refine ⟨.pointer (some (⟨b, 0 + fd.offset, none⟩)), ?_, .dptr (.pbox _ b g hN hc hr) (by rw [Nat.zero_add])⟩
      simp [Instr.fieldAt, run_under hu, h2, Instr.sureAddr, fieldPlace, run_sizeOf h3, hn, Addr.add_lit]

theorem idx_spec {i : Int} {n k : Nat} (h : idx i n = some k) : 0 ≤ i ∧ i < n ∧ i.toNat = k ∧ k < n := by
  unfold idx at h
  split at h <;> simp at h
  rename_i h'
  exact ⟨h'.1, h'.2, h, by omega⟩

theorem RepD.slice {d : D} {v : Value} {n : Nat} (h : RepD P w N d v) (hn : dlen d = some n) : ∃ a cap, v = .slice a n cap ∧ n ≤ cap ∧ (n = 0 ∨ ∃ b off, a = some ⟨b, off, none⟩) := by
  cases h <;> simp [dlen] at hn <;> subst hn
  case nils => exact ⟨_, _, rfl, Nat.le_refl _, .inl rfl⟩
  case ints0 => exact ⟨_, _, rfl, Nat.zero_le _, .inl rfl⟩
  case ints xs b off cap hN hc h => exact ⟨_, _, rfl, hc, .inr ⟨_, _, rfl⟩⟩
  case seq0 => exact ⟨_, _, rfl, Nat.zero_le _, .inl rfl⟩
  case seq => exact ⟨_, _, rfl, by assumption, .inr ⟨_, _, rfl⟩⟩

theorem indexAddrA_sound {t : TypeId} {x ix y : AV} {v u : Value} (h : indexAddrA P t H x ix = some y) (hx : RepA P w N H ι x v) (hi : RepA P w N H ι ix u) :
    ∃ z, (Instr.indexAt t v u).run P w = .ok z w ∧ RepA P w N H ι y z := by
  unfold indexAddrA at h
  split at h
  case h_2 => simp at h
  rename_i k0 i
  cases hi with
  | imm hi =>
  cases hi
  split at h
  · rename_i id s off len
    simp only [Option.bind_eq_some_iff] at h
    obtain ⟨e, h1, s', h2, h3⟩ := h
    split at h3
    case isFalse => simp at h3
    rename_i hss
    subst hss
    simp only [Option.map_eq_some_iff] at h3
    obtain ⟨k, h3, rfl⟩ := h3
    obtain ⟨g1, g2, rfl, g4⟩ := idx_spec h3
    have hu := elemT_spec h1
    cases hx with
    | @row _ _ _ _ a cap hid hs hc h =>
      obtain ⟨x, rfl⟩ : ∃ x, a = some x := hs.resolve_left (by omega)
      refine ⟨.pointer (some (x.add (i.toNat * s'))), ?_, ?_⟩
      · simp [Instr.indexAt, asIntOf, run_under hu, g1, g2, run_sizeOf h2]
      · refine .ptr hid fun r hr hl => ?_
        obtain ⟨hsz, ⟨h0, _⟩ | ⟨b, c, h4, h5, h6, h7⟩⟩ := h r hr hl
        · omega
        · cases h5
          exact ⟨b, c, h4, by rw [Addr.add_lit, hsz, Nat.add_mul, Nat.add_zero]⟩
  · rename_i id s
    simp only [Option.bind_eq_some_iff] at h
    obtain ⟨e, h1, s', h2, h3⟩ := h
    split at h3
    case isFalse => simp at h3
    rename_i hss
    subst hss
    simp only [Option.bind_eq_some_iff, Option.map_eq_some_iff] at h3
    obtain ⟨r, hH, n, hn, k, h3, rfl⟩ := h3
    obtain ⟨g1, g2, rfl, g4⟩ := idx_spec h3
    obtain ⟨hlv, hln⟩ := rlen_spec hn
    have hu := elemT_spec h1
    cases hx with
    | @all _ _ a len cap hid hs hc h =>
      obtain ⟨hdim, hp⟩ := h r hH hlv
      obtain rfl : len = n := by rw [← hln]; exact (congrArg Prod.snd hdim).symm
      obtain ⟨x, rfl⟩ : ∃ x, a = some x := hs.resolve_left (by omega)
      refine ⟨.pointer (some (x.add (i.toNat * s'))), ?_, ?_⟩
      · simp [Instr.indexAt, asIntOf, run_under hu, g1, g2, run_sizeOf h2]
      · refine .ptr hid fun r' hr hl => ?_
        rw [hH] at hr
        cases hr
        rcases hp with ⟨h0, _⟩ | ⟨b, c, h4, h5, h6, h7⟩
        · omega
        · cases h5
          exact ⟨b, c, h4, by rw [Addr.add_lit, show r.sz = s' from congrArg Prod.fst hdim, Nat.zero_mul, Nat.zero_add, Nat.add_zero]⟩
  · rename_i d
    simp only [Option.bind_eq_some_iff] at h
    obtain ⟨e, h1, s', h2, h3⟩ := h
    split at h3
    case isFalse => simp at h3
    rename_i hss
    subst hss
    simp only [Option.bind_eq_some_iff, Option.map_eq_some_iff] at h3
    obtain ⟨n, hn, k, h3, rfl⟩ := h3
    obtain ⟨g1, g2, rfl, g4⟩ := idx_spec h3
    have hu := elemT_spec h1
    cases hx with
    | imm hx =>
      obtain ⟨a, cap, rfl, hc, h0 | ⟨b, off, rfl⟩⟩ := hx.slice hn
      · omega
      · refine ⟨.pointer (some ((⟨b, off, none⟩ : Addr).add (i.toNat * d.sz))), ?_, ?_⟩
        · simp [Instr.indexAt, asIntOf, run_under hu, g1, g2, run_sizeOf h2]
        · exact .eptr hx g4 (by rw [Addr.add_lit, Nat.add_zero])
  · rename_i id i0 j
    simp only [Option.bind_eq_some_iff, Option.map_eq_some_iff] at h
    obtain ⟨⟨n, e⟩, h1, s', h2, k, h3, rfl⟩ := h
    obtain ⟨g1, g2, rfl, g4⟩ := idx_spec h3
    have hu := arrT_spec h1
    cases hx with
    | @ptr _ _ _ x hid h =>
      refine ⟨.pointer (some (x.add (i.toNat * s'))), ?_, ?_⟩
      · simp [Instr.indexAt, asIntOf, run_under hu, g1, g2, run_sizeOf h2, Instr.sureAddr]
      · refine .ptr hid fun r hr hl => ?_
        obtain ⟨b, c, h4, rfl⟩ := h r hr hl
        exact ⟨b, c, h4, by rw [Addr.add_lit, Nat.add_assoc]⟩
  · rename_i d i0 j
    simp only [Option.bind_eq_some_iff, Option.map_eq_some_iff] at h
    obtain ⟨⟨n, e⟩, h1, s', h2, k, h3, rfl⟩ := h
    obtain ⟨g1, g2, rfl, g4⟩ := idx_spec h3
    have hu := arrT_spec h1
    cases hx with
    | @eptr _ _ _ b off len cap _ hd hlt hv =>
      subst hv
      refine ⟨.pointer (some ((⟨b, off + i0 * d.sz + j, none⟩ : Addr).add (i.toNat * s'))), ?_, ?_⟩
      · simp [Instr.indexAt, asIntOf, run_under hu, g1, g2, run_sizeOf h2, Instr.sureAddr]
      · exact .eptr hd hlt (by rw [Addr.add_lit, Nat.add_assoc (off + i0 * d.sz)])
  · rename_i cs j
    simp only [Option.bind_eq_some_iff, Option.map_eq_some_iff] at h
    obtain ⟨⟨n, e⟩, h1, s', h2, k, h3, rfl⟩ := h
    obtain ⟨g1, g2, rfl, g4⟩ := idx_spec h3
    have hu := arrT_spec h1
    cases hx with
    | @dptr _ _ b _ hd hv =>
      subst hv
      refine ⟨.pointer (some ((⟨b, j, none⟩ : Addr).add (i.toNat * s'))), ?_, .dptr hd (by rw [Addr.add_lit])⟩
      simp [Instr.indexAt, asIntOf, run_under hu, g1, g2, run_sizeOf h2, Instr.sureAddr]
  · simp at h
end

end Go.Ab
