/-
  AN ABSTRACT LAYER, 24: meanings by depth, joined; methods that are called through an interface.
-/
import Derived.Test.YtfdcmbjkapcbcacAbLaw
namespace Go.Ab
variable {P : Program}

/-- A meaning that knows no arguments. -/
theorem CallSpec.void {E : Entry} (hf : fnIs P E.f) (hp : ∀ xs, E.pre xs = false) (hfn : ∀ ds, E.fnOf ds = none) : CallSpec P E :=
  ⟨fun _ => hf, fun w N xs vs bs pv rs ps _ _ h => by simp [Entry.m, hp xs] at h, fun ds rb dom G h => by rw [hfn ds] at h; cases h⟩

/-- A meaning that is known at every depth. -/
theorem CallSpec.union {E : Entry} (Es : Nat → Entry) (h : ∀ d, CallSpec P (Es d)) (hf : ∀ d, (Es d).f = E.f) (hm : ∀ d, (Es d).meth = E.meth) (hfn : ∀ ds, E.fnOf ds = none)
    (hp : ∀ xs, E.pre xs = true → ∃ d, (Es d).pre xs = true ∧ (Es d).r xs = E.r xs) : CallSpec P E := by
  refine ⟨fun he => by rw [← hf 0]; exact (h 0).fn (by rw [hm]; exact he), fun w N xs vs bs pv rs ps hN ha h1 => ?_, fun ds rb dom G h => by rw [hfn ds] at h; cases h⟩
  cases hx : E.pre xs with
  | false => simp [Entry.m, hx] at h1
  | true =>
    obtain ⟨d, h2, h3⟩ := hp xs hx
    have h4 : (Es d).m xs = some (rs, ps) := by
      simp only [Entry.m, hx, cond_true, Option.some.injEq] at h1
      simp only [Entry.m, h2, cond_true, h3, h1]
    have h5 := (h d).calls w N xs vs bs pv rs ps hN ha h4
    unfold CallsE at h5 ⊢
    rw [hm d, hf d] at h5
    exact h5

/-- Where a method of a type leads to. -/
def methB (P : Program) (ty : TypeId) (nm : String) (f : FuncId) : Bool :=
  match P.info? ty with
  | some i => match i.methods.find? (·.name == nm) with
    | some m => m.path.toList.isEmpty && (match m.func with
      | some (g, false) => g == f
      | _ => false) && (match P.underlying ty with
      | some (.pointer _) => false
      | some _ => true
      | none => false)
    | none => false
  | none => false

theorem methB_spec {ty : TypeId} {nm : String} {f : FuncId} (h : methB P ty nm f = true) (v : Value) (w : World) : (Go.method (P.types.size + Made.depth) ty v nm).run P w = .ok (f, v) w := by
  unfold methB at h
  split at h
  case h_2 => cases h
  rename_i i hi
  split at h
  case h_2 => cases h
  rename_i m hm
  simp only [Bool.and_eq_true, List.isEmpty_iff] at h
  obtain ⟨⟨h1, h2⟩, h3⟩ := h
  split at h2
  case h_2 => cases h2
  rename_i g hg
  obtain rfl := beq_iff_eq.1 h2
  have hd0 : 0 < Made.depth := by decide
  obtain ⟨k, hk⟩ : ∃ k, P.types.size + Made.depth = k + 1 := ⟨P.types.size + Made.depth - 1, by omega⟩
  rw [hk]
  split at h3
  case h_1 => cases h3
  case h_3 => cases h3
  rename_i d hnp hu
  unfold Go.method
  simp only [Sem.run_bind, run_typeInfo hi, Result.andThen_ok, hm, h1, follow, Sem.run_pure, hg]
  unfold receiverAt
  simp only [Sem.run_bind, run_under hu, Result.andThen_ok]
  cases d <;> first | (exact absurd rfl (hnp _)) | simp [Place.get]

/-- A method that is called through an interface: its meaning is that of the functions that the types lead to. -/
theorem CallSpec.meth {E : Entry} {nm : String} (hm : E.meth = some nm) (hfn : ∀ ds, E.fnOf ds = none)
    (h : ∀ xs, E.pre xs = true → ∃ ty d rest E', xs = .d (.iface ty d) :: rest ∧ CallSpec P E' ∧ E'.meth = none ∧ methB P ty nm E'.f = true ∧ E'.pre (.d d :: rest) = true ∧ E'.r (.d d :: rest) = E.r xs) : CallSpec P E := by
  refine ⟨fun he => (by rw [hm] at he; cases he), fun w N xs vs bs pv rs ps hN ha h1 => ?_, fun ds rb dom G h => by rw [hfn ds] at h; cases h⟩
  cases hx : E.pre xs with
  | false => simp [Entry.m, hx] at h1
  | true =>
    obtain ⟨ty, d, rest, E', rfl, hE, hn, hmb, h2, h3⟩ := h xs hx
    cases ha with
    | @d _ v _ vs _ _ hv ht =>
    cases hv with
    | iface _ _ v' hv' =>
    have h4 : E'.m (.d d :: rest) = some (rs, ps) := by
      simp only [Entry.m, hx, cond_true, Option.some.injEq] at h1
      simp only [Entry.m, h2, cond_true, h3, h1]
    have h5 := (hE.calls w N (.d d :: rest) (v' :: vs) bs pv rs ps hN (.d hv' ht) h4).plain hn
    unfold CallsE
    rw [hm]
    refine ⟨ty, v', v', vs, E'.f, by simp, methB_spec hmb v', hE.fn hn, ?_⟩
    have e : (v' :: vs).toArray = #[v'] ++ vs.toArray := by simp
    rw [e] at h5
    exact h5
end Go.Ab
