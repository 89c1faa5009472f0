import Derived.Test.YtpafnakefbnofaaEa1
import Derived.Test.YtpafnakefbnofaaProg
import Derived.Test.YtpafnakefbnofaaChecked
open Go Go.Ab Go.Proofs
set_option maxRecDepth 100000
set_option linter.unusedVariables false
set_option linter.unusedSimpArgs false
namespace Go.Ab
namespace impl_functionOfTwo_3
noncomputable def E : Entry := ⟨60, true, false, fun | [.d (.int .i64 a), .d (.int .i64 b)] => true | _ => false, fun | [.d (.int .i64 a), .d (.int .i64 b)] => ([.one ((.int .i64 (limV (IntKind.wrap .i64 (a * b)))), false)], []) | _ => ([], []), fun _ => [], false, fun | [] => some (false, q2, (q2v (operF 3))) | _ => none⟩
end impl_functionOfTwo_3
namespace impl_functionOfTwo_3
noncomputable def X : List Entry := [impl_limited.E]
noncomputable def I : List Inl := [⟨60, Try.f60, ⟨[], [], [], [], [], []⟩⟩]
theorem I_ok : ∀ i ∈ I, Try.prog.funcs[i.f]? = some i.fn ∧ (i.fn.name == "runtime.NumGoroutine") = false := by
  intro i hi
  simp only [I, List.mem_cons, List.not_mem_nil, or_false] at hi
  subst hi
  exact ⟨by kernel_rfl, by kernel_rfl⟩
theorem e (fuel : Nat) (p0 : Int) (p1 : Int) : runF Try.prog X I 0 fuel 60 Try.f60 [.d (.int .i64 p0), .d (.int .i64 p1)] =
  some ([.one ((.int .i64 (limV ((IntKind.wrap .i64 (p0 * p1))))), false)], []) := by kernel_rfl
end impl_functionOfTwo_3
theorem impl_functionOfTwo_3.ok_of (hX : ∀ E ∈ impl_functionOfTwo_3.X, CallSpec Try.prog E) (hfn : ∀ ds rb dom G, impl_functionOfTwo_3.E.fnOf ds = some (rb, dom, G) → ∀ qs, dom qs = true → impl_functionOfTwo_3.E.m ((qs.map fun q => .d q.d) ++ ds.map .d) = some ([.one (fnD rb (G qs), false)], [])) (h : ∀ (a : Int) (b : Int), (true) = true → ∃ fuel, runF Try.prog impl_functionOfTwo_3.X impl_functionOfTwo_3.I 0 fuel 60 Try.f60 [.d (.int .i64 a), .d (.int .i64 b)] = some ([.one ((.int .i64 (limV (IntKind.wrap .i64 (a * b)))), false)], [])) : CallSpec Try.prog impl_functionOfTwo_3.E :=
  callSpec_of (d := 0) hX (by kernel_rfl) impl_functionOfTwo_3.I_ok (by kernel_rfl) (by kernel_rfl) (by kernel_rfl) hfn (fun xs hp => by
    dsimp only [impl_functionOfTwo_3.E] at hp ⊢
    split at hp
    · exact h _ _ hp
    · cases hp)
theorem impl_functionOfTwo_3.ok : CallSpec Try.prog impl_functionOfTwo_3.E := impl_functionOfTwo_3.ok_of (by simp [impl_functionOfTwo_3.X, impl_limited.ok]) (fun ds rb dom G h qs hq => by
  dsimp only [impl_functionOfTwo_3.E] at h
  split at h
  case h_2 => cases h
  cases h
  match qs, hq with
  | [.i a, .i b], _ => rfl) fun a b _ => ⟨0, by rw [impl_functionOfTwo_3.e]⟩

namespace impl_functionOfTwo_4
noncomputable def E : Entry := ⟨61, true, false, fun | [.d (.int .i64 a), .d (.int .i64 b)] => true | _ => false, fun | [.d (.int .i64 a), .d (.int .i64 b)] => ([.one ((.int .i64 (minI a b)), false)], []) | _ => ([], []), fun _ => [], false, fun | [] => some (false, q2, (q2v (operF 4))) | _ => none⟩
end impl_functionOfTwo_4
namespace impl_functionOfTwo_4
noncomputable def X : List Entry := []
noncomputable def I : List Inl := [⟨61, Try.f61, ⟨[], [], [], [], [], []⟩⟩]
theorem I_ok : ∀ i ∈ I, Try.prog.funcs[i.f]? = some i.fn ∧ (i.fn.name == "runtime.NumGoroutine") = false := by
  intro i hi
  simp only [I, List.mem_cons, List.not_mem_nil, or_false] at hi
  subst hi
  exact ⟨by kernel_rfl, by kernel_rfl⟩
theorem e (fuel : Nat) (p0 : Int) (p1 : Int) : runF Try.prog X I 0 fuel 61 Try.f61 [.d (.int .i64 p0), .d (.int .i64 p1)] =
  some ([.one ((.int .i64 (minI p0 p1)), false)], []) := by kernel_rfl
end impl_functionOfTwo_4
theorem impl_functionOfTwo_4.ok_of (hX : ∀ E ∈ impl_functionOfTwo_4.X, CallSpec Try.prog E) (hfn : ∀ ds rb dom G, impl_functionOfTwo_4.E.fnOf ds = some (rb, dom, G) → ∀ qs, dom qs = true → impl_functionOfTwo_4.E.m ((qs.map fun q => .d q.d) ++ ds.map .d) = some ([.one (fnD rb (G qs), false)], [])) (h : ∀ (a : Int) (b : Int), (true) = true → ∃ fuel, runF Try.prog impl_functionOfTwo_4.X impl_functionOfTwo_4.I 0 fuel 61 Try.f61 [.d (.int .i64 a), .d (.int .i64 b)] = some ([.one ((.int .i64 (minI a b)), false)], [])) : CallSpec Try.prog impl_functionOfTwo_4.E :=
  callSpec_of (d := 0) hX (by kernel_rfl) impl_functionOfTwo_4.I_ok (by kernel_rfl) (by kernel_rfl) (by kernel_rfl) hfn (fun xs hp => by
    dsimp only [impl_functionOfTwo_4.E] at hp ⊢
    split at hp
    · exact h _ _ hp
    · cases hp)
theorem impl_functionOfTwo_4.ok : CallSpec Try.prog impl_functionOfTwo_4.E := impl_functionOfTwo_4.ok_of (by simp [impl_functionOfTwo_4.X]) (fun ds rb dom G h qs hq => by
  dsimp only [impl_functionOfTwo_4.E] at h
  split at h
  case h_2 => cases h
  cases h
  match qs, hq with
  | [.i a, .i b], _ => rfl) fun a b _ => ⟨0, by rw [impl_functionOfTwo_4.e]⟩

namespace impl_functionOfTwo_5
noncomputable def E : Entry := ⟨62, true, false, fun | [.d (.int .i64 a), .d (.int .i64 b)] => true | _ => false, fun | [.d (.int .i64 a), .d (.int .i64 b)] => ([.one ((.int .i64 (maxI a b)), false)], []) | _ => ([], []), fun _ => [], false, fun | [] => some (false, q2, (q2v (operF 5))) | _ => none⟩
end impl_functionOfTwo_5
namespace impl_functionOfTwo_5
noncomputable def X : List Entry := []
noncomputable def I : List Inl := [⟨62, Try.f62, ⟨[], [], [], [], [], []⟩⟩]
theorem I_ok : ∀ i ∈ I, Try.prog.funcs[i.f]? = some i.fn ∧ (i.fn.name == "runtime.NumGoroutine") = false := by
  intro i hi
  simp only [I, List.mem_cons, List.not_mem_nil, or_false] at hi
  subst hi
  exact ⟨by kernel_rfl, by kernel_rfl⟩
theorem e (fuel : Nat) (p0 : Int) (p1 : Int) : runF Try.prog X I 0 fuel 62 Try.f62 [.d (.int .i64 p0), .d (.int .i64 p1)] =
  some ([.one ((.int .i64 (maxI p0 p1)), false)], []) := by kernel_rfl
end impl_functionOfTwo_5
theorem impl_functionOfTwo_5.ok_of (hX : ∀ E ∈ impl_functionOfTwo_5.X, CallSpec Try.prog E) (hfn : ∀ ds rb dom G, impl_functionOfTwo_5.E.fnOf ds = some (rb, dom, G) → ∀ qs, dom qs = true → impl_functionOfTwo_5.E.m ((qs.map fun q => .d q.d) ++ ds.map .d) = some ([.one (fnD rb (G qs), false)], [])) (h : ∀ (a : Int) (b : Int), (true) = true → ∃ fuel, runF Try.prog impl_functionOfTwo_5.X impl_functionOfTwo_5.I 0 fuel 62 Try.f62 [.d (.int .i64 a), .d (.int .i64 b)] = some ([.one ((.int .i64 (maxI a b)), false)], [])) : CallSpec Try.prog impl_functionOfTwo_5.E :=
  callSpec_of (d := 0) hX (by kernel_rfl) impl_functionOfTwo_5.I_ok (by kernel_rfl) (by kernel_rfl) (by kernel_rfl) hfn (fun xs hp => by
    dsimp only [impl_functionOfTwo_5.E] at hp ⊢
    split at hp
    · exact h _ _ hp
    · cases hp)
theorem impl_functionOfTwo_5.ok : CallSpec Try.prog impl_functionOfTwo_5.E := impl_functionOfTwo_5.ok_of (by simp [impl_functionOfTwo_5.X]) (fun ds rb dom G h qs hq => by
  dsimp only [impl_functionOfTwo_5.E] at h
  split at h
  case h_2 => cases h
  cases h
  match qs, hq with
  | [.i a, .i b], _ => rfl) fun a b _ => ⟨0, by rw [impl_functionOfTwo_5.e]⟩

namespace impl_functionOfTwo_6
noncomputable def E : Entry := ⟨63, true, false, fun | [.d (.int .i64 a), .d (.int .i64 b)] => true | _ => false, fun | [.d (.int .i64 a), .d (.int .i64 b)] => ([.one ((.int .i64 (tInt (a == b))), false)], []) | _ => ([], []), fun _ => [], false, fun | [] => some (false, q2, (q2v (operF 6))) | _ => none⟩
end impl_functionOfTwo_6
namespace impl_functionOfTwo_6
noncomputable def X : List Entry := [impl_truth.E]
noncomputable def I : List Inl := [⟨63, Try.f63, ⟨[], [], [], [], [], []⟩⟩]
theorem I_ok : ∀ i ∈ I, Try.prog.funcs[i.f]? = some i.fn ∧ (i.fn.name == "runtime.NumGoroutine") = false := by
  intro i hi
  simp only [I, List.mem_cons, List.not_mem_nil, or_false] at hi
  subst hi
  exact ⟨by kernel_rfl, by kernel_rfl⟩
theorem e (fuel : Nat) (p0 : Int) (p1 : Int) : runF Try.prog X I 0 fuel 63 Try.f63 [.d (.int .i64 p0), .d (.int .i64 p1)] =
  some ([.one ((.int .i64 (tInt (((p0 : Int) == p1)))), false)], []) := by kernel_rfl
end impl_functionOfTwo_6
theorem impl_functionOfTwo_6.ok_of (hX : ∀ E ∈ impl_functionOfTwo_6.X, CallSpec Try.prog E) (hfn : ∀ ds rb dom G, impl_functionOfTwo_6.E.fnOf ds = some (rb, dom, G) → ∀ qs, dom qs = true → impl_functionOfTwo_6.E.m ((qs.map fun q => .d q.d) ++ ds.map .d) = some ([.one (fnD rb (G qs), false)], [])) (h : ∀ (a : Int) (b : Int), (true) = true → ∃ fuel, runF Try.prog impl_functionOfTwo_6.X impl_functionOfTwo_6.I 0 fuel 63 Try.f63 [.d (.int .i64 a), .d (.int .i64 b)] = some ([.one ((.int .i64 (tInt (a == b))), false)], [])) : CallSpec Try.prog impl_functionOfTwo_6.E :=
  callSpec_of (d := 0) hX (by kernel_rfl) impl_functionOfTwo_6.I_ok (by kernel_rfl) (by kernel_rfl) (by kernel_rfl) hfn (fun xs hp => by
    dsimp only [impl_functionOfTwo_6.E] at hp ⊢
    split at hp
    · exact h _ _ hp
    · cases hp)
theorem impl_functionOfTwo_6.ok : CallSpec Try.prog impl_functionOfTwo_6.E := impl_functionOfTwo_6.ok_of (by simp [impl_functionOfTwo_6.X, impl_truth.ok]) (fun ds rb dom G h qs hq => by
  dsimp only [impl_functionOfTwo_6.E] at h
  split at h
  case h_2 => cases h
  cases h
  match qs, hq with
  | [.i a, .i b], _ => rfl) fun a b _ => ⟨0, by rw [impl_functionOfTwo_6.e]⟩

namespace impl_functionOfTwo_7
noncomputable def E : Entry := ⟨64, true, false, fun | [.d (.int .i64 a), .d (.int .i64 b)] => true | _ => false, fun | [.d (.int .i64 a), .d (.int .i64 b)] => ([.one ((.int .i64 (tInt (decide (a < b)))), false)], []) | _ => ([], []), fun _ => [], false, fun | [] => some (false, q2, (q2v (operF 7))) | _ => none⟩
end impl_functionOfTwo_7
namespace impl_functionOfTwo_7
noncomputable def X : List Entry := [impl_truth.E]
noncomputable def I : List Inl := [⟨64, Try.f64, ⟨[], [], [], [], [], []⟩⟩]
theorem I_ok : ∀ i ∈ I, Try.prog.funcs[i.f]? = some i.fn ∧ (i.fn.name == "runtime.NumGoroutine") = false := by
  intro i hi
  simp only [I, List.mem_cons, List.not_mem_nil, or_false] at hi
  subst hi
  exact ⟨by kernel_rfl, by kernel_rfl⟩
theorem e (fuel : Nat) (p0 : Int) (p1 : Int) : runF Try.prog X I 0 fuel 64 Try.f64 [.d (.int .i64 p0), .d (.int .i64 p1)] =
  some ([.one ((.int .i64 (tInt ((decide ((p0 : Int) < p1))))), false)], []) := by kernel_rfl
end impl_functionOfTwo_7
theorem impl_functionOfTwo_7.ok_of (hX : ∀ E ∈ impl_functionOfTwo_7.X, CallSpec Try.prog E) (hfn : ∀ ds rb dom G, impl_functionOfTwo_7.E.fnOf ds = some (rb, dom, G) → ∀ qs, dom qs = true → impl_functionOfTwo_7.E.m ((qs.map fun q => .d q.d) ++ ds.map .d) = some ([.one (fnD rb (G qs), false)], [])) (h : ∀ (a : Int) (b : Int), (true) = true → ∃ fuel, runF Try.prog impl_functionOfTwo_7.X impl_functionOfTwo_7.I 0 fuel 64 Try.f64 [.d (.int .i64 a), .d (.int .i64 b)] = some ([.one ((.int .i64 (tInt (decide (a < b)))), false)], [])) : CallSpec Try.prog impl_functionOfTwo_7.E :=
  callSpec_of (d := 0) hX (by kernel_rfl) impl_functionOfTwo_7.I_ok (by kernel_rfl) (by kernel_rfl) (by kernel_rfl) hfn (fun xs hp => by
    dsimp only [impl_functionOfTwo_7.E] at hp ⊢
    split at hp
    · exact h _ _ hp
    · cases hp)
theorem impl_functionOfTwo_7.ok : CallSpec Try.prog impl_functionOfTwo_7.E := impl_functionOfTwo_7.ok_of (by simp [impl_functionOfTwo_7.X, impl_truth.ok]) (fun ds rb dom G h qs hq => by
  dsimp only [impl_functionOfTwo_7.E] at h
  split at h
  case h_2 => cases h
  cases h
  match qs, hq with
  | [.i a, .i b], _ => rfl) fun a b _ => ⟨0, by rw [impl_functionOfTwo_7.e]⟩

namespace impl_restOf
noncomputable def E : Entry := ⟨65, true, false, fun | [.d (.int .i64 d), .d (.int .i64 n)] => true | _ => false, fun | [.d (.int .i64 d), .d (.int .i64 n)] => ([.one ((.int .i64 (restV d n)), false)], []) | _ => ([], []), fun _ => [], false, fun | [] => some (false, q2, (q2v (operF 8))) | _ => none⟩
end impl_restOf
namespace impl_restOf
noncomputable def X : List Entry := []
noncomputable def I : List Inl := [⟨65, Try.f65, ⟨[], [], [], [], [], []⟩⟩]
theorem I_ok : ∀ i ∈ I, Try.prog.funcs[i.f]? = some i.fn ∧ (i.fn.name == "runtime.NumGoroutine") = false := by
  intro i hi
  simp only [I, List.mem_cons, List.not_mem_nil, or_false] at hi
  subst hi
  exact ⟨by kernel_rfl, by kernel_rfl⟩
theorem e (fuel : Nat) (p0 : Int) (p1 : Int) : runF Try.prog X I 0 fuel 65 Try.f65 [.d (.int .i64 p0), .d (.int .i64 p1)] =
  (bif (decide ((p0 : Int) ≤ 0)) then
  some ([.one ((.int .i64 p1), false)], [])
  else
  (bif decide ((p0 : Int) = 0) then
  none
  else
  (bif decide ((p0 : Int) = 0) then
  none
  else
  some ([.one ((.int .i64 (Int.tmod (IntKind.wrap .i64 ((Int.tmod p1 p0) + p0)) p0)), false)], [])))) := by kernel_rfl
end impl_restOf
theorem impl_restOf.ok_of (hX : ∀ E ∈ impl_restOf.X, CallSpec Try.prog E) (hfn : ∀ ds rb dom G, impl_restOf.E.fnOf ds = some (rb, dom, G) → ∀ qs, dom qs = true → impl_restOf.E.m ((qs.map fun q => .d q.d) ++ ds.map .d) = some ([.one (fnD rb (G qs), false)], [])) (h : ∀ (d : Int) (n : Int), (true) = true → ∃ fuel, runF Try.prog impl_restOf.X impl_restOf.I 0 fuel 65 Try.f65 [.d (.int .i64 d), .d (.int .i64 n)] = some ([.one ((.int .i64 (restV d n)), false)], [])) : CallSpec Try.prog impl_restOf.E :=
  callSpec_of (d := 0) hX (by kernel_rfl) impl_restOf.I_ok (by kernel_rfl) (by kernel_rfl) (by kernel_rfl) hfn (fun xs hp => by
    dsimp only [impl_restOf.E] at hp ⊢
    split at hp
    · exact h _ _ hp
    · cases hp)
theorem impl_restOf.ok : CallSpec Try.prog impl_restOf.E := impl_restOf.ok_of (by simp [impl_restOf.X]) (fun ds rb dom G h qs hq => by
  dsimp only [impl_restOf.E] at h
  split at h
  case h_2 => cases h
  cases h
  match qs, hq with
  | [.i a, .i b], _ => rfl) fun d n _ => ⟨0, by
  rw [impl_restOf.e]
  unfold restV
  by_cases h : d ≤ 0
  · rw [decide_eq_true h]; rfl
  · rw [decide_eq_false h, decide_eq_false (p := d = 0) (by omega)]; rfl⟩

namespace impl_functionOfTwo
noncomputable def E : Entry := ⟨39, true, false, fun | [.d (.int .i64 op)] => true | _ => false, fun | [.d (.int .i64 op)] => ([.one (.nilf, false)], []) | _ => ([], []), fun | [.d (.int .i64 op)] => [(decide (op = 1), ([.one ((.clo 57 []), false)], [])), (decide (op = 2), ([.one ((.clo 59 []), false)], [])), (decide (op = 3), ([.one ((.clo 60 []), false)], [])), (decide (op = 4), ([.one ((.clo 61 []), false)], [])), (decide (op = 5), ([.one ((.clo 62 []), false)], [])), (decide (op = 6), ([.one ((.clo 63 []), false)], [])), (decide (op = 7), ([.one ((.clo 64 []), false)], [])), (decide (op = 8), ([.one ((.clo 65 []), false)], []))] | _ => [], false, fun _ => none⟩
end impl_functionOfTwo
namespace impl_functionOfTwo
noncomputable def X : List Entry := []
noncomputable def I : List Inl := [⟨39, Try.f39, ⟨[], [], [], [], [], []⟩⟩]
theorem I_ok : ∀ i ∈ I, Try.prog.funcs[i.f]? = some i.fn ∧ (i.fn.name == "runtime.NumGoroutine") = false := by
  intro i hi
  simp only [I, List.mem_cons, List.not_mem_nil, or_false] at hi
  subst hi
  exact ⟨by kernel_rfl, by kernel_rfl⟩
theorem e (fuel : Nat) (p0 : Int) : runF Try.prog X I 0 fuel 39 Try.f39 [.d (.int .i64 p0)] =
  (bif (decide ((p0 : Int) < 0)) then
  some ([.one (.nilf, false)], [])
  else
  (bif (decide ((p0 : Int) ≥ 9)) then
  some ([.one (.nilf, false)], [])
  else
  (bif decide (p0 = ((0 : Nat) : Int)) then
  some ([.one (.nilf, false)], [])
  else
  (bif decide (p0 = ((1 : Nat) : Int)) then
  some ([.one ((.clo 57 []), false)], [])
  else
  (bif decide (p0 = ((2 : Nat) : Int)) then
  some ([.one ((.clo 59 []), false)], [])
  else
  (bif decide (p0 = ((3 : Nat) : Int)) then
  some ([.one ((.clo 60 []), false)], [])
  else
  (bif decide (p0 = ((4 : Nat) : Int)) then
  some ([.one ((.clo 61 []), false)], [])
  else
  (bif decide (p0 = ((5 : Nat) : Int)) then
  some ([.one ((.clo 62 []), false)], [])
  else
  (bif decide (p0 = ((6 : Nat) : Int)) then
  some ([.one ((.clo 63 []), false)], [])
  else
  (bif decide (p0 = ((7 : Nat) : Int)) then
  some ([.one ((.clo 64 []), false)], [])
  else
  (bif decide (p0 = ((8 : Nat) : Int)) then
  some ([.one ((.clo 65 []), false)], [])
  else
  none))))))))))) := by kernel_rfl
end impl_functionOfTwo
theorem impl_functionOfTwo.ok_of (hX : ∀ E ∈ impl_functionOfTwo.X, CallSpec Try.prog E) (h : ∀ (op : Int), (true) = true → ∃ fuel, runF Try.prog impl_functionOfTwo.X impl_functionOfTwo.I 0 fuel 39 Try.f39 [.d (.int .i64 op)] = some (bif decide (op = 1) then ([.one ((.clo 57 []), false)], []) else (bif decide (op = 2) then ([.one ((.clo 59 []), false)], []) else (bif decide (op = 3) then ([.one ((.clo 60 []), false)], []) else (bif decide (op = 4) then ([.one ((.clo 61 []), false)], []) else (bif decide (op = 5) then ([.one ((.clo 62 []), false)], []) else (bif decide (op = 6) then ([.one ((.clo 63 []), false)], []) else (bif decide (op = 7) then ([.one ((.clo 64 []), false)], []) else (bif decide (op = 8) then ([.one ((.clo 65 []), false)], []) else ([.one (.nilf, false)], [])))))))))) : CallSpec Try.prog impl_functionOfTwo.E :=
  callSpec_of (d := 0) hX (by kernel_rfl) impl_functionOfTwo.I_ok (by kernel_rfl) (by kernel_rfl) (by kernel_rfl) (fun _ _ _ _ h => by dsimp only [impl_functionOfTwo.E] at h; cases h) (fun xs hp => by
    dsimp only [impl_functionOfTwo.E] at hp ⊢
    split at hp
    · exact h _ hp
    · cases hp)
theorem impl_functionOfTwo.ok : CallSpec Try.prog impl_functionOfTwo.E := impl_functionOfTwo.ok_of (by simp [impl_functionOfTwo.X]) fun op _ => ⟨0, by
  rw [impl_functionOfTwo.e]
  cases ho : opOk op with
  | true => rcases opOk_cases ho with rfl | rfl | rfl | rfl | rfl | rfl | rfl | rfl <;> rfl
  | false =>
    have h := opOk_no ho
    rw [decide_eq_false (p := op = 1) (by omega), decide_eq_false (p := op = 2) (by omega), decide_eq_false (p := op = 3) (by omega), decide_eq_false (p := op = 4) (by omega),
      decide_eq_false (p := op = 5) (by omega), decide_eq_false (p := op = 6) (by omega), decide_eq_false (p := op = 7) (by omega), decide_eq_false (p := op = 8) (by omega)]
    by_cases h1 : op < 0
    · rw [decide_eq_true h1]; rfl
    · by_cases h2 : op ≥ 9
      · rw [decide_eq_false h1, decide_eq_true h2]; rfl
      · have : op = 0 := by omega
        subst this
        rfl⟩

namespace impl_functionOfTwo_f
noncomputable def E : Entry := ⟨39, true, false, fun | [.d (.int .i64 op)] => true | _ => false, fun | [.d (.int .i64 op)] => ([.one (.nilf, false)], []) | _ => ([], []), fun | [.d (.int .i64 op)] => [(opOk op, ([.one ((.fn false q2 ((q2v (operF op)))), false)], []))] | _ => [], false, fun _ => none⟩
end impl_functionOfTwo_f
theorem impl_functionOfTwo_f.ok : CallSpec Try.prog impl_functionOfTwo_f.E := CallSpec.le impl_functionOfTwo.ok rfl (fun _ _ _ _ h => by dsimp only [impl_functionOfTwo_f.E] at h; cases h) fun xs h => by
  dsimp only [impl_functionOfTwo_f.E] at h
  split at h
  case h_2 => simp at h
  rename_i op
  refine ⟨rfl, ?_⟩
  simp only [Entry.r, impl_functionOfTwo_f.E, impl_functionOfTwo.E, pickR]
  cases ho : opOk op with
  | true =>
    rcases opOk_cases ho with rfl | rfl | rfl | rfl | rfl | rfl | rfl | rfl
    · exact ⟨.one (.inr (.inr (.inr ⟨impl_functionOfTwo_1.E, [], false, q2, q2v (operF 1), impl_functionOfTwo_1.ok, rfl, rfl, rfl⟩))) .nil, rfl⟩
    · exact ⟨.one (.inr (.inr (.inr ⟨impl_functionOfTwo_2.E, [], false, q2, q2v (operF 2), impl_functionOfTwo_2.ok, rfl, rfl, rfl⟩))) .nil, rfl⟩
    · exact ⟨.one (.inr (.inr (.inr ⟨impl_functionOfTwo_3.E, [], false, q2, q2v (operF 3), impl_functionOfTwo_3.ok, rfl, rfl, rfl⟩))) .nil, rfl⟩
    · exact ⟨.one (.inr (.inr (.inr ⟨impl_functionOfTwo_4.E, [], false, q2, q2v (operF 4), impl_functionOfTwo_4.ok, rfl, rfl, rfl⟩))) .nil, rfl⟩
    · exact ⟨.one (.inr (.inr (.inr ⟨impl_functionOfTwo_5.E, [], false, q2, q2v (operF 5), impl_functionOfTwo_5.ok, rfl, rfl, rfl⟩))) .nil, rfl⟩
    · exact ⟨.one (.inr (.inr (.inr ⟨impl_functionOfTwo_6.E, [], false, q2, q2v (operF 6), impl_functionOfTwo_6.ok, rfl, rfl, rfl⟩))) .nil, rfl⟩
    · exact ⟨.one (.inr (.inr (.inr ⟨impl_functionOfTwo_7.E, [], false, q2, q2v (operF 7), impl_functionOfTwo_7.ok, rfl, rfl, rfl⟩))) .nil, rfl⟩
    · exact ⟨.one (.inr (.inr (.inr ⟨impl_restOf.E, [], false, q2, q2v (operF 8), impl_restOf.ok, rfl, rfl, rfl⟩))) .nil, rfl⟩
  | false =>
    have h := opOk_no ho
    rw [decide_eq_false (p := op = 1) (by omega), decide_eq_false (p := op = 2) (by omega), decide_eq_false (p := op = 3) (by omega), decide_eq_false (p := op = 4) (by omega),
      decide_eq_false (p := op = 5) (by omega), decide_eq_false (p := op = 6) (by omega), decide_eq_false (p := op = 7) (by omega), decide_eq_false (p := op = 8) (by omega)]
    exact ⟨.same .nil, rfl⟩

namespace slices_Equal_int_int
noncomputable def E : Entry := ⟨40, true, false, fun | [.d (.ints .i64 xs), .d (.ints .i64 ys)] => decide (xs.length < 9223372036854775808) && decide (ys.length < 9223372036854775808) | _ => false, fun | [.d (.ints .i64 xs), .d (.ints .i64 ys)] => ([.one ((.bool (decide (xs = ys))), false)], []) | _ => ([], []), fun _ => [], false, fun _ => none⟩
end slices_Equal_int_int
namespace slices_Equal_int_int
noncomputable def X : List Entry := []
noncomputable def I : List Inl := [⟨40, Try.f40, ⟨[], [(1000004, [2, 3, 4, 5, 6, 7, 8, 9, 10, 11, 14, 15, 16, 17, 18, 19, 20, 21, 22, 23, 24, 25])], [], [(6, [0, 1, 4, 5, 2, 3, 6, 7, 8])], [], []⟩⟩]
theorem I_ok : ∀ i ∈ I, Try.prog.funcs[i.f]? = some i.fn ∧ (i.fn.name == "runtime.NumGoroutine") = false := by
  intro i hi
  simp only [I, List.mem_cons, List.not_mem_nil, or_false] at hi
  subst hi
  exact ⟨by kernel_rfl, by kernel_rfl⟩
noncomputable abbrev L0 (fuel n : Nat) (s : St) (k : Kont) := lAt Try.prog X I fuel true 0 false 40 (bodyOf Try.f40) [1, 1, 0, 1, 0] n s k
noncomputable abbrev k0  (fuel : Nat) : Kont := (kAt Try.prog X I fuel true 0 false 40 (bodyOf Try.f40) [1, 1, 0, 1, 0] [] (endK Try.prog Try.f40))
noncomputable def t0 (p0 : List Int) (p1 : List Int) (x0q3 : Int) : St := ⟨[(.imm (.ints .i64 p0)), (.imm (.ints .i64 p1)), .dead, .dead, .dead, .dead, .dead, .dead, .dead, .dead, .dead, .dead, (.imm (.int .i64 ((p0.length : Nat) : Int))), (.imm (.int .i64 x0q3)), .dead, .dead, .dead, .dead, .dead, .dead, .dead, .dead, .dead, .dead, .dead, .dead], hOf [], [], []⟩
theorem e (fuel : Nat) (p0 : List Int) (p1 : List Int) : runF Try.prog X I 0 fuel 40 Try.f40 [.d (.ints .i64 p0), .d (.ints .i64 p1)] =
  (bif ((((p0.length : Nat) : Int) : Int) != ((p1.length : Nat) : Int)) then
  some ([.one ((.bool false), false)], [])
  else
  L0 fuel fuel (t0 p0 p1 0) (k0  fuel)) := by kernel_rfl
theorem s0 (fuel n0 : Nat) (p0 : List Int) (p1 : List Int) (x0q3 : Int) : L0 fuel (n0 + 1) (t0 p0 p1 x0q3) (k0  fuel) =
  (bif (decide ((x0q3 : Int) < ((p0.length : Nat) : Int))) then
  (idx x0q3 p0.length).bind fun j9 =>
  (p0[j9]?).bind fun v10 =>
  (idx x0q3 p1.length).bind fun j11 =>
  (p1[j11]?).bind fun v12 =>
  (bif ((v10 : Int) != v12) then
  some ([.one ((.bool false), false)], [])
  else
  L0 fuel n0 (t0 p0 p1 ((IntKind.wrap .i64 (x0q3 + 1)))) (k0  fuel))
  else
  some ([.one ((.bool true), false)], [])) := by kernel_rfl
end slices_Equal_int_int
theorem slices_Equal_int_int.ok_of (hX : ∀ E ∈ slices_Equal_int_int.X, CallSpec Try.prog E) (h : ∀ (xs : List Int) (ys : List Int), (decide (xs.length < 9223372036854775808) && decide (ys.length < 9223372036854775808)) = true → ∃ fuel, runF Try.prog slices_Equal_int_int.X slices_Equal_int_int.I 0 fuel 40 Try.f40 [.d (.ints .i64 xs), .d (.ints .i64 ys)] = some ([.one ((.bool (decide (xs = ys))), false)], [])) : CallSpec Try.prog slices_Equal_int_int.E :=
  callSpec_of (d := 0) hX (by kernel_rfl) slices_Equal_int_int.I_ok (by kernel_rfl) (by kernel_rfl) (by kernel_rfl) (fun _ _ _ _ h => by dsimp only [slices_Equal_int_int.E] at h; cases h) (fun xs hp => by
    dsimp only [slices_Equal_int_int.E] at hp ⊢
    split at hp
    · exact h _ _ hp
    · cases hp)
theorem slices_Equal_int_int.loop (fuel : Nat) (xs ys : List Int) (hl : xs.length = ys.length) (hx : xs.length < 9223372036854775808) : ∀ (m n j : Nat), xs.length - j = m → m < n → j ≤ xs.length →
    slices_Equal_int_int.L0 fuel n (slices_Equal_int_int.t0 xs ys (j : Int)) (slices_Equal_int_int.k0 fuel) = some ([.one (.bool (decide (xs.drop j = ys.drop j)), false)], []) := by
  intro m
  induction m with
  | zero =>
    intro n j h1 h2 h3
    obtain ⟨n, rfl⟩ : ∃ n', n = n' + 1 := ⟨n - 1, by omega⟩
    have hj : ¬ j < xs.length := by omega
    rw [slices_Equal_int_int.s0, dge hj, dropE hj, dropE (xs := ys) (by omega)]
    rfl
  | succ m ih =>
    intro n j h1 h2 h3
    obtain ⟨n, rfl⟩ : ∃ n', n = n' + 1 := ⟨n - 1, by omega⟩
    have hj : j < xs.length := by omega
    have hj2 : j < ys.length := by omega
    rw [slices_Equal_int_int.s0, dlt hj, idx_nat hj, idx_nat hj2, w1 (by omega), dropS hj, dropS hj2]
    simp only [cond_true, Option.bind_some, getS hj, getS hj2]
    rw [ih n (j + 1) (by omega) (by omega) (by omega)]
    by_cases hv : xs[j] = ys[j]
    · rw [hv]
      simp only [bne_self_eq_false, cond_false, List.cons.injEq, true_and]
    · have : (xs[j] != ys[j]) = true := by simp [hv]
      rw [this]
      simp only [cond_true, List.cons.injEq, hv, false_and, decide_false]

theorem slices_Equal_int_int.ok : CallSpec Try.prog slices_Equal_int_int.E := slices_Equal_int_int.ok_of (by simp [slices_Equal_int_int.X]) fun xs ys h => by
  simp only [Bool.and_eq_true, decide_eq_true_eq] at h
  refine ⟨xs.length + 1, ?_⟩
  rw [slices_Equal_int_int.e]
  by_cases hl : xs.length = ys.length
  · have := slices_Equal_int_int.loop (xs.length + 1) xs ys hl h.1 xs.length (xs.length + 1) 0 (by omega) (by omega) (by omega)
    simp only [List.drop_zero] at this
    simp only [hl, bne_self_eq_false, cond_false]
    rw [← hl]
    exact this
  · have hne : xs ≠ ys := fun e => hl (e ▸ rfl)
    have : (((xs.length : Nat) : Int) != ((ys.length : Nat) : Int)) = true := by simp; omega
    rw [this]
    simp [hne]

namespace impl_pairwise
noncomputable def E : Entry := ⟨41, false, false, fun | [.d (.fn false dom G), .d (.ints .i64 xs), .d (.ints .i64 ys)] => szB xs && decide (xs.length ≤ ys.length) && pwB dom xs ys | _ => false, fun | [.d (.fn false dom G), .d (.ints .i64 xs), .d (.ints .i64 ys)] => ([.one ((.ints .i64 (pwD G xs ys)), true)], []) | _ => ([], []), fun _ => [], true, fun _ => none⟩
end impl_pairwise
namespace impl_pairwise
noncomputable def X : List Entry := []
noncomputable def I : List Inl := [⟨41, Try.f41, ⟨[], [(1000003, [3, 4, 5, 6, 8, 9, 10, 11, 12, 15, 16, 17, 18, 19, 20, 21, 22, 23, 24, 25, 26, 27, 28, 29, 30, 31])], [], [(5, [0, 1, 2, 3, 4, 7, 8, 5, 6, 9, 10, 11, 12, 13])], [], []⟩⟩]
theorem I_ok : ∀ i ∈ I, Try.prog.funcs[i.f]? = some i.fn ∧ (i.fn.name == "runtime.NumGoroutine") = false := by
  intro i hi
  simp only [I, List.mem_cons, List.not_mem_nil, or_false] at hi
  subst hi
  exact ⟨by kernel_rfl, by kernel_rfl⟩
noncomputable abbrev L0 (fuel n : Nat) (s : St) (k : Kont) := lAt Try.prog X I fuel true 0 false 41 (bodyOf Try.f41) [1, 1, 0, 1, 0] n s k
noncomputable abbrev k0  (fuel : Nat) : Kont := (kAt Try.prog X I fuel true 0 false 41 (bodyOf Try.f41) [1, 1, 0, 1, 0] [] (endK Try.prog Try.f41))
noncomputable def t0 (p0d : List Q → Bool) (p0g : List Q → Int) (p1 : List Int) (p2 : List Int) (x0q5 : Int) (x0q6 : List Int) : St := ⟨[(.imm (.fn false p0d p0g)), (.imm (.ints .i64 p1)), (.imm (.ints .i64 p2)), .dead, .dead, .dead, .dead, (.all 1000000000 1), .dead, .dead, .dead, .dead, .dead, (.imm (.int .i64 (((List.replicate (((p1.length : Nat) : Int)).toNat (0 : Int)).length : Nat) : Int))), (.imm (.int .i64 x0q5)), .dead, .dead, .dead, .dead, .dead, .dead, .dead, .dead, .dead, .dead, .dead, .dead, .dead, .dead, .dead, .dead, .dead], hOf [(1000000000, (.ints .i64 x0q6))], [], []⟩
theorem e (fuel : Nat) (p0d : List Q → Bool) (p0g : List Q → Int) (p1 : List Int) (p2 : List Int) : runF Try.prog X I 0 fuel 41 Try.f41 [.d (.fn false p0d p0g), .d (.ints .i64 p1), .d (.ints .i64 p2)] =
  (bif decide (0 ≤ (((p1.length : Nat) : Int) : Int)) && decide ((((p1.length : Nat) : Int) : Int) ≤ ((p1.length : Nat) : Int)) && decide ((((p1.length : Nat) : Int) : Int) ≤ 1152921504606846976) && decide (((8 : Nat) : Int) * ((p1.length : Nat) : Int) ≤ 281474976710656) then
  L0 fuel fuel (t0 p0d p0g p1 p2 0 ((List.replicate (((p1.length : Nat) : Int)).toNat (0 : Int)))) (k0  fuel)
  else
  none) := by kernel_rfl
theorem s0 (fuel n0 : Nat) (p0d : List Q → Bool) (p0g : List Q → Int) (p1 : List Int) (p2 : List Int) (x0q5 : Int) (x0q6 : List Int) : L0 fuel (n0 + 1) (t0 p0d p0g p1 p2 x0q5 x0q6) (k0  fuel) =
  (bif (decide ((x0q5 : Int) < (((List.replicate (((p1.length : Nat) : Int)).toNat (0 : Int)).length : Nat) : Int))) then
  (idx x0q5 p1.length).bind fun j11 =>
  (p1[j11]?).bind fun v12 =>
  (idx x0q5 p2.length).bind fun j13 =>
  (p2[j13]?).bind fun v14 =>
  (bif (p0d [Q.i v12, Q.i v14]) then
  (idx x0q5 x0q6.length).bind fun j15 =>
  (bif decide (j15 < x0q6.length) then
  L0 fuel n0 (t0 p0d p0g p1 p2 ((IntKind.wrap .i64 (x0q5 + 1))) ((x0q6.set j15 (p0g [Q.i v12, Q.i v14])))) (k0  fuel)
  else
  none)
  else
  none)
  else
  some ([.one ((.ints .i64 x0q6), true)], [])) := by kernel_rfl
end impl_pairwise
theorem impl_pairwise.ok_of (hX : ∀ E ∈ impl_pairwise.X, CallSpec Try.prog E) (h : ∀ (dom : List Q → Bool) (G : List Q → Int) (xs : List Int) (ys : List Int), (szB xs && decide (xs.length ≤ ys.length) && pwB dom xs ys) = true → ∃ fuel, runF Try.prog impl_pairwise.X impl_pairwise.I 0 fuel 41 Try.f41 [.d (.fn false dom G), .d (.ints .i64 xs), .d (.ints .i64 ys)] = some ([.one ((.ints .i64 (pwD G xs ys)), true)], [])) : CallSpec Try.prog impl_pairwise.E :=
  callSpec_of (d := 0) hX (by kernel_rfl) impl_pairwise.I_ok (by kernel_rfl) (by kernel_rfl) (by kernel_rfl) (fun _ _ _ _ h => by dsimp only [impl_pairwise.E] at h; cases h) (fun xs hp => by
    dsimp only [impl_pairwise.E] at hp ⊢
    split at hp
    · exact h _ _ _ _ hp
    · cases hp)
theorem impl_pairwise.ok : CallSpec Try.prog impl_pairwise.E := impl_pairwise.ok_of (by simp [impl_pairwise.X]) fun dom G xs ys h => ⟨xs.length + 1, by
  simp only [Bool.and_eq_true, decide_eq_true_eq] at h
  have hx := szB_le h.1.1
  have hA : (pwD G xs ys).length = xs.length := tab_length _ _
  rw [impl_pairwise.e, mkOk (by omega) (by omega), cond_true]
  refine run_loop (N := xs.length) (fun n j out => impl_pairwise.L0 (xs.length + 1) n (impl_pairwise.t0 dom G xs ys (j : Int) out) (impl_pairwise.k0 (xs.length + 1))) (fun j out => out = part (pwD G xs ys) j) ?_ ?_ (xs.length + 1) 0 _ (by omega) (by omega) (by rw [part_zero, hA]; rfl)
  · intro n out ho
    rw [← hA, part_all] at ho
    rw [impl_pairwise.s0, List.length_replicate, Int.toNat_natCast, dge (by omega), ho]
    rfl
  · intro n j out hj ho
    have hol : out.length = xs.length := by rw [ho, part_length (by omega), hA]
    have hy : j < ys.length := by omega
    rw [impl_pairwise.s0, List.length_replicate, Int.toNat_natCast, dlt hj, idx_nat hj, idx_nat hy, idx_nat (by omega), w1 (by omega)]
    simp only [cond_true, Option.bind_some, getD_get hj, getD_get hy]
    rw [pwB_get h.2 hj, decide_eq_true (by omega)]
    refine ⟨_, ?_, rfl⟩
    rw [ho, part_set (by omega)]
    exact tab_getD hj⟩

namespace impl_Combine
noncomputable def E : Entry := ⟨21, false, false, fun | [.d (.int .i64 op), .d (.agg [(.ints .i64 s1), (.ints .i64 d1)]), .d (.agg [(.ints .i64 s2), (.ints .i64 d2)])] => decide (s1.length < 9223372036854775808) && decide (d1.length < 9223372036854775808) && decide (s2.length < 9223372036854775808) && decide (d2.length < 9223372036854775808) | _ => false, fun | [.d (.int .i64 op), .d (.agg [(.ints .i64 s1), (.ints .i64 d1)]), .d (.agg [(.ints .i64 s2), (.ints .i64 d2)])] => ([.agg [((.ints .i64 (comS op s1 d1 s2 d2)), true), ((.ints .i64 (comD op s1 d1 s2 d2)), true)], .one ((.bool (comB op s1 d1 s2 d2)), false)], []) | _ => ([], []), fun _ => [], true, fun _ => none⟩
end impl_Combine
namespace impl_Combine
noncomputable def X : List Entry := [impl_functionOfTwo_f.E, impl_ValidArray.E, impl_Reshape.E, slices_Equal_int_int.E, impl_copyList.E, impl_pairwise.E]
noncomputable def I : List Inl := [⟨21, Try.f21, ⟨[32, 43, 55, 61], [], [], [(10, [0, 3, 4, 6, 1, 5, 7, 2, 8, 9, 10, 11])], [], []⟩⟩]
theorem I_ok : ∀ i ∈ I, Try.prog.funcs[i.f]? = some i.fn ∧ (i.fn.name == "runtime.NumGoroutine") = false := by
  intro i hi
  simp only [I, List.mem_cons, List.not_mem_nil, or_false] at hi
  subst hi
  exact ⟨by kernel_rfl, by kernel_rfl⟩
theorem e (fuel : Nat) (p0 : Int) (p1q0 : List Int) (p1q1 : List Int) (p2q0 : List Int) (p2q1 : List Int) : runF Try.prog X I 0 fuel 21 Try.f21 [.d (.int .i64 p0), .d (.agg [(.ints .i64 p1q0), (.ints .i64 p1q1)]), .d (.agg [(.ints .i64 p2q0), (.ints .i64 p2q1)])] =
  (bif opOk p0 then
  (bif decide (p1q0.length < 9223372036854775808) && decide (p1q1.length < 9223372036854775808) then
  (bif (!(validA p1q0 p1q1)) then
  some ([.agg [((.ints .i64 []), true), ((.ints .i64 []), true)], .one ((.bool false), false)], [])
  else
  (bif decide (p2q0.length < 9223372036854775808) && decide (p2q1.length < 9223372036854775808) then
  (bif (!(validA p2q0 p2q1)) then
  some ([.agg [((.ints .i64 []), true), ((.ints .i64 []), true)], .one ((.bool false), false)], [])
  else
  (bif ((((p1q0.length : Nat) : Int) : Int) == 0) then
  (bif decide (p2q0.length < 9223372036854775808) && decide (p1q0.length < 9223372036854775808) && decide (p1q1.length < 9223372036854775808) then
  (bif decide (((reshS p2q0 p1q0 p1q1)).length < 9223372036854775808) && decide (p2q0.length < 9223372036854775808) then
  (bif (!(decide (((reshS p2q0 p1q0 p1q1)) = p2q0))) then
  some ([.agg [((.ints .i64 []), true), ((.ints .i64 []), true)], .one ((.bool false), false)], [])
  else
  (bif szB ((reshS p2q0 p1q0 p1q1)) then
  (bif szB ((reshD p2q0 p1q0 p1q1)) && decide (((reshD p2q0 p1q0 p1q1)).length ≤ p2q1.length) && pwB q2 ((reshD p2q0 p1q0 p1q1)) p2q1 then
  some ([.agg [((.ints .i64 ((reshS p2q0 p1q0 p1q1))), true), ((.ints .i64 (pwD ((q2v (operF p0))) ((reshD p2q0 p1q0 p1q1)) p2q1)), true)], .one ((.bool true), false)], [])
  else
  none)
  else
  none))
  else
  none)
  else
  none)
  else
  (bif ((((p2q0.length : Nat) : Int) : Int) == 0) then
  (bif decide (p1q0.length < 9223372036854775808) && decide (p2q0.length < 9223372036854775808) && decide (p2q1.length < 9223372036854775808) then
  (bif decide (p1q0.length < 9223372036854775808) && decide (((reshS p1q0 p2q0 p2q1)).length < 9223372036854775808) then
  (bif (!(decide (p1q0 = ((reshS p1q0 p2q0 p2q1))))) then
  some ([.agg [((.ints .i64 []), true), ((.ints .i64 []), true)], .one ((.bool false), false)], [])
  else
  (bif szB p1q0 then
  (bif szB p1q1 && decide (p1q1.length ≤ ((reshD p1q0 p2q0 p2q1)).length) && pwB q2 p1q1 ((reshD p1q0 p2q0 p2q1)) then
  some ([.agg [((.ints .i64 p1q0), true), ((.ints .i64 (pwD ((q2v (operF p0))) p1q1 ((reshD p1q0 p2q0 p2q1)))), true)], .one ((.bool true), false)], [])
  else
  none)
  else
  none))
  else
  none)
  else
  none)
  else
  (bif decide (p1q0.length < 9223372036854775808) && decide (p2q0.length < 9223372036854775808) then
  (bif (!(decide (p1q0 = p2q0))) then
  some ([.agg [((.ints .i64 []), true), ((.ints .i64 []), true)], .one ((.bool false), false)], [])
  else
  (bif szB p1q0 then
  (bif szB p1q1 && decide (p1q1.length ≤ p2q1.length) && pwB q2 p1q1 p2q1 then
  some ([.agg [((.ints .i64 p1q0), true), ((.ints .i64 (pwD ((q2v (operF p0))) p1q1 p2q1)), true)], .one ((.bool true), false)], [])
  else
  none)
  else
  none))
  else
  none))))
  else
  none))
  else
  none)
  else
  some ([.agg [((.ints .i64 []), true), ((.ints .i64 []), true)], .one ((.bool false), false)], [])) := by kernel_rfl
end impl_Combine
theorem impl_Combine.ok_of (hX : ∀ E ∈ impl_Combine.X, CallSpec Try.prog E) (h : ∀ (op : Int) (s1 : List Int) (d1 : List Int) (s2 : List Int) (d2 : List Int), (decide (s1.length < 9223372036854775808) && decide (d1.length < 9223372036854775808) && decide (s2.length < 9223372036854775808) && decide (d2.length < 9223372036854775808)) = true → ∃ fuel, runF Try.prog impl_Combine.X impl_Combine.I 0 fuel 21 Try.f21 [.d (.int .i64 op), .d (.agg [(.ints .i64 s1), (.ints .i64 d1)]), .d (.agg [(.ints .i64 s2), (.ints .i64 d2)])] = some ([.agg [((.ints .i64 (comS op s1 d1 s2 d2)), true), ((.ints .i64 (comD op s1 d1 s2 d2)), true)], .one ((.bool (comB op s1 d1 s2 d2)), false)], [])) : CallSpec Try.prog impl_Combine.E :=
  callSpec_of (d := 0) hX (by kernel_rfl) impl_Combine.I_ok (by kernel_rfl) (by kernel_rfl) (by kernel_rfl) (fun _ _ _ _ h => by dsimp only [impl_Combine.E] at h; cases h) (fun xs hp => by
    dsimp only [impl_Combine.E] at hp ⊢
    split at hp
    · exact h _ _ _ _ _ hp
    · cases hp)
theorem impl_Combine.ok : CallSpec Try.prog impl_Combine.E := impl_Combine.ok_of (by simp [impl_Combine.X, impl_functionOfTwo_f.ok, impl_ValidArray.ok, impl_Reshape.ok, slices_Equal_int_int.ok, impl_copyList.ok, impl_pairwise.ok]) fun op s1 d1 s2 d2 h => ⟨0, by
  rw [impl_Combine.e]
  simp only [Bool.and_eq_true] at h
  obtain ⟨⟨⟨h1, h2⟩, h3⟩, h4⟩ := h
  simp only [h1, h2, h3, h4, Bool.and_self, Bool.true_and, Bool.and_true, cond_true, len0, pwB_q2, pwD_q2]
  unfold comS comD
  cases ho : opOk op with
  | false => simp only [comB, ho]; rfl
  | true =>
    cases v1 : validA s1 d1 with
    | false => simp only [comB, ho, v1]; rfl
    | true =>
      cases v2 : validA s2 d2 with
      | false => simp only [comB, ho, v1, v2]; rfl
      | true =>
        have b1 := validA_len v1
        have b2 := validA_len v2
        simp only [comB, ho, v1, v2, Bool.and_self, Bool.true_and, cond_true, Bool.not_true, cond_false]
        by_cases e1 : s1.length = 0
        · have e1' := List.length_eq_zero_iff.mp e1
          have hr := resh_sc (e1' ▸ v1) v2 e1'
          have b3 := resh_len s2 s1 d1
          have hd : (reshD s2 s1 d1).length = d2.length := by rw [hr.2, tab_length]
          rw [decide_eq_true e1, cond_true, decide_eq_true (p := (reshS s2 s1 d1).length < 9223372036854775808) (by omega), cond_true, decide_eq_true hr.1, szB_of (by omega), szB_of (by omega), decide_eq_true (p := (reshD s2 s1 d1).length ≤ d2.length) (by omega), hd]
          subst e1'
          rw [cD_a op v1 v2, hr.1]
          simp [fitB, cS]
        · rw [decide_eq_false e1, cond_false]
          by_cases e2 : s2.length = 0
          · have e2' := List.length_eq_zero_iff.mp e2
            have hr := resh_sc (e2' ▸ v2) v1 e2'
            have b3 := resh_len s1 s2 d2
            have hd : (reshD s1 s2 d2).length = d1.length := by rw [hr.2, tab_length]
            rw [decide_eq_true e2, cond_true, decide_eq_true (p := (reshS s1 s2 d2).length < 9223372036854775808) (by omega), cond_true, decide_eq_true hr.1.symm, szB_of (by omega), szB_of (by omega), decide_eq_true (p := d1.length ≤ (reshD s1 s2 d2).length) (by omega)]
            subst e2'
            rw [cD_b op v1 v2 e1]
            simp [fitB, cS, e1]
          · rw [decide_eq_false e2, cond_false]
            by_cases e3 : s1 = s2
            · subst e3
              have l1 := vol_len v1
              have l2 := vol_len v2
              rw [decide_eq_true rfl, szB_of (by omega), szB_of (by omega), decide_eq_true (p := d1.length ≤ d2.length) (by omega), cD_c op v1 v2 e1]
              simp [fitB, cS, e1]
            · rw [decide_eq_false e3]
              simp [fitB, e1, e2, e3]⟩

namespace laws_FnMapArray
noncomputable def E : Entry := ⟨7, true, false, fun | [.d (.ints .u8 bs)] => bytesB bs | _ => false, fun | [.d (.ints .u8 bs)] => ([.one ((.bool true), false)], []) | _ => ([], []), fun _ => [], false, fun _ => none⟩
end laws_FnMapArray
namespace laws_FnMapArray
noncomputable def X : List Entry := [spec_DrawMapArray.E, impl_MapArray.E, spec_MapArray.E, laws_equalArray.E, impl_ValidArray.E, impl_Combine.E]
noncomputable def I : List Inl := [⟨7, Try.f7, ⟨[13, 18, 22, 33, 37, 39, 40, 51, 52], [], [], [(5, [1, 0, 2, 3, 4, 5, 6, 7, 8, 9, 10]), (6, [1, 0, 2, 3, 4, 5]), (7, [0, 2, 1, 3, 4, 5, 6, 7, 8, 9, 10]), (8, [0, 1, 2, 3, 4, 5, 6, 7, 10, 8, 9, 11, 12, 13])], [], []⟩⟩]
theorem I_ok : ∀ i ∈ I, Try.prog.funcs[i.f]? = some i.fn ∧ (i.fn.name == "runtime.NumGoroutine") = false := by
  intro i hi
  simp only [I, List.mem_cons, List.not_mem_nil, or_false] at hi
  subst hi
  exact ⟨by kernel_rfl, by kernel_rfl⟩
theorem e (fuel : Nat) (p0 : List Int) : runF Try.prog X I 0 fuel 7 Try.f7 [.d (.ints .u8 p0)] =
  (bif (decide ((((p0.length : Nat) : Int) : Int) > 1048576)) then
  some ([.one ((.bool true), false)], [])
  else
  (bif bytesB p0 then
  (bif decide (((aArS (cutC p0) 1)).length < 9223372036854775808) && decide (((aArD (cutC p0) 1)).length < 9223372036854775808) then
  (bif decide (((aArS (cutC p0) 1)).length < 9223372036854775808) && decide (((aArD (cutC p0) 1)).length < 9223372036854775808) then
  (bif decide (((mapS ((oneV (cutC p0) 0 mapL)) ((aArS (cutC p0) 1)) ((aArD (cutC p0) 1)))).length < 9223372036854775808) && decide (((mapD ((oneV (cutC p0) 0 mapL)) ((aArS (cutC p0) 1)) ((aArD (cutC p0) 1)))).length < 9223372036854775808) && decide (((mapS ((oneV (cutC p0) 0 mapL)) ((aArS (cutC p0) 1)) ((aArD (cutC p0) 1)))).length < 9223372036854775808) && decide (((mapD ((oneV (cutC p0) 0 mapL)) ((aArS (cutC p0) 1)) ((aArD (cutC p0) 1)))).length < 9223372036854775808) then
  (bif (!(decide (((mapS ((oneV (cutC p0) 0 mapL)) ((aArS (cutC p0) 1)) ((aArD (cutC p0) 1)))) = ((mapS ((oneV (cutC p0) 0 mapL)) ((aArS (cutC p0) 1)) ((aArD (cutC p0) 1))))) && decide (((mapD ((oneV (cutC p0) 0 mapL)) ((aArS (cutC p0) 1)) ((aArD (cutC p0) 1)))) = ((mapD ((oneV (cutC p0) 0 mapL)) ((aArS (cutC p0) 1)) ((aArD (cutC p0) 1))))))) then
  (bif decide (((aArS (cutC p0) 1)).length < 9223372036854775808) && decide (((aArD (cutC p0) 1)).length < 9223372036854775808) then
  (bif decide (((mapS ((oneV (cutC p0) 0 mapL)) ((aArS (cutC p0) 1)) ((aArD (cutC p0) 1)))).length < 9223372036854775808) && decide (((mapD ((oneV (cutC p0) 0 mapL)) ((aArS (cutC p0) 1)) ((aArD (cutC p0) 1)))).length < 9223372036854775808) && decide (((mapS ((oneV (cutC p0) 0 mapL)) ((aArS (cutC p0) 1)) ((aArD (cutC p0) 1)))).length < 9223372036854775808) && decide (((mapD ((oneV (cutC p0) 0 mapL)) ((aArS (cutC p0) 1)) ((aArD (cutC p0) 1)))).length < 9223372036854775808) then
  some ([.one ((.bool (decide (((mapS ((oneV (cutC p0) 0 mapL)) ((aArS (cutC p0) 1)) ((aArD (cutC p0) 1)))) = ((mapS ((oneV (cutC p0) 0 mapL)) ((aArS (cutC p0) 1)) ((aArD (cutC p0) 1))))) && decide (((mapD ((oneV (cutC p0) 0 mapL)) ((aArS (cutC p0) 1)) ((aArD (cutC p0) 1)))) = ((mapD ((oneV (cutC p0) 0 mapL)) ((aArS (cutC p0) 1)) ((aArD (cutC p0) 1))))))), false)], [])
  else
  none)
  else
  none)
  else
  (bif decide (((aArS (cutC p0) 1)).length < 9223372036854775808) && decide (((aArD (cutC p0) 1)).length < 9223372036854775808) then
  (bif (!(validA ((aArS (cutC p0) 1)) ((aArD (cutC p0) 1)))) then
  (bif decide (((aArS (cutC p0) 1)).length < 9223372036854775808) && decide (((aArD (cutC p0) 1)).length < 9223372036854775808) then
  (bif decide (((mapS ((oneV (cutC p0) 0 mapL)) ((aArS (cutC p0) 1)) ((aArD (cutC p0) 1)))).length < 9223372036854775808) && decide (((mapD ((oneV (cutC p0) 0 mapL)) ((aArS (cutC p0) 1)) ((aArD (cutC p0) 1)))).length < 9223372036854775808) && decide (((mapS ((oneV (cutC p0) 0 mapL)) ((aArS (cutC p0) 1)) ((aArD (cutC p0) 1)))).length < 9223372036854775808) && decide (((mapD ((oneV (cutC p0) 0 mapL)) ((aArS (cutC p0) 1)) ((aArD (cutC p0) 1)))).length < 9223372036854775808) then
  some ([.one ((.bool (decide (((mapS ((oneV (cutC p0) 0 mapL)) ((aArS (cutC p0) 1)) ((aArD (cutC p0) 1)))) = ((mapS ((oneV (cutC p0) 0 mapL)) ((aArS (cutC p0) 1)) ((aArD (cutC p0) 1))))) && decide (((mapD ((oneV (cutC p0) 0 mapL)) ((aArS (cutC p0) 1)) ((aArD (cutC p0) 1)))) = ((mapD ((oneV (cutC p0) 0 mapL)) ((aArS (cutC p0) 1)) ((aArD (cutC p0) 1))))))), false)], [])
  else
  none)
  else
  none)
  else
  (bif decide (((aArS (cutC p0) 1)).length < 9223372036854775808) && decide (((aArD (cutC p0) 1)).length < 9223372036854775808) then
  (bif decide (((aArS (cutC p0) 1)).length < 9223372036854775808) && decide (((aArD (cutC p0) 1)).length < 9223372036854775808) then
  (bif decide (((mapS 3 ((aArS (cutC p0) 1)) ((aArD (cutC p0) 1)))).length < 9223372036854775808) && decide (((mapD 3 ((aArS (cutC p0) 1)) ((aArD (cutC p0) 1)))).length < 9223372036854775808) && decide (((mapS 2 ((aArS (cutC p0) 1)) ((aArD (cutC p0) 1)))).length < 9223372036854775808) && decide (((mapD 2 ((aArS (cutC p0) 1)) ((aArD (cutC p0) 1)))).length < 9223372036854775808) then
  (bif (comB 3 ((mapS 3 ((aArS (cutC p0) 1)) ((aArD (cutC p0) 1)))) ((mapD 3 ((aArS (cutC p0) 1)) ((aArD (cutC p0) 1)))) ((mapS 2 ((aArS (cutC p0) 1)) ((aArD (cutC p0) 1)))) ((mapD 2 ((aArS (cutC p0) 1)) ((aArD (cutC p0) 1))))) then
  (bif decide (((comS 3 ((mapS 3 ((aArS (cutC p0) 1)) ((aArD (cutC p0) 1)))) ((mapD 3 ((aArS (cutC p0) 1)) ((aArD (cutC p0) 1)))) ((mapS 2 ((aArS (cutC p0) 1)) ((aArD (cutC p0) 1)))) ((mapD 2 ((aArS (cutC p0) 1)) ((aArD (cutC p0) 1)))))).length < 9223372036854775808) && decide (((comD 3 ((mapS 3 ((aArS (cutC p0) 1)) ((aArD (cutC p0) 1)))) ((mapD 3 ((aArS (cutC p0) 1)) ((aArD (cutC p0) 1)))) ((mapS 2 ((aArS (cutC p0) 1)) ((aArD (cutC p0) 1)))) ((mapD 2 ((aArS (cutC p0) 1)) ((aArD (cutC p0) 1)))))).length < 9223372036854775808) && decide (((aArS (cutC p0) 1)).length < 9223372036854775808) && decide (((aArD (cutC p0) 1)).length < 9223372036854775808) then
  (bif (decide (((comS 3 ((mapS 3 ((aArS (cutC p0) 1)) ((aArD (cutC p0) 1)))) ((mapD 3 ((aArS (cutC p0) 1)) ((aArD (cutC p0) 1)))) ((mapS 2 ((aArS (cutC p0) 1)) ((aArD (cutC p0) 1)))) ((mapD 2 ((aArS (cutC p0) 1)) ((aArD (cutC p0) 1)))))) = ((aArS (cutC p0) 1))) && decide (((comD 3 ((mapS 3 ((aArS (cutC p0) 1)) ((aArD (cutC p0) 1)))) ((mapD 3 ((aArS (cutC p0) 1)) ((aArD (cutC p0) 1)))) ((mapS 2 ((aArS (cutC p0) 1)) ((aArD (cutC p0) 1)))) ((mapD 2 ((aArS (cutC p0) 1)) ((aArD (cutC p0) 1)))))) = ((aArD (cutC p0) 1)))) then
  (bif decide (((aArS (cutC p0) 1)).length < 9223372036854775808) && decide (((aArD (cutC p0) 1)).length < 9223372036854775808) then
  (bif decide (((mapS 1 ((aArS (cutC p0) 1)) ((aArD (cutC p0) 1)))).length < 9223372036854775808) && decide (((mapD 1 ((aArS (cutC p0) 1)) ((aArD (cutC p0) 1)))).length < 9223372036854775808) then
  (bif decide (((mapS 1 ((mapS 1 ((aArS (cutC p0) 1)) ((aArD (cutC p0) 1)))) ((mapD 1 ((aArS (cutC p0) 1)) ((aArD (cutC p0) 1)))))).length < 9223372036854775808) && decide (((mapD 1 ((mapS 1 ((aArS (cutC p0) 1)) ((aArD (cutC p0) 1)))) ((mapD 1 ((aArS (cutC p0) 1)) ((aArD (cutC p0) 1)))))).length < 9223372036854775808) && decide (((aArS (cutC p0) 1)).length < 9223372036854775808) && decide (((aArD (cutC p0) 1)).length < 9223372036854775808) then
  some ([.one ((.bool (decide (((mapS 1 ((mapS 1 ((aArS (cutC p0) 1)) ((aArD (cutC p0) 1)))) ((mapD 1 ((aArS (cutC p0) 1)) ((aArD (cutC p0) 1)))))) = ((aArS (cutC p0) 1))) && decide (((mapD 1 ((mapS 1 ((aArS (cutC p0) 1)) ((aArD (cutC p0) 1)))) ((mapD 1 ((aArS (cutC p0) 1)) ((aArD (cutC p0) 1)))))) = ((aArD (cutC p0) 1))))), false)], [])
  else
  none)
  else
  none)
  else
  none)
  else
  some ([.one ((.bool false), false)], []))
  else
  none)
  else
  some ([.one ((.bool false), false)], []))
  else
  none)
  else
  none)
  else
  none))
  else
  none))
  else
  none)
  else
  none)
  else
  none)
  else
  none)) := by kernel_rfl
end laws_FnMapArray
theorem laws_FnMapArray.ok_of (hX : ∀ E ∈ laws_FnMapArray.X, CallSpec Try.prog E) (h : ∀ (bs : List Int), (bytesB bs) = true → ∃ fuel, runF Try.prog laws_FnMapArray.X laws_FnMapArray.I 0 fuel 7 Try.f7 [.d (.ints .u8 bs)] = some ([.one ((.bool true), false)], [])) : CallSpec Try.prog laws_FnMapArray.E :=
  callSpec_of (d := 0) hX (by kernel_rfl) laws_FnMapArray.I_ok (by kernel_rfl) (by kernel_rfl) (by kernel_rfl) (fun _ _ _ _ h => by dsimp only [laws_FnMapArray.E] at h; cases h) (fun xs hp => by
    dsimp only [laws_FnMapArray.E] at hp ⊢
    split at hp
    · exact h _ hp
    · cases hp)
theorem laws_FnMapArray.ok : CallSpec Try.prog laws_FnMapArray.E := laws_FnMapArray.ok_of (by simp [laws_FnMapArray.X, spec_DrawMapArray.ok, impl_MapArray.ok, spec_MapArray.ok, laws_equalArray.ok, impl_ValidArray.ok, impl_Combine.ok]) fun bs h => by
  obtain ⟨F, hF⟩ : ∃ F : Nat, 4000 < F := ⟨4001, by omega⟩
  refine ⟨F, ?_⟩
  rw [laws_FnMapArray.e]
  by_cases hl : ((bs.length : Nat) : Int) > 1048576
  · rw [decide_eq_true hl]; rfl
  rw [decide_eq_false hl, cond_false, h, cond_true]
  have r0 := cut_ok h (p := 0) (by omega) (by omega)
  obtain ⟨a1, a2, _, _⟩ := aAr_bd (rd_le (q := 1) r0 (by omega) (by omega)) (by omega)
  obtain ⟨fn, hfn⟩ : ∃ x, oneV (cutC bs) 0 mapL = x := ⟨_, rfl⟩
  obtain ⟨sh, hsh⟩ : ∃ x, aArS (cutC bs) 1 = x := ⟨_, rfl⟩
  obtain ⟨da, hda⟩ : ∃ x, aArD (cutC bs) 1 = x := ⟨_, rfl⟩
  rw [hsh] at a1
  rw [hda] at a2
  have g1 := lt_of (xs := sh) (by omega)
  have g2 := lt_of (xs := da) (by omega)
  have ml := map_len fn sh da
  have g3 := lt_of (xs := mapS fn sh da) (by omega)
  have g4 := lt_of (xs := mapD fn sh da) (by omega)
  simp only [hfn, hsh, hda]
  cases hv : validA sh da with
  | false =>
    simp only [Bool.and_self, Bool.and_true, Bool.true_and, cond_true, cond_false, Bool.not_true, Bool.not_false, bne_self_eq_false, beq_self_eq_true, decide_true, eq_self, g1, g2, g3, g4, hv]
  | true =>
    have h60 := (validA_len hv).2
    have mv := fun fn => map_valid fn hv
    have gx : ∀ fn, decide ((mapX fn da).length < 9223372036854775808) = true := fun fn => lt_of (by rw [mapX_length]; omega)
    obtain ⟨s3, d3⟩ := mapS_eq (fn := 3) rfl hv
    obtain ⟨s2, d2⟩ := mapS_eq (fn := 2) rfl hv
    obtain ⟨s1, d1⟩ := mapS_eq (fn := 1) rfl hv
    obtain ⟨t1, t2⟩ := mapS_eq (fn := 1) rfl (mv 1)
    obtain ⟨c1, c2, c3⟩ := com_same (op := 3) rfl (mv 3) (mv 2)
    have e3 : (tab (mapX 3 da).length fun i => operF 3 ((mapX 3 da).getD i 0) ((mapX 2 da).getD i 0)) = da := by
      symm
      refine tab_ext (mapX_length _ _).symm fun i hi => ?_
      rw [mapX_length] at hi
      rw [mapX_get hi, mapX_get hi, sign_size (numB_get hv hi)]
    have e1 : mapX 1 (mapX 1 da) = da := by
      unfold mapX
      symm
      refine tab_ext (mapX_length 1 da).symm fun i hi => ?_
      rw [tab_length] at hi
      rw [tab_getD hi, neg_neg (numB_get hv hi)]
    rw [e3] at c3
    rw [e1] at t2
    simp only [Bool.and_self, Bool.and_true, Bool.true_and, cond_true, cond_false, Bool.not_true, Bool.not_false, bne_self_eq_false, beq_self_eq_true, decide_true, eq_self, g1, g2, g3, g4, gx, hv, s3, d3, s2, d2, s1, d1, t1, t2, c1, c2, c3]

namespace impl_ScalarOf
noncomputable def E : Entry := ⟨22, false, false, fun | [.d (.int .i64 v)] => true | _ => false, fun | [.d (.int .i64 v)] => ([.agg [((.ints .i64 nilI), true), ((.ints .i64 (scalL v)), true)]], []) | _ => ([], []), fun _ => [], true, fun _ => none⟩
end impl_ScalarOf
namespace impl_ScalarOf
noncomputable def X : List Entry := [impl_isNumber.E]
noncomputable def I : List Inl := [⟨22, Try.f22, ⟨[], [], [], [], [], []⟩⟩]
theorem I_ok : ∀ i ∈ I, Try.prog.funcs[i.f]? = some i.fn ∧ (i.fn.name == "runtime.NumGoroutine") = false := by
  intro i hi
  simp only [I, List.mem_cons, List.not_mem_nil, or_false] at hi
  subst hi
  exact ⟨by kernel_rfl, by kernel_rfl⟩
theorem e (fuel : Nat) (p0 : Int) : runF Try.prog X I 0 fuel 22 Try.f22 [.d (.int .i64 p0)] =
  (bif (!(numB p0)) then
  some ([.agg [((.ints .i64 []), true), ((.ints .i64 []), true)]], [])
  else
  some ([.agg [((.ints .i64 []), true), ((.ints .i64 [p0]), true)]], [])) := by kernel_rfl
end impl_ScalarOf
theorem impl_ScalarOf.ok_of (hX : ∀ E ∈ impl_ScalarOf.X, CallSpec Try.prog E) (h : ∀ (v : Int), (true) = true → ∃ fuel, runF Try.prog impl_ScalarOf.X impl_ScalarOf.I 0 fuel 22 Try.f22 [.d (.int .i64 v)] = some ([.agg [((.ints .i64 nilI), true), ((.ints .i64 (scalL v)), true)]], [])) : CallSpec Try.prog impl_ScalarOf.E :=
  callSpec_of (d := 0) hX (by kernel_rfl) impl_ScalarOf.I_ok (by kernel_rfl) (by kernel_rfl) (by kernel_rfl) (fun _ _ _ _ h => by dsimp only [impl_ScalarOf.E] at h; cases h) (fun xs hp => by
    dsimp only [impl_ScalarOf.E] at hp ⊢
    split at hp
    · exact h _ hp
    · cases hp)
theorem impl_ScalarOf.ok : CallSpec Try.prog impl_ScalarOf.E := impl_ScalarOf.ok_of (by simp [impl_ScalarOf.X, impl_isNumber.ok]) fun v _ => ⟨0, by
  rw [impl_ScalarOf.e]
  unfold scalL
  cases numB v <;> rfl⟩

namespace laws_FnMapArrayNot
noncomputable def E : Entry := ⟨8, true, false, fun | [.d (.ints .u8 bs)] => bytesB bs | _ => false, fun | [.d (.ints .u8 bs)] => ([.one ((.bool true), false)], []) | _ => ([], []), fun _ => [], false, fun _ => none⟩
end laws_FnMapArrayNot
namespace laws_FnMapArrayNot
noncomputable def X : List Entry := [spec_DrawMapArray.E, impl_MapArray.E, spec_MapArray.E, laws_equalArray.E, impl_ValidArray.E, impl_ScalarOf.E, impl_Combine.E]
noncomputable def I : List Inl := [⟨8, Try.f8, ⟨[17, 22, 26, 37, 41, 42, 46, 49, 51, 52, 53], [(1000011, [0, 1, 2, 3, 4, 5, 12, 13, 14, 15, 16, 17, 18, 19, 20, 21, 22, 23, 24, 25, 26, 27, 28, 29, 30, 31, 32, 33, 34, 35, 36, 37, 38, 39, 40, 41, 42, 43, 44, 45, 46, 47, 48, 49, 50, 51, 52, 53, 54, 55, 56, 57, 58, 59, 60, 61, 62, 63, 64, 65, 66, 67, 68, 69, 70, 71, 72, 73, 74, 75, 76, 77])], [], [(5, [1, 0, 2, 3, 4, 5, 6, 7, 8, 9, 10]), (6, [1, 0, 2, 3, 4, 5]), (9, [0, 2, 1, 3, 4, 5, 6, 7, 8, 9, 10, 11])], [], []⟩⟩]
theorem I_ok : ∀ i ∈ I, Try.prog.funcs[i.f]? = some i.fn ∧ (i.fn.name == "runtime.NumGoroutine") = false := by
  intro i hi
  simp only [I, List.mem_cons, List.not_mem_nil, or_false] at hi
  subst hi
  exact ⟨by kernel_rfl, by kernel_rfl⟩
noncomputable abbrev L0 (fuel n : Nat) (s : St) (k : Kont) := lAt Try.prog X I fuel true 0 false 8 (bodyOf Try.f8) [1, 1, 1, 1, 1, 1, 1, 1, 0, 1, 0] n s k
noncomputable abbrev k0  (fuel : Nat) : Kont := (kAt Try.prog X I fuel true 0 false 8 (bodyOf Try.f8) [1, 1, 1, 1, 1, 1, 1, 1, 0, 1, 0] [] (endK Try.prog Try.f8))
noncomputable def t0 (p0 : List Int) (x0q2 : Int) : St := ⟨[.dead, .dead, .dead, .dead, .dead, .dead, (.ptr 1000000000 0 0), (.imm (.bool (comB 6 ((aArS (cutC p0) 1)) ((aArD (cutC p0) 1)) nilI ((scalL 0))))), (.ptr 1000000001 0 0), (.ptr 1000000002 0 0), (.imm (.bool (comB 6 ((mapS 4 ((mapS 4 ((aArS (cutC p0) 1)) ((aArD (cutC p0) 1)))) ((mapD 4 ((aArS (cutC p0) 1)) ((aArD (cutC p0) 1)))))) ((mapD 4 ((mapS 4 ((aArS (cutC p0) 1)) ((aArD (cutC p0) 1)))) ((mapD 4 ((aArS (cutC p0) 1)) ((aArD (cutC p0) 1)))))) ((mapS 2 ((mapS 3 ((aArS (cutC p0) 1)) ((aArD (cutC p0) 1)))) ((mapD 3 ((aArS (cutC p0) 1)) ((aArD (cutC p0) 1)))))) ((mapD 2 ((mapS 3 ((aArS (cutC p0) 1)) ((aArD (cutC p0) 1)))) ((mapD 3 ((aArS (cutC p0) 1)) ((aArD (cutC p0) 1))))))))), (.imm (.int .i64 x0q2)), .dead, .dead, .dead, .dead, .dead, .dead, .dead, .dead, .dead, .dead, .dead, .dead, .dead, .dead, .dead, .dead, .dead, .dead, .dead, .dead, .dead, .dead, .dead, .dead, .dead, .dead, .dead, .dead, .dead, .dead, .dead, .dead, .dead, .dead, .dead, .dead, .dead, .dead, .dead, .dead, .dead, .dead, .dead, .dead, .dead, .dead, .dead, .dead, .dead, .dead, .dead, .dead, .dead, .dead, .dead, .dead, .dead, .dead, .dead, .dead, .dead, .dead, .dead, .dead, .dead, .dead], hOf [(1000000000, (.box [(.all 1000000003 1), (.all 1000000004 1)])), (1000000001, (.box [(.all 1000000005 1), (.all 1000000006 1)])), (1000000002, (.box [(.all 1000000007 1), (.all 1000000008 1)])), (1000000003, (.ints .i64 (comS 6 ((aArS (cutC p0) 1)) ((aArD (cutC p0) 1)) nilI ((scalL 0))))), (1000000004, (.ints .i64 (comD 6 ((aArS (cutC p0) 1)) ((aArD (cutC p0) 1)) nilI ((scalL 0))))), (1000000005, (.ints .i64 (mapS 4 ((aArS (cutC p0) 1)) ((aArD (cutC p0) 1))))), (1000000006, (.ints .i64 (mapD 4 ((aArS (cutC p0) 1)) ((aArD (cutC p0) 1))))), (1000000007, (.ints .i64 (comS 6 ((mapS 4 ((mapS 4 ((aArS (cutC p0) 1)) ((aArD (cutC p0) 1)))) ((mapD 4 ((aArS (cutC p0) 1)) ((aArD (cutC p0) 1)))))) ((mapD 4 ((mapS 4 ((aArS (cutC p0) 1)) ((aArD (cutC p0) 1)))) ((mapD 4 ((aArS (cutC p0) 1)) ((aArD (cutC p0) 1)))))) ((mapS 2 ((mapS 3 ((aArS (cutC p0) 1)) ((aArD (cutC p0) 1)))) ((mapD 3 ((aArS (cutC p0) 1)) ((aArD (cutC p0) 1)))))) ((mapD 2 ((mapS 3 ((aArS (cutC p0) 1)) ((aArD (cutC p0) 1)))) ((mapD 3 ((aArS (cutC p0) 1)) ((aArD (cutC p0) 1))))))))), (1000000008, (.ints .i64 (comD 6 ((mapS 4 ((mapS 4 ((aArS (cutC p0) 1)) ((aArD (cutC p0) 1)))) ((mapD 4 ((aArS (cutC p0) 1)) ((aArD (cutC p0) 1)))))) ((mapD 4 ((mapS 4 ((aArS (cutC p0) 1)) ((aArD (cutC p0) 1)))) ((mapD 4 ((aArS (cutC p0) 1)) ((aArD (cutC p0) 1)))))) ((mapS 2 ((mapS 3 ((aArS (cutC p0) 1)) ((aArD (cutC p0) 1)))) ((mapD 3 ((aArS (cutC p0) 1)) ((aArD (cutC p0) 1)))))) ((mapD 2 ((mapS 3 ((aArS (cutC p0) 1)) ((aArD (cutC p0) 1)))) ((mapD 3 ((aArS (cutC p0) 1)) ((aArD (cutC p0) 1)))))))))], [], []⟩
theorem e (fuel : Nat) (p0 : List Int) : runF Try.prog X I 0 fuel 8 Try.f8 [.d (.ints .u8 p0)] =
  (bif (decide ((((p0.length : Nat) : Int) : Int) > 1048576)) then
  some ([.one ((.bool true), false)], [])
  else
  (bif bytesB p0 then
  (bif decide (((aArS (cutC p0) 1)).length < 9223372036854775808) && decide (((aArD (cutC p0) 1)).length < 9223372036854775808) then
  (bif decide (((aArS (cutC p0) 1)).length < 9223372036854775808) && decide (((aArD (cutC p0) 1)).length < 9223372036854775808) then
  (bif decide (((mapS ((oneV (cutC p0) 0 mapL)) ((aArS (cutC p0) 1)) ((aArD (cutC p0) 1)))).length < 9223372036854775808) && decide (((mapD ((oneV (cutC p0) 0 mapL)) ((aArS (cutC p0) 1)) ((aArD (cutC p0) 1)))).length < 9223372036854775808) && decide (((mapS ((oneV (cutC p0) 0 mapL)) ((aArS (cutC p0) 1)) ((aArD (cutC p0) 1)))).length < 9223372036854775808) && decide (((mapD ((oneV (cutC p0) 0 mapL)) ((aArS (cutC p0) 1)) ((aArD (cutC p0) 1)))).length < 9223372036854775808) then
  (bif (!(decide (((mapS ((oneV (cutC p0) 0 mapL)) ((aArS (cutC p0) 1)) ((aArD (cutC p0) 1)))) = ((mapS ((oneV (cutC p0) 0 mapL)) ((aArS (cutC p0) 1)) ((aArD (cutC p0) 1))))) && decide (((mapD ((oneV (cutC p0) 0 mapL)) ((aArS (cutC p0) 1)) ((aArD (cutC p0) 1)))) = ((mapD ((oneV (cutC p0) 0 mapL)) ((aArS (cutC p0) 1)) ((aArD (cutC p0) 1))))))) then
  (bif decide (((aArS (cutC p0) 1)).length < 9223372036854775808) && decide (((aArD (cutC p0) 1)).length < 9223372036854775808) then
  (bif decide (((mapS ((oneV (cutC p0) 0 mapL)) ((aArS (cutC p0) 1)) ((aArD (cutC p0) 1)))).length < 9223372036854775808) && decide (((mapD ((oneV (cutC p0) 0 mapL)) ((aArS (cutC p0) 1)) ((aArD (cutC p0) 1)))).length < 9223372036854775808) && decide (((mapS ((oneV (cutC p0) 0 mapL)) ((aArS (cutC p0) 1)) ((aArD (cutC p0) 1)))).length < 9223372036854775808) && decide (((mapD ((oneV (cutC p0) 0 mapL)) ((aArS (cutC p0) 1)) ((aArD (cutC p0) 1)))).length < 9223372036854775808) then
  some ([.one ((.bool (decide (((mapS ((oneV (cutC p0) 0 mapL)) ((aArS (cutC p0) 1)) ((aArD (cutC p0) 1)))) = ((mapS ((oneV (cutC p0) 0 mapL)) ((aArS (cutC p0) 1)) ((aArD (cutC p0) 1))))) && decide (((mapD ((oneV (cutC p0) 0 mapL)) ((aArS (cutC p0) 1)) ((aArD (cutC p0) 1)))) = ((mapD ((oneV (cutC p0) 0 mapL)) ((aArS (cutC p0) 1)) ((aArD (cutC p0) 1))))))), false)], [])
  else
  none)
  else
  none)
  else
  (bif decide (((aArS (cutC p0) 1)).length < 9223372036854775808) && decide (((aArD (cutC p0) 1)).length < 9223372036854775808) then
  (bif (!(validA ((aArS (cutC p0) 1)) ((aArD (cutC p0) 1)))) then
  (bif decide (((aArS (cutC p0) 1)).length < 9223372036854775808) && decide (((aArD (cutC p0) 1)).length < 9223372036854775808) then
  (bif decide (((mapS ((oneV (cutC p0) 0 mapL)) ((aArS (cutC p0) 1)) ((aArD (cutC p0) 1)))).length < 9223372036854775808) && decide (((mapD ((oneV (cutC p0) 0 mapL)) ((aArS (cutC p0) 1)) ((aArD (cutC p0) 1)))).length < 9223372036854775808) && decide (((mapS ((oneV (cutC p0) 0 mapL)) ((aArS (cutC p0) 1)) ((aArD (cutC p0) 1)))).length < 9223372036854775808) && decide (((mapD ((oneV (cutC p0) 0 mapL)) ((aArS (cutC p0) 1)) ((aArD (cutC p0) 1)))).length < 9223372036854775808) then
  some ([.one ((.bool (decide (((mapS ((oneV (cutC p0) 0 mapL)) ((aArS (cutC p0) 1)) ((aArD (cutC p0) 1)))) = ((mapS ((oneV (cutC p0) 0 mapL)) ((aArS (cutC p0) 1)) ((aArD (cutC p0) 1))))) && decide (((mapD ((oneV (cutC p0) 0 mapL)) ((aArS (cutC p0) 1)) ((aArD (cutC p0) 1)))) = ((mapD ((oneV (cutC p0) 0 mapL)) ((aArS (cutC p0) 1)) ((aArD (cutC p0) 1))))))), false)], [])
  else
  none)
  else
  none)
  else
  (bif decide (((aArS (cutC p0) 1)).length < 9223372036854775808) && decide (((aArD (cutC p0) 1)).length < 9223372036854775808) && decide (nilI.length < 9223372036854775808) && decide (((scalL 0)).length < 9223372036854775808) then
  (bif decide (((aArS (cutC p0) 1)).length < 9223372036854775808) && decide (((aArD (cutC p0) 1)).length < 9223372036854775808) then
  (bif decide (((mapS 4 ((aArS (cutC p0) 1)) ((aArD (cutC p0) 1)))).length < 9223372036854775808) && decide (((mapD 4 ((aArS (cutC p0) 1)) ((aArD (cutC p0) 1)))).length < 9223372036854775808) then
  (bif decide (((aArS (cutC p0) 1)).length < 9223372036854775808) && decide (((aArD (cutC p0) 1)).length < 9223372036854775808) then
  (bif decide (((mapS 3 ((aArS (cutC p0) 1)) ((aArD (cutC p0) 1)))).length < 9223372036854775808) && decide (((mapD 3 ((aArS (cutC p0) 1)) ((aArD (cutC p0) 1)))).length < 9223372036854775808) then
  (bif decide (((mapS 4 ((mapS 4 ((aArS (cutC p0) 1)) ((aArD (cutC p0) 1)))) ((mapD 4 ((aArS (cutC p0) 1)) ((aArD (cutC p0) 1)))))).length < 9223372036854775808) && decide (((mapD 4 ((mapS 4 ((aArS (cutC p0) 1)) ((aArD (cutC p0) 1)))) ((mapD 4 ((aArS (cutC p0) 1)) ((aArD (cutC p0) 1)))))).length < 9223372036854775808) && decide (((mapS 2 ((mapS 3 ((aArS (cutC p0) 1)) ((aArD (cutC p0) 1)))) ((mapD 3 ((aArS (cutC p0) 1)) ((aArD (cutC p0) 1)))))).length < 9223372036854775808) && decide (((mapD 2 ((mapS 3 ((aArS (cutC p0) 1)) ((aArD (cutC p0) 1)))) ((mapD 3 ((aArS (cutC p0) 1)) ((aArD (cutC p0) 1)))))).length < 9223372036854775808) then
  L0 fuel fuel (t0 p0 0) (k0  fuel)
  else
  none)
  else
  none)
  else
  none)
  else
  none)
  else
  none)
  else
  none))
  else
  none))
  else
  none)
  else
  none)
  else
  none)
  else
  none)) := by kernel_rfl
theorem s0 (fuel n0 : Nat) (p0 : List Int) (x0q2 : Int) : L0 fuel (n0 + 1) (t0 p0 x0q2) (k0  fuel) =
  (bif (decide ((x0q2 : Int) < (((comD 6 ((mapS 4 ((mapS 4 ((aArS (cutC p0) 1)) ((aArD (cutC p0) 1)))) ((mapD 4 ((aArS (cutC p0) 1)) ((aArD (cutC p0) 1)))))) ((mapD 4 ((mapS 4 ((aArS (cutC p0) 1)) ((aArD (cutC p0) 1)))) ((mapD 4 ((aArS (cutC p0) 1)) ((aArD (cutC p0) 1)))))) ((mapS 2 ((mapS 3 ((aArS (cutC p0) 1)) ((aArD (cutC p0) 1)))) ((mapD 3 ((aArS (cutC p0) 1)) ((aArD (cutC p0) 1)))))) ((mapD 2 ((mapS 3 ((aArS (cutC p0) 1)) ((aArD (cutC p0) 1)))) ((mapD 3 ((aArS (cutC p0) 1)) ((aArD (cutC p0) 1))))))).length : Nat) : Int))) then
  (idx x0q2 (comD 6 ((mapS 4 ((mapS 4 ((aArS (cutC p0) 1)) ((aArD (cutC p0) 1)))) ((mapD 4 ((aArS (cutC p0) 1)) ((aArD (cutC p0) 1)))))) ((mapD 4 ((mapS 4 ((aArS (cutC p0) 1)) ((aArD (cutC p0) 1)))) ((mapD 4 ((aArS (cutC p0) 1)) ((aArD (cutC p0) 1)))))) ((mapS 2 ((mapS 3 ((aArS (cutC p0) 1)) ((aArD (cutC p0) 1)))) ((mapD 3 ((aArS (cutC p0) 1)) ((aArD (cutC p0) 1)))))) ((mapD 2 ((mapS 3 ((aArS (cutC p0) 1)) ((aArD (cutC p0) 1)))) ((mapD 3 ((aArS (cutC p0) 1)) ((aArD (cutC p0) 1))))))).length).bind fun j5 =>
  ((comD 6 ((mapS 4 ((mapS 4 ((aArS (cutC p0) 1)) ((aArD (cutC p0) 1)))) ((mapD 4 ((aArS (cutC p0) 1)) ((aArD (cutC p0) 1)))))) ((mapD 4 ((mapS 4 ((aArS (cutC p0) 1)) ((aArD (cutC p0) 1)))) ((mapD 4 ((aArS (cutC p0) 1)) ((aArD (cutC p0) 1)))))) ((mapS 2 ((mapS 3 ((aArS (cutC p0) 1)) ((aArD (cutC p0) 1)))) ((mapD 3 ((aArS (cutC p0) 1)) ((aArD (cutC p0) 1)))))) ((mapD 2 ((mapS 3 ((aArS (cutC p0) 1)) ((aArD (cutC p0) 1)))) ((mapD 3 ((aArS (cutC p0) 1)) ((aArD (cutC p0) 1)))))))[j5]?).bind fun v6 =>
  (bif ((v6 : Int) != 1) then
  some ([.one ((.bool false), false)], [])
  else
  L0 fuel n0 (t0 p0 ((IntKind.wrap .i64 (x0q2 + 1)))) (k0  fuel))
  else
  (bif (comB 6 ((aArS (cutC p0) 1)) ((aArD (cutC p0) 1)) nilI ((scalL 0))) then
  (bif decide (((comS 6 ((aArS (cutC p0) 1)) ((aArD (cutC p0) 1)) nilI ((scalL 0)))).length < 9223372036854775808) && decide (((comD 6 ((aArS (cutC p0) 1)) ((aArD (cutC p0) 1)) nilI ((scalL 0)))).length < 9223372036854775808) && decide (((mapS 4 ((aArS (cutC p0) 1)) ((aArD (cutC p0) 1)))).length < 9223372036854775808) && decide (((mapD 4 ((aArS (cutC p0) 1)) ((aArD (cutC p0) 1)))).length < 9223372036854775808) then
  (bif (decide (((comS 6 ((aArS (cutC p0) 1)) ((aArD (cutC p0) 1)) nilI ((scalL 0)))) = ((mapS 4 ((aArS (cutC p0) 1)) ((aArD (cutC p0) 1))))) && decide (((comD 6 ((aArS (cutC p0) 1)) ((aArD (cutC p0) 1)) nilI ((scalL 0)))) = ((mapD 4 ((aArS (cutC p0) 1)) ((aArD (cutC p0) 1)))))) then
  some ([.one ((.bool (comB 6 ((mapS 4 ((mapS 4 ((aArS (cutC p0) 1)) ((aArD (cutC p0) 1)))) ((mapD 4 ((aArS (cutC p0) 1)) ((aArD (cutC p0) 1)))))) ((mapD 4 ((mapS 4 ((aArS (cutC p0) 1)) ((aArD (cutC p0) 1)))) ((mapD 4 ((aArS (cutC p0) 1)) ((aArD (cutC p0) 1)))))) ((mapS 2 ((mapS 3 ((aArS (cutC p0) 1)) ((aArD (cutC p0) 1)))) ((mapD 3 ((aArS (cutC p0) 1)) ((aArD (cutC p0) 1)))))) ((mapD 2 ((mapS 3 ((aArS (cutC p0) 1)) ((aArD (cutC p0) 1)))) ((mapD 3 ((aArS (cutC p0) 1)) ((aArD (cutC p0) 1)))))))), false)], [])
  else
  some ([.one ((.bool false), false)], []))
  else
  none)
  else
  some ([.one ((.bool false), false)], []))) := by kernel_rfl
end laws_FnMapArrayNot
theorem laws_FnMapArrayNot.ok_of (hX : ∀ E ∈ laws_FnMapArrayNot.X, CallSpec Try.prog E) (h : ∀ (bs : List Int), (bytesB bs) = true → ∃ fuel, runF Try.prog laws_FnMapArrayNot.X laws_FnMapArrayNot.I 0 fuel 8 Try.f8 [.d (.ints .u8 bs)] = some ([.one ((.bool true), false)], [])) : CallSpec Try.prog laws_FnMapArrayNot.E :=
  callSpec_of (d := 0) hX (by kernel_rfl) laws_FnMapArrayNot.I_ok (by kernel_rfl) (by kernel_rfl) (by kernel_rfl) (fun _ _ _ _ h => by dsimp only [laws_FnMapArrayNot.E] at h; cases h) (fun xs hp => by
    dsimp only [laws_FnMapArrayNot.E] at hp ⊢
    split at hp
    · exact h _ hp
    · cases hp)
theorem laws_FnMapArrayNot.ok : CallSpec Try.prog laws_FnMapArrayNot.E := laws_FnMapArrayNot.ok_of (by simp [laws_FnMapArrayNot.X, spec_DrawMapArray.ok, impl_MapArray.ok, spec_MapArray.ok, laws_equalArray.ok, impl_ValidArray.ok, impl_ScalarOf.ok, impl_Combine.ok]) fun bs h => by
  obtain ⟨F, hF⟩ : ∃ F : Nat, 4000 < F := ⟨4001, by omega⟩
  refine ⟨F, ?_⟩
  rw [laws_FnMapArrayNot.e]
  by_cases hl : ((bs.length : Nat) : Int) > 1048576
  · rw [decide_eq_true hl]; rfl
  rw [decide_eq_false hl, cond_false, h, cond_true]
  have r0 := cut_ok h (p := 0) (by omega) (by omega)
  obtain ⟨a1, a2, _, _⟩ := aAr_bd (rd_le (q := 1) r0 (by omega) (by omega)) (by omega)
  obtain ⟨fn, hfn⟩ : ∃ x, oneV (cutC bs) 0 mapL = x := ⟨_, rfl⟩
  obtain ⟨sh, hsh⟩ : ∃ x, aArS (cutC bs) 1 = x := ⟨_, rfl⟩
  obtain ⟨da, hda⟩ : ∃ x, aArD (cutC bs) 1 = x := ⟨_, rfl⟩
  rw [hsh] at a1
  rw [hda] at a2
  have g1 := lt_of (xs := sh) (by omega)
  have g2 := lt_of (xs := da) (by omega)
  have ml := map_len fn sh da
  have g3 := lt_of (xs := mapS fn sh da) (by omega)
  have g4 := lt_of (xs := mapD fn sh da) (by omega)
  simp only [hfn, hsh, hda]
  cases hv : validA sh da with
  | false =>
    simp only [Bool.and_self, Bool.and_true, Bool.true_and, cond_true, cond_false, Bool.not_true, Bool.not_false, bne_self_eq_false, beq_self_eq_true, decide_true, eq_self, g1, g2, g3, g4, hv]
  | true =>
    have h60 := (validA_len hv).2
    have mv := fun fn => map_valid fn hv
    have gx : ∀ fn, decide ((mapX fn da).length < 9223372036854775808) = true := fun fn => lt_of (by rw [mapX_length]; omega)
    obtain ⟨s4, d4⟩ := mapS_eq (fn := 4) rfl hv
    obtain ⟨s3, d3⟩ := mapS_eq (fn := 3) rfl hv
    obtain ⟨t4, u4⟩ := mapS_eq (fn := 4) rfl (mv 4)
    obtain ⟨t2, u2⟩ := mapS_eq (fn := 2) rfl (mv 3)
    obtain ⟨c1, c2, c3⟩ := com_right (op := 6) (n := 0) rfl hv rfl
    have sc : scalL 0 = [0] := rfl
    have e4 : (tab da.length fun i => operF 6 (da.getD i 0) 0) = mapX 4 da := rfl
    rw [e4] at c3
    obtain ⟨b1, b2, b3⟩ := com_same (op := 6) rfl (map_valid 4 (mv 4)) (map_valid 2 (mv 3))
    have gy : ∀ f g, decide ((mapX f (mapX g da)).length < 9223372036854775808) = true := fun f g => lt_of (by rw [mapX_length, mapX_length]; omega)
    have gn := lt_of (xs := nilI) (by simp)
    have gs := lt_of (xs := [(0 : Int)]) (by simp)
    simp only [Bool.and_self, Bool.and_true, Bool.true_and, cond_true, cond_false, Bool.not_true, Bool.not_false, bne_self_eq_false, beq_self_eq_true, decide_true, eq_self, g1, g2, g3, g4, gx, gy, gn, gs, hv, s4, d4, s3, d3, t4, u4, t2, u2, sc]
    refine run_loop (N := da.length) (fun n j (_ : Unit) => laws_FnMapArrayNot.L0 F n (laws_FnMapArrayNot.t0 bs (j : Int)) (laws_FnMapArrayNot.k0 F)) (fun _ _ => True) ?_ ?_ F 0 () (by omega) (by omega) trivial
    · intro n _ _
      rw [laws_FnMapArrayNot.s0]
      simp only [hsh, hda, s4, d4, s3, d3, t4, u4, t2, u2, sc, b1, b2, b3, c1, c2, c3, tab_length, mapX_length]
      rw [dge (by omega), cond_false]
      simp only [Bool.and_self, Bool.and_true, Bool.true_and, cond_true, cond_false, Bool.not_true, Bool.not_false, bne_self_eq_false, beq_self_eq_true, decide_true, eq_self, g1, g2, gx]
    · intro n j _ hj _
      have hl : j < (tab (mapX 4 (mapX 4 da)).length fun i => operF 6 ((mapX 4 (mapX 4 da)).getD i 0) ((mapX 2 (mapX 3 da)).getD i 0)).length := by rw [tab_length, mapX_length, mapX_length]; exact hj
      have hv1 : (tab (mapX 4 (mapX 4 da)).length fun i => operF 6 ((mapX 4 (mapX 4 da)).getD i 0) ((mapX 2 (mapX 3 da)).getD i 0)).getD j 0 = 1 := by
        rw [tab_getD (by rw [mapX_length, mapX_length]; exact hj), mapX_get (by rw [mapX_length]; exact hj), mapX_get hj, mapX_get (by rw [mapX_length]; exact hj), mapX_get hj, not_not (numB_get hv hj)]
      rw [laws_FnMapArrayNot.s0]
      simp only [hsh, hda, s4, d4, s3, d3, t4, u4, t2, u2, b3]
      rw [dlt hl, cond_true, idx_nat hl, w1 (by omega)]
      simp only [Option.bind_some, getD_get hl, hv1, bne_self_eq_false, cond_false]
      exact ⟨(), trivial, trivial⟩

end Go.Ab
