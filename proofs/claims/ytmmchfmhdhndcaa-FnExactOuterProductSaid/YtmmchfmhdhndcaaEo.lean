import Derived.Test.YtmmchfmhdhndcaaEp2
import Derived.Test.YtmmchfmhdhndcaaProg
import Derived.Test.YtmmchfmhdhndcaaChecked
open Go Go.Ab Go.Proofs
set_option maxRecDepth 100000
set_option linter.unusedVariables false
set_option linter.unusedSimpArgs false
namespace Go.Ab
namespace laws_szIntS
noncomputable def E : Entry := ⟨26, true, false, fun | [.d (.ints .i64 xs), .d (.int .i64 left)] => true | _ => false, fun | [.d (.ints .i64 xs), .d (.int .i64 left)] => ([.one ((.int .i64 (szI xs left)), false)], []) | _ => ([], []), fun _ => [], false, fun _ => none⟩
end laws_szIntS
namespace laws_szIntS
noncomputable def X : List Entry := []
noncomputable def I : List Inl := [⟨26, Try.f26, ⟨[], [], [], [], [], []⟩⟩]
theorem I_ok : ∀ i ∈ I, Try.prog.funcs[i.f]? = some i.fn ∧ (i.fn.name == "runtime.NumGoroutine") = false := by
  intro i hi
  simp only [I, List.mem_cons, List.not_mem_nil, or_false] at hi
  subst hi
  exact ⟨by kernel_rfl, by kernel_rfl⟩
theorem e (fuel : Nat) (p0 : List Int) (p1 : Int) : runF Try.prog X I 0 fuel 26 Try.f26 [.d (.ints .i64 p0), .d (.int .i64 p1)] =
  (bif (decide (((IntKind.wrap .i64 (p1 - ((p0.length : Nat) : Int))) : Int) < 0)) then
  some ([.one ((.int .i64 (-1)), false)], [])
  else
  some ([.one ((.int .i64 (IntKind.wrap .i64 (p1 - ((p0.length : Nat) : Int)))), false)], [])) := by kernel_rfl
end laws_szIntS
theorem laws_szIntS.ok_of (hX : ∀ E ∈ laws_szIntS.X, CallSpec Try.prog E) (h : ∀ (xs : List Int) (left : Int), (true) = true → ∃ fuel, runF Try.prog laws_szIntS.X laws_szIntS.I 0 fuel 26 Try.f26 [.d (.ints .i64 xs), .d (.int .i64 left)] = some ([.one ((.int .i64 (szI xs left)), false)], [])) : CallSpec Try.prog laws_szIntS.E :=
  callSpec_of (d := 0) hX (by kernel_rfl) laws_szIntS.I_ok (by kernel_rfl) (by kernel_rfl) (by kernel_rfl) (fun _ _ _ _ h => by dsimp only [laws_szIntS.E] at h; cases h) (fun xs hp => by
    dsimp only [laws_szIntS.E] at hp ⊢
    split at hp
    · exact h _ _ hp
    · cases hp)
theorem laws_szIntS.ok : CallSpec Try.prog laws_szIntS.E := laws_szIntS.ok_of (by simp [laws_szIntS.X]) fun xs left _ => ⟨0, by
  rw [laws_szIntS.e]
  unfold szI
  cases decide (IntKind.wrap .i64 (left - ((xs.length : Nat) : Int)) < 0) <;> rfl⟩

namespace laws_szArray
noncomputable def E : Entry := ⟨9, true, false, fun | [.d (.agg [(.ints .i64 sh), (.ints .i64 da)]), .d (.int .i64 left)] => true | _ => false, fun | [.d (.agg [(.ints .i64 sh), (.ints .i64 da)]), .d (.int .i64 left)] => ([.one ((.int .i64 (szA sh da left)), false)], []) | _ => ([], []), fun _ => [], false, fun _ => none⟩
end laws_szArray
namespace laws_szArray
noncomputable def X : List Entry := [laws_szIntS.E]
noncomputable def I : List Inl := [⟨9, Try.f9, ⟨[], [], [], [], [], []⟩⟩]
theorem I_ok : ∀ i ∈ I, Try.prog.funcs[i.f]? = some i.fn ∧ (i.fn.name == "runtime.NumGoroutine") = false := by
  intro i hi
  simp only [I, List.mem_cons, List.not_mem_nil, or_false] at hi
  subst hi
  exact ⟨by kernel_rfl, by kernel_rfl⟩
theorem e (fuel : Nat) (p0q0 : List Int) (p0q1 : List Int) (p1 : Int) : runF Try.prog X I 0 fuel 9 Try.f9 [.d (.agg [(.ints .i64 p0q0), (.ints .i64 p0q1)]), .d (.int .i64 p1)] =
  (bif (decide (((szI p0q0 p1) : Int) < 0)) then
  some ([.one ((.int .i64 (-1)), false)], [])
  else
  (bif (decide (((szI p0q1 ((szI p0q0 p1))) : Int) < 0)) then
  some ([.one ((.int .i64 (-1)), false)], [])
  else
  some ([.one ((.int .i64 (szI p0q1 ((szI p0q0 p1)))), false)], []))) := by kernel_rfl
end laws_szArray
theorem laws_szArray.ok_of (hX : ∀ E ∈ laws_szArray.X, CallSpec Try.prog E) (h : ∀ (sh : List Int) (da : List Int) (left : Int), (true) = true → ∃ fuel, runF Try.prog laws_szArray.X laws_szArray.I 0 fuel 9 Try.f9 [.d (.agg [(.ints .i64 sh), (.ints .i64 da)]), .d (.int .i64 left)] = some ([.one ((.int .i64 (szA sh da left)), false)], [])) : CallSpec Try.prog laws_szArray.E :=
  callSpec_of (d := 0) hX (by kernel_rfl) laws_szArray.I_ok (by kernel_rfl) (by kernel_rfl) (by kernel_rfl) (fun _ _ _ _ h => by dsimp only [laws_szArray.E] at h; cases h) (fun xs hp => by
    dsimp only [laws_szArray.E] at hp ⊢
    split at hp
    · exact h _ _ _ hp
    · cases hp)
theorem laws_szArray.ok : CallSpec Try.prog laws_szArray.E := laws_szArray.ok_of (by simp [laws_szArray.X, laws_szIntS.ok]) fun sh da left _ => ⟨0, by
  rw [laws_szArray.e]
  unfold szA
  cases decide (szI sh left < 0) <;> cases decide (szI da (szI sh left) < 0) <;> rfl⟩

namespace laws_toIntS
noncomputable def E : Entry := ⟨35, false, false, fun | [.d (.ints .i64 xs)] => szB xs | _ => false, fun | [.d (.ints .i64 xs)] => ([.one ((.ints .i64 xs), true)], []) | _ => ([], []), fun _ => [], true, fun _ => none⟩
end laws_toIntS
namespace laws_toIntS
noncomputable def X : List Entry := []
noncomputable def I : List Inl := [⟨35, Try.f35, ⟨[], [(1000003, [1, 2, 5, 6, 7, 8, 9, 10, 11, 12, 13, 14, 15, 16, 17, 18, 19, 20, 21])], [], [], [], []⟩⟩]
theorem I_ok : ∀ i ∈ I, Try.prog.funcs[i.f]? = some i.fn ∧ (i.fn.name == "runtime.NumGoroutine") = false := by
  intro i hi
  simp only [I, List.mem_cons, List.not_mem_nil, or_false] at hi
  subst hi
  exact ⟨by kernel_rfl, by kernel_rfl⟩
noncomputable abbrev L0 (fuel n : Nat) (s : St) (k : Kont) := lAt Try.prog X I fuel true 0 false 35 (bodyOf Try.f35) [1, 1, 0, 1, 0] n s k
noncomputable abbrev k0  (fuel : Nat) : Kont := (kAt Try.prog X I fuel true 0 false 35 (bodyOf Try.f35) [1, 1, 0, 1, 0] [] (endK Try.prog Try.f35))
noncomputable def t0 (p0 : List Int) (x0q1 : Int) (x0q2 : List Int) : St := ⟨[(.imm (.ints .i64 p0)), .dead, .dead, (.all 1000000000 1), (.imm (.int .i64 x0q1)), .dead, .dead, .dead, .dead, .dead, .dead, .dead, .dead, .dead, .dead, .dead, .dead, .dead, .dead, .dead, .dead, .dead], hOf [(1000000000, (.ints .i64 x0q2))], [], []⟩
theorem e (fuel : Nat) (p0 : List Int) : runF Try.prog X I 0 fuel 35 Try.f35 [.d (.ints .i64 p0)] =
  (bif decide (0 ≤ (((p0.length : Nat) : Int) : Int)) && decide ((((p0.length : Nat) : Int) : Int) ≤ ((p0.length : Nat) : Int)) && decide ((((p0.length : Nat) : Int) : Int) ≤ 1152921504606846976) && decide (((8 : Nat) : Int) * ((p0.length : Nat) : Int) ≤ 281474976710656) then
  L0 fuel fuel (t0 p0 0 ((List.replicate (((p0.length : Nat) : Int)).toNat (0 : Int)))) (k0  fuel)
  else
  none) := by kernel_rfl
theorem s0 (fuel n0 : Nat) (p0 : List Int) (x0q1 : Int) (x0q2 : List Int) : L0 fuel (n0 + 1) (t0 p0 x0q1 x0q2) (k0  fuel) =
  (bif (decide ((x0q1 : Int) < ((p0.length : Nat) : Int))) then
  (idx x0q1 p0.length).bind fun j7 =>
  (p0[j7]?).bind fun v8 =>
  (idx x0q1 x0q2.length).bind fun j9 =>
  (bif decide (j9 < x0q2.length) then
  L0 fuel n0 (t0 p0 ((IntKind.wrap .i64 (x0q1 + 1))) ((x0q2.set j9 v8))) (k0  fuel)
  else
  none)
  else
  some ([.one ((.ints .i64 x0q2), true)], [])) := by kernel_rfl
end laws_toIntS
theorem laws_toIntS.ok_of (hX : ∀ E ∈ laws_toIntS.X, CallSpec Try.prog E) (h : ∀ (xs : List Int), (szB xs) = true → ∃ fuel, runF Try.prog laws_toIntS.X laws_toIntS.I 0 fuel 35 Try.f35 [.d (.ints .i64 xs)] = some ([.one ((.ints .i64 xs), true)], [])) : CallSpec Try.prog laws_toIntS.E :=
  callSpec_of (d := 0) hX (by kernel_rfl) laws_toIntS.I_ok (by kernel_rfl) (by kernel_rfl) (by kernel_rfl) (fun _ _ _ _ h => by dsimp only [laws_toIntS.E] at h; cases h) (fun xs hp => by
    dsimp only [laws_toIntS.E] at hp ⊢
    split at hp
    · exact h _ hp
    · cases hp)
theorem laws_toIntS.loop (fuel : Nat) (xs : List Int) (hx : xs.length < 9223372036854775808) : ∀ (m n j : Nat) (out : List Int), xs.length - j = m → m < n → j ≤ xs.length → out.length = xs.length → out.take j = xs.take j →
    laws_toIntS.L0 fuel n (laws_toIntS.t0 xs (j : Int) out) (laws_toIntS.k0 fuel) = some ([.one (.ints .i64 xs, true)], []) := by
  intro m
  induction m with
  | zero =>
    intro n j out h1 h2 h3 h4 h5
    obtain ⟨n, rfl⟩ : ∃ n', n = n' + 1 := ⟨n - 1, by omega⟩
    have hj : ¬ j < xs.length := by omega
    have : out = xs := by rw [List.take_of_length_le (by omega), List.take_of_length_le (by omega)] at h5; exact h5
    rw [laws_toIntS.s0, dge hj, this]
    rfl
  | succ m ih =>
    intro n j out h1 h2 h3 h4 h5
    obtain ⟨n, rfl⟩ : ∃ n', n = n' + 1 := ⟨n - 1, by omega⟩
    have hj : j < xs.length := by omega
    have hj2 : j < out.length := by omega
    rw [laws_toIntS.s0, dlt hj, idx_nat hj, idx_nat hj2, w1 (by omega)]
    simp only [cond_true, Option.bind_some, getS hj, hj2, decide_true]
    exact ih n (j + 1) _ (by omega) (by omega) (by omega) (by simpa using h4) (take_set_succ hj hj2 h5)

theorem laws_toIntS.ok : CallSpec Try.prog laws_toIntS.E := laws_toIntS.ok_of (by simp [laws_toIntS.X]) fun xs h => by
  have hx := szB_le h
  refine ⟨xs.length + 1, ?_⟩
  rw [laws_toIntS.e, mkOk (by omega) (by omega)]
  exact laws_toIntS.loop (xs.length + 1) xs (by omega) xs.length (xs.length + 1) 0 _ (by omega) (by omega) (by omega) (by simp) (by simp)

namespace laws_toArray
noncomputable def E : Entry := ⟨11, false, false, fun | [.d (.agg [(.ints .i64 sh), (.ints .i64 da)])] => szB sh && szB da | _ => false, fun | [.d (.agg [(.ints .i64 sh), (.ints .i64 da)])] => ([.agg [((.ints .i64 sh), true), ((.ints .i64 da), true)]], []) | _ => ([], []), fun _ => [], true, fun _ => none⟩
end laws_toArray
namespace laws_toArray
noncomputable def X : List Entry := [laws_toIntS.E]
noncomputable def I : List Inl := [⟨11, Try.f11, ⟨[6, 10], [], [], [], [], []⟩⟩]
theorem I_ok : ∀ i ∈ I, Try.prog.funcs[i.f]? = some i.fn ∧ (i.fn.name == "runtime.NumGoroutine") = false := by
  intro i hi
  simp only [I, List.mem_cons, List.not_mem_nil, or_false] at hi
  subst hi
  exact ⟨by kernel_rfl, by kernel_rfl⟩
theorem e (fuel : Nat) (p0q0 : List Int) (p0q1 : List Int) : runF Try.prog X I 0 fuel 11 Try.f11 [.d (.agg [(.ints .i64 p0q0), (.ints .i64 p0q1)])] =
  (bif szB p0q0 then
  (bif szB p0q1 then
  some ([.agg [((.ints .i64 p0q0), true), ((.ints .i64 p0q1), true)]], [])
  else
  none)
  else
  none) := by kernel_rfl
end laws_toArray
theorem laws_toArray.ok_of (hX : ∀ E ∈ laws_toArray.X, CallSpec Try.prog E) (h : ∀ (sh : List Int) (da : List Int), (szB sh && szB da) = true → ∃ fuel, runF Try.prog laws_toArray.X laws_toArray.I 0 fuel 11 Try.f11 [.d (.agg [(.ints .i64 sh), (.ints .i64 da)])] = some ([.agg [((.ints .i64 sh), true), ((.ints .i64 da), true)]], [])) : CallSpec Try.prog laws_toArray.E :=
  callSpec_of (d := 0) hX (by kernel_rfl) laws_toArray.I_ok (by kernel_rfl) (by kernel_rfl) (by kernel_rfl) (fun _ _ _ _ h => by dsimp only [laws_toArray.E] at h; cases h) (fun xs hp => by
    dsimp only [laws_toArray.E] at hp ⊢
    split at hp
    · exact h _ _ hp
    · cases hp)
theorem laws_toArray.ok : CallSpec Try.prog laws_toArray.E := laws_toArray.ok_of (by simp [laws_toArray.X, laws_toIntS.ok]) fun sh da h => ⟨0, by
  simp only [Bool.and_eq_true] at h
  rw [laws_toArray.e, h.1, h.2]
  rfl⟩

namespace spec_inRange
noncomputable def E : Entry := ⟨58, true, false, fun | [.d (.int .i64 v), .d (.int .i64 lo), .d (.int .i64 hi)] => true | _ => false, fun | [.d (.int .i64 v), .d (.int .i64 lo), .d (.int .i64 hi)] => ([.one ((.bool (decide (lo ≤ v) && decide (v ≤ hi))), false)], []) | _ => ([], []), fun _ => [], false, fun _ => none⟩
end spec_inRange
namespace spec_inRange
noncomputable def X : List Entry := []
noncomputable def I : List Inl := [⟨58, Try.f58, ⟨[], [], [], [], [], []⟩⟩]
theorem I_ok : ∀ i ∈ I, Try.prog.funcs[i.f]? = some i.fn ∧ (i.fn.name == "runtime.NumGoroutine") = false := by
  intro i hi
  simp only [I, List.mem_cons, List.not_mem_nil, or_false] at hi
  subst hi
  exact ⟨by kernel_rfl, by kernel_rfl⟩
theorem e (fuel : Nat) (p0 : Int) (p1 : Int) (p2 : Int) : runF Try.prog X I 0 fuel 58 Try.f58 [.d (.int .i64 p0), .d (.int .i64 p1), .d (.int .i64 p2)] =
  (bif (decide ((p1 : Int) ≤ p0)) then
  some ([.one ((.bool (decide ((p0 : Int) ≤ p2))), false)], [])
  else
  some ([.one ((.bool false), false)], [])) := by kernel_rfl
end spec_inRange
theorem spec_inRange.ok_of (hX : ∀ E ∈ spec_inRange.X, CallSpec Try.prog E) (h : ∀ (v : Int) (lo : Int) (hi : Int), (true) = true → ∃ fuel, runF Try.prog spec_inRange.X spec_inRange.I 0 fuel 58 Try.f58 [.d (.int .i64 v), .d (.int .i64 lo), .d (.int .i64 hi)] = some ([.one ((.bool (decide (lo ≤ v) && decide (v ≤ hi))), false)], [])) : CallSpec Try.prog spec_inRange.E :=
  callSpec_of (d := 0) hX (by kernel_rfl) spec_inRange.I_ok (by kernel_rfl) (by kernel_rfl) (by kernel_rfl) (fun _ _ _ _ h => by dsimp only [spec_inRange.E] at h; cases h) (fun xs hp => by
    dsimp only [spec_inRange.E] at hp ⊢
    split at hp
    · exact h _ _ _ hp
    · cases hp)
theorem spec_inRange.ok : CallSpec Try.prog spec_inRange.E := spec_inRange.ok_of (by simp [spec_inRange.X]) fun v lo hi _ => ⟨0, by
  rw [spec_inRange.e]
  cases decide (lo ≤ v) <;> rfl⟩

namespace spec_validOp
noncomputable def E : Entry := ⟨27, true, false, fun | [.d (.int .i64 op)] => true | _ => false, fun | [.d (.int .i64 op)] => ([.one ((.bool (opOk op)), false)], []) | _ => ([], []), fun _ => [], false, fun _ => none⟩
end spec_validOp
namespace spec_validOp
noncomputable def X : List Entry := [spec_inRange.E]
noncomputable def I : List Inl := [⟨27, Try.f27, ⟨[], [], [], [], [], []⟩⟩]
theorem I_ok : ∀ i ∈ I, Try.prog.funcs[i.f]? = some i.fn ∧ (i.fn.name == "runtime.NumGoroutine") = false := by
  intro i hi
  simp only [I, List.mem_cons, List.not_mem_nil, or_false] at hi
  subst hi
  exact ⟨by kernel_rfl, by kernel_rfl⟩
theorem e (fuel : Nat) (p0 : Int) : runF Try.prog X I 0 fuel 27 Try.f27 [.d (.int .i64 p0)] =
  some ([.one ((.bool (decide (1 ≤ p0) && decide (p0 ≤ 8))), false)], []) := by kernel_rfl
end spec_validOp
theorem spec_validOp.ok_of (hX : ∀ E ∈ spec_validOp.X, CallSpec Try.prog E) (h : ∀ (op : Int), (true) = true → ∃ fuel, runF Try.prog spec_validOp.X spec_validOp.I 0 fuel 27 Try.f27 [.d (.int .i64 op)] = some ([.one ((.bool (opOk op)), false)], [])) : CallSpec Try.prog spec_validOp.E :=
  callSpec_of (d := 0) hX (by kernel_rfl) spec_validOp.I_ok (by kernel_rfl) (by kernel_rfl) (by kernel_rfl) (fun _ _ _ _ h => by dsimp only [spec_validOp.E] at h; cases h) (fun xs hp => by
    dsimp only [spec_validOp.E] at hp ⊢
    split at hp
    · exact h _ hp
    · cases hp)
theorem spec_validOp.ok : CallSpec Try.prog spec_validOp.E := spec_validOp.ok_of (by simp [spec_validOp.X, spec_inRange.ok]) fun op _ => ⟨0, by rw [spec_validOp.e]; rfl⟩

namespace spec_allIn
noncomputable def E : Entry := ⟨59, true, false, fun | [.d (.ints .i64 xs), .d (.int .i64 lo), .d (.int .i64 hi)] => decide (xs.length < 9223372036854775808) | _ => false, fun | [.d (.ints .i64 xs), .d (.int .i64 lo), .d (.int .i64 hi)] => ([.one ((.bool (allB xs lo hi)), false)], []) | _ => ([], []), fun _ => [], false, fun _ => none⟩
end spec_allIn
namespace spec_allIn
noncomputable def X : List Entry := [spec_inRange.E]
noncomputable def I : List Inl := [⟨59, Try.f59, ⟨[], [(1000002, [3, 4, 5, 6, 8, 9, 10, 11, 12, 13, 14, 15, 16, 17, 18, 19, 20, 21])], [], [], [], []⟩⟩]
theorem I_ok : ∀ i ∈ I, Try.prog.funcs[i.f]? = some i.fn ∧ (i.fn.name == "runtime.NumGoroutine") = false := by
  intro i hi
  simp only [I, List.mem_cons, List.not_mem_nil, or_false] at hi
  subst hi
  exact ⟨by kernel_rfl, by kernel_rfl⟩
noncomputable abbrev L0 (fuel n : Nat) (s : St) (k : Kont) := lAt Try.prog X I fuel true 0 false 59 (bodyOf Try.f59) [1, 0, 1, 0] n s k
noncomputable abbrev k0  (fuel : Nat) : Kont := (kAt Try.prog X I fuel true 0 false 59 (bodyOf Try.f59) [1, 0, 1, 0] [] (endK Try.prog Try.f59))
noncomputable def t0 (p0 : List Int) (p1 : Int) (p2 : Int) (x0q3 : Int) : St := ⟨[(.imm (.ints .i64 p0)), (.imm (.int .i64 p1)), (.imm (.int .i64 p2)), .dead, .dead, .dead, .dead, (.imm (.int .i64 x0q3)), .dead, .dead, .dead, .dead, .dead, .dead, .dead, .dead, .dead, .dead, .dead, .dead, .dead, .dead], hOf [], [], []⟩
theorem e (fuel : Nat) (p0 : List Int) (p1 : Int) (p2 : Int) : runF Try.prog X I 0 fuel 59 Try.f59 [.d (.ints .i64 p0), .d (.int .i64 p1), .d (.int .i64 p2)] =
  L0 fuel fuel (t0 p0 p1 p2 0) (k0  fuel) := by kernel_rfl
theorem s0 (fuel n0 : Nat) (p0 : List Int) (p1 : Int) (p2 : Int) (x0q3 : Int) : L0 fuel (n0 + 1) (t0 p0 p1 p2 x0q3) (k0  fuel) =
  (bif (decide ((x0q3 : Int) < ((p0.length : Nat) : Int))) then
  (idx x0q3 p0.length).bind fun j5 =>
  (p0[j5]?).bind fun v6 =>
  (bif (!(decide (p1 ≤ v6) && decide (v6 ≤ p2))) then
  some ([.one ((.bool false), false)], [])
  else
  L0 fuel n0 (t0 p0 p1 p2 ((IntKind.wrap .i64 (x0q3 + 1)))) (k0  fuel))
  else
  some ([.one ((.bool true), false)], [])) := by kernel_rfl
end spec_allIn
theorem spec_allIn.ok_of (hX : ∀ E ∈ spec_allIn.X, CallSpec Try.prog E) (h : ∀ (xs : List Int) (lo : Int) (hi : Int), (decide (xs.length < 9223372036854775808)) = true → ∃ fuel, runF Try.prog spec_allIn.X spec_allIn.I 0 fuel 59 Try.f59 [.d (.ints .i64 xs), .d (.int .i64 lo), .d (.int .i64 hi)] = some ([.one ((.bool (allB xs lo hi)), false)], [])) : CallSpec Try.prog spec_allIn.E :=
  callSpec_of (d := 0) hX (by kernel_rfl) spec_allIn.I_ok (by kernel_rfl) (by kernel_rfl) (by kernel_rfl) (fun _ _ _ _ h => by dsimp only [spec_allIn.E] at h; cases h) (fun xs hp => by
    dsimp only [spec_allIn.E] at hp ⊢
    split at hp
    · exact h _ _ _ hp
    · cases hp)
theorem spec_allIn.loop (fuel : Nat) (xs : List Int) (lo hi : Int) (hx : xs.length < 9223372036854775808) : ∀ (m n j : Nat), xs.length - j = m → m < n → j ≤ xs.length →
    spec_allIn.L0 fuel n (spec_allIn.t0 xs lo hi (j : Int)) (spec_allIn.k0 fuel) = some ([.one (.bool (allB (xs.drop j) lo hi), false)], []) := by
  intro m
  induction m with
  | zero =>
    intro n j h1 h2 h3
    obtain ⟨n, rfl⟩ : ∃ n', n = n' + 1 := ⟨n - 1, by omega⟩
    have hj : ¬ j < xs.length := by omega
    rw [spec_allIn.s0, dge hj, dropE hj]
    rfl
  | succ m ih =>
    intro n j h1 h2 h3
    obtain ⟨n, rfl⟩ : ∃ n', n = n' + 1 := ⟨n - 1, by omega⟩
    have hj : j < xs.length := by omega
    rw [spec_allIn.s0, dlt hj, idx_nat hj, w1 (by omega), dropS hj]
    simp only [cond_true, Option.bind_some, getS hj, allB_cons]
    rw [ih n (j + 1) (by omega) (by omega) (by omega)]
    cases decide (lo ≤ xs[j]) && decide (xs[j] ≤ hi) <;> rfl

theorem spec_allIn.ok : CallSpec Try.prog spec_allIn.E := spec_allIn.ok_of (by simp [spec_allIn.X, spec_inRange.ok]) fun xs lo hi h => by
  simp only [decide_eq_true_eq] at h
  refine ⟨xs.length + 1, ?_⟩
  rw [spec_allIn.e]
  exact spec_allIn.loop (xs.length + 1) xs lo hi h xs.length (xs.length + 1) 0 (by omega) (by omega) (by omega)

namespace spec_volume
noncomputable def E : Entry := ⟨53, true, false, fun | [.d (.ints .i64 xs)] => decide (xs.length < 9223372036854775808) | _ => false, fun | [.d (.ints .i64 xs)] => ([.one ((.int .i64 (volW xs)), false)], []) | _ => ([], []), fun _ => [], false, fun _ => none⟩
end spec_volume
namespace spec_volume
noncomputable def X : List Entry := []
noncomputable def I : List Inl := [⟨53, Try.f53, ⟨[], [(1000003, [1, 2, 5, 6, 7, 8, 9, 10, 11, 12, 13, 14, 15, 16, 17])], [], [], [], []⟩⟩]
theorem I_ok : ∀ i ∈ I, Try.prog.funcs[i.f]? = some i.fn ∧ (i.fn.name == "runtime.NumGoroutine") = false := by
  intro i hi
  simp only [I, List.mem_cons, List.not_mem_nil, or_false] at hi
  subst hi
  exact ⟨by kernel_rfl, by kernel_rfl⟩
noncomputable abbrev L0 (fuel n : Nat) (s : St) (k : Kont) := lAt Try.prog X I fuel true 0 false 53 (bodyOf Try.f53) [1, 1, 0, 1, 0] n s k
noncomputable abbrev k0  (fuel : Nat) : Kont := (kAt Try.prog X I fuel true 0 false 53 (bodyOf Try.f53) [1, 1, 0, 1, 0] [] (endK Try.prog Try.f53))
noncomputable def t0 (p0 : List Int) (x0q1 : Int) (x0q2 : Int) : St := ⟨[(.imm (.ints .i64 p0)), .dead, .dead, (.imm (.int .i64 x0q1)), (.imm (.int .i64 x0q2)), .dead, .dead, .dead, .dead, .dead, .dead, .dead, .dead, .dead, .dead, .dead, .dead, .dead], hOf [], [], []⟩
theorem e (fuel : Nat) (p0 : List Int) : runF Try.prog X I 0 fuel 53 Try.f53 [.d (.ints .i64 p0)] =
  L0 fuel fuel (t0 p0 1 0) (k0  fuel) := by kernel_rfl
theorem s0 (fuel n0 : Nat) (p0 : List Int) (x0q1 : Int) (x0q2 : Int) : L0 fuel (n0 + 1) (t0 p0 x0q1 x0q2) (k0  fuel) =
  (bif (decide ((x0q2 : Int) < ((p0.length : Nat) : Int))) then
  (idx x0q2 p0.length).bind fun j5 =>
  (p0[j5]?).bind fun v6 =>
  L0 fuel n0 (t0 p0 ((IntKind.wrap .i64 (x0q1 * v6))) ((IntKind.wrap .i64 (x0q2 + 1)))) (k0  fuel)
  else
  some ([.one ((.int .i64 x0q1), false)], [])) := by kernel_rfl
end spec_volume
theorem spec_volume.ok_of (hX : ∀ E ∈ spec_volume.X, CallSpec Try.prog E) (h : ∀ (xs : List Int), (decide (xs.length < 9223372036854775808)) = true → ∃ fuel, runF Try.prog spec_volume.X spec_volume.I 0 fuel 53 Try.f53 [.d (.ints .i64 xs)] = some ([.one ((.int .i64 (volW xs)), false)], [])) : CallSpec Try.prog spec_volume.E :=
  callSpec_of (d := 0) hX (by kernel_rfl) spec_volume.I_ok (by kernel_rfl) (by kernel_rfl) (by kernel_rfl) (fun _ _ _ _ h => by dsimp only [spec_volume.E] at h; cases h) (fun xs hp => by
    dsimp only [spec_volume.E] at hp ⊢
    split at hp
    · exact h _ hp
    · cases hp)
theorem spec_volume.loop (fuel : Nat) (xs : List Int) (hx : xs.length < 9223372036854775808) : ∀ (m n j : Nat) (a : Int), xs.length - j = m → m < n → j ≤ xs.length →
    spec_volume.L0 fuel n (spec_volume.t0 xs a (j : Int)) (spec_volume.k0 fuel) = some ([.one (.int .i64 (volFrom (xs.drop j) a), false)], []) := by
  intro m
  induction m with
  | zero =>
    intro n j a h1 h2 h3
    obtain ⟨n, rfl⟩ : ∃ n', n = n' + 1 := ⟨n - 1, by omega⟩
    have hj : ¬ j < xs.length := by omega
    rw [spec_volume.s0, dge hj, dropE hj]
    rfl
  | succ m ih =>
    intro n j a h1 h2 h3
    obtain ⟨n, rfl⟩ : ∃ n', n = n' + 1 := ⟨n - 1, by omega⟩
    have hj : j < xs.length := by omega
    rw [spec_volume.s0, dlt hj, idx_nat hj, w1 (by omega), dropS hj]
    simp only [cond_true, Option.bind_some, getS hj, volFrom]
    exact ih n (j + 1) _ (by omega) (by omega) (by omega)

theorem spec_volume.ok : CallSpec Try.prog spec_volume.E := spec_volume.ok_of (by simp [spec_volume.X]) fun xs h => by
  simp only [decide_eq_true_eq] at h
  refine ⟨xs.length + 1, ?_⟩
  rw [spec_volume.e]
  exact spec_volume.loop (xs.length + 1) xs h xs.length (xs.length + 1) 0 1 (by omega) (by omega) (by omega)

namespace spec_validShape
noncomputable def E : Entry := ⟨29, true, false, fun | [.d (.ints .i64 sh)] => decide (sh.length < 9223372036854775808) | _ => false, fun | [.d (.ints .i64 sh)] => ([.one ((.bool (validS sh)), false)], []) | _ => ([], []), fun _ => [], false, fun _ => none⟩
end spec_validShape
namespace spec_validShape
noncomputable def X : List Entry := [spec_allIn.E, spec_volume.E]
noncomputable def I : List Inl := [⟨29, Try.f29, ⟨[], [], [], [], [], []⟩⟩]
theorem I_ok : ∀ i ∈ I, Try.prog.funcs[i.f]? = some i.fn ∧ (i.fn.name == "runtime.NumGoroutine") = false := by
  intro i hi
  simp only [I, List.mem_cons, List.not_mem_nil, or_false] at hi
  subst hi
  exact ⟨by kernel_rfl, by kernel_rfl⟩
theorem e (fuel : Nat) (p0 : List Int) : runF Try.prog X I 0 fuel 29 Try.f29 [.d (.ints .i64 p0)] =
  (bif (decide ((((p0.length : Nat) : Int) : Int) ≤ 3)) then
  (bif decide (p0.length < 9223372036854775808) then
  (bif (allB p0 0 60) then
  (bif decide (p0.length < 9223372036854775808) then
  some ([.one ((.bool (decide (((volW p0) : Int) ≤ 60))), false)], [])
  else
  none)
  else
  some ([.one ((.bool false), false)], []))
  else
  none)
  else
  some ([.one ((.bool false), false)], [])) := by kernel_rfl
end spec_validShape
theorem spec_validShape.ok_of (hX : ∀ E ∈ spec_validShape.X, CallSpec Try.prog E) (h : ∀ (sh : List Int), (decide (sh.length < 9223372036854775808)) = true → ∃ fuel, runF Try.prog spec_validShape.X spec_validShape.I 0 fuel 29 Try.f29 [.d (.ints .i64 sh)] = some ([.one ((.bool (validS sh)), false)], [])) : CallSpec Try.prog spec_validShape.E :=
  callSpec_of (d := 0) hX (by kernel_rfl) spec_validShape.I_ok (by kernel_rfl) (by kernel_rfl) (by kernel_rfl) (fun _ _ _ _ h => by dsimp only [spec_validShape.E] at h; cases h) (fun xs hp => by
    dsimp only [spec_validShape.E] at hp ⊢
    split at hp
    · exact h _ hp
    · cases hp)
theorem spec_validShape.ok : CallSpec Try.prog spec_validShape.E := spec_validShape.ok_of (by simp [spec_validShape.X, spec_allIn.ok, spec_volume.ok]) fun sh h => ⟨0, by
  rw [spec_validShape.e, h]
  unfold validS
  cases decide (((sh.length : Nat) : Int) ≤ 3) <;> cases allB sh 0 60 <;> rfl⟩

namespace spec_valid
noncomputable def E : Entry := ⟨48, true, false, fun | [.d (.agg [(.ints .i64 sh), (.ints .i64 da)])] => decide (sh.length < 9223372036854775808) && decide (da.length < 9223372036854775808) | _ => false, fun | [.d (.agg [(.ints .i64 sh), (.ints .i64 da)])] => ([.one ((.bool (validA sh da)), false)], []) | _ => ([], []), fun _ => [], false, fun _ => none⟩
end spec_valid
namespace spec_valid
noncomputable def X : List Entry := [spec_validShape.E, spec_volume.E, spec_allIn.E]
noncomputable def I : List Inl := [⟨48, Try.f48, ⟨[], [], [], [(1, [0, 1, 2, 3, 4, 7, 5, 6, 8, 9, 10, 11, 12, 13, 14, 15, 16, 17])], [], []⟩⟩]
theorem I_ok : ∀ i ∈ I, Try.prog.funcs[i.f]? = some i.fn ∧ (i.fn.name == "runtime.NumGoroutine") = false := by
  intro i hi
  simp only [I, List.mem_cons, List.not_mem_nil, or_false] at hi
  subst hi
  exact ⟨by kernel_rfl, by kernel_rfl⟩
theorem e (fuel : Nat) (p0q0 : List Int) (p0q1 : List Int) : runF Try.prog X I 0 fuel 48 Try.f48 [.d (.agg [(.ints .i64 p0q0), (.ints .i64 p0q1)])] =
  (bif decide (p0q0.length < 9223372036854775808) then
  (bif (validS p0q0) then
  (bif decide (p0q0.length < 9223372036854775808) then
  (bif ((((p0q1.length : Nat) : Int) : Int) == (volW p0q0)) then
  (bif decide (p0q1.length < 9223372036854775808) then
  some ([.one ((.bool (allB p0q1 ((-1000000)) 1000000)), false)], [])
  else
  none)
  else
  some ([.one ((.bool false), false)], []))
  else
  none)
  else
  some ([.one ((.bool false), false)], []))
  else
  none) := by kernel_rfl
end spec_valid
theorem spec_valid.ok_of (hX : ∀ E ∈ spec_valid.X, CallSpec Try.prog E) (h : ∀ (sh : List Int) (da : List Int), (decide (sh.length < 9223372036854775808) && decide (da.length < 9223372036854775808)) = true → ∃ fuel, runF Try.prog spec_valid.X spec_valid.I 0 fuel 48 Try.f48 [.d (.agg [(.ints .i64 sh), (.ints .i64 da)])] = some ([.one ((.bool (validA sh da)), false)], [])) : CallSpec Try.prog spec_valid.E :=
  callSpec_of (d := 0) hX (by kernel_rfl) spec_valid.I_ok (by kernel_rfl) (by kernel_rfl) (by kernel_rfl) (fun _ _ _ _ h => by dsimp only [spec_valid.E] at h; cases h) (fun xs hp => by
    dsimp only [spec_valid.E] at hp ⊢
    split at hp
    · exact h _ _ hp
    · cases hp)
theorem spec_valid.ok : CallSpec Try.prog spec_valid.E := spec_valid.ok_of (by simp [spec_valid.X, spec_validShape.ok, spec_volume.ok, spec_allIn.ok]) fun sh da h => ⟨0, by
  simp only [Bool.and_eq_true] at h
  rw [spec_valid.e, h.1, h.2]
  unfold validA
  cases validS sh <;> cases (((da.length : Nat) : Int) == volW sh) <;> rfl⟩

namespace spec_limit
noncomputable def E : Entry := ⟨78, true, false, fun | [.d (.int .i64 n)] => true | _ => false, fun | [.d (.int .i64 n)] => ([.one ((.int .i64 (limV n)), false)], []) | _ => ([], []), fun _ => [], false, fun _ => none⟩
end spec_limit
namespace spec_limit
noncomputable def X : List Entry := []
noncomputable def I : List Inl := [⟨78, Try.f78, ⟨[], [], [], [], [], []⟩⟩]
theorem I_ok : ∀ i ∈ I, Try.prog.funcs[i.f]? = some i.fn ∧ (i.fn.name == "runtime.NumGoroutine") = false := by
  intro i hi
  simp only [I, List.mem_cons, List.not_mem_nil, or_false] at hi
  subst hi
  exact ⟨by kernel_rfl, by kernel_rfl⟩
theorem e (fuel : Nat) (p0 : Int) : runF Try.prog X I 0 fuel 78 Try.f78 [.d (.int .i64 p0)] =
  some ([.one ((.int .i64 (maxI (-1000000) (minI 1000000 p0))), false)], []) := by kernel_rfl
end spec_limit
theorem spec_limit.ok_of (hX : ∀ E ∈ spec_limit.X, CallSpec Try.prog E) (h : ∀ (n : Int), (true) = true → ∃ fuel, runF Try.prog spec_limit.X spec_limit.I 0 fuel 78 Try.f78 [.d (.int .i64 n)] = some ([.one ((.int .i64 (limV n)), false)], [])) : CallSpec Try.prog spec_limit.E :=
  callSpec_of (d := 0) hX (by kernel_rfl) spec_limit.I_ok (by kernel_rfl) (by kernel_rfl) (by kernel_rfl) (fun _ _ _ _ h => by dsimp only [spec_limit.E] at h; cases h) (fun xs hp => by
    dsimp only [spec_limit.E] at hp ⊢
    split at hp
    · exact h _ hp
    · cases hp)
theorem spec_limit.ok : CallSpec Try.prog spec_limit.E := spec_limit.ok_of (by simp [spec_limit.X]) fun n _ => ⟨0, by rw [spec_limit.e, lim_spec]⟩

namespace spec_toInt
noncomputable def E : Entry := ⟨79, true, false, fun | [.d (.bool b)] => true | _ => false, fun | [.d (.bool b)] => ([.one ((.int .i64 (tInt b)), false)], []) | _ => ([], []), fun _ => [], false, fun _ => none⟩
end spec_toInt
namespace spec_toInt
noncomputable def X : List Entry := []
noncomputable def I : List Inl := [⟨79, Try.f79, ⟨[], [], [], [], [], []⟩⟩]
theorem I_ok : ∀ i ∈ I, Try.prog.funcs[i.f]? = some i.fn ∧ (i.fn.name == "runtime.NumGoroutine") = false := by
  intro i hi
  simp only [I, List.mem_cons, List.not_mem_nil, or_false] at hi
  subst hi
  exact ⟨by kernel_rfl, by kernel_rfl⟩
theorem e (fuel : Nat) (p0 : Bool) : runF Try.prog X I 0 fuel 79 Try.f79 [.d (.bool p0)] =
  (bif p0 then
  some ([.one ((.int .i64 1), false)], [])
  else
  some ([.one ((.int .i64 0), false)], [])) := by kernel_rfl
end spec_toInt
theorem spec_toInt.ok_of (hX : ∀ E ∈ spec_toInt.X, CallSpec Try.prog E) (h : ∀ (b : Bool), (true) = true → ∃ fuel, runF Try.prog spec_toInt.X spec_toInt.I 0 fuel 79 Try.f79 [.d (.bool b)] = some ([.one ((.int .i64 (tInt b)), false)], [])) : CallSpec Try.prog spec_toInt.E :=
  callSpec_of (d := 0) hX (by kernel_rfl) spec_toInt.I_ok (by kernel_rfl) (by kernel_rfl) (by kernel_rfl) (fun _ _ _ _ h => by dsimp only [spec_toInt.E] at h; cases h) (fun xs hp => by
    dsimp only [spec_toInt.E] at hp ⊢
    split at hp
    · exact h _ hp
    · cases hp)
theorem spec_toInt.ok : CallSpec Try.prog spec_toInt.E := spec_toInt.ok_of (by simp [spec_toInt.X]) fun b _ => ⟨0, by rw [spec_toInt.e]; cases b <;> rfl⟩

namespace spec_modulo
noncomputable def E : Entry := ⟨80, true, false, fun | [.d (.int .i64 a), .d (.int .i64 b)] => decide (0 < b) | _ => false, fun | [.d (.int .i64 a), .d (.int .i64 b)] => ([.one ((.int .i64 (modV a b)), false)], []) | _ => ([], []), fun _ => [], false, fun _ => none⟩
end spec_modulo
namespace spec_modulo
noncomputable def X : List Entry := []
noncomputable def I : List Inl := [⟨80, Try.f80, ⟨[], [], [], [], [], []⟩⟩]
theorem I_ok : ∀ i ∈ I, Try.prog.funcs[i.f]? = some i.fn ∧ (i.fn.name == "runtime.NumGoroutine") = false := by
  intro i hi
  simp only [I, List.mem_cons, List.not_mem_nil, or_false] at hi
  subst hi
  exact ⟨by kernel_rfl, by kernel_rfl⟩
theorem e (fuel : Nat) (p0 : Int) (p1 : Int) : runF Try.prog X I 0 fuel 80 Try.f80 [.d (.int .i64 p0), .d (.int .i64 p1)] =
  (bif decide ((p1 : Int) = 0) then
  none
  else
  (bif decide ((p1 : Int) = 0) then
  none
  else
  some ([.one ((.int .i64 (Int.tmod (IntKind.wrap .i64 ((Int.tmod p0 p1) + p1)) p1)), false)], []))) := by kernel_rfl
end spec_modulo
theorem spec_modulo.ok_of (hX : ∀ E ∈ spec_modulo.X, CallSpec Try.prog E) (h : ∀ (a : Int) (b : Int), (decide (0 < b)) = true → ∃ fuel, runF Try.prog spec_modulo.X spec_modulo.I 0 fuel 80 Try.f80 [.d (.int .i64 a), .d (.int .i64 b)] = some ([.one ((.int .i64 (modV a b)), false)], [])) : CallSpec Try.prog spec_modulo.E :=
  callSpec_of (d := 0) hX (by kernel_rfl) spec_modulo.I_ok (by kernel_rfl) (by kernel_rfl) (by kernel_rfl) (fun _ _ _ _ h => by dsimp only [spec_modulo.E] at h; cases h) (fun xs hp => by
    dsimp only [spec_modulo.E] at hp ⊢
    split at hp
    · exact h _ _ hp
    · cases hp)
theorem spec_modulo.ok : CallSpec Try.prog spec_modulo.E := spec_modulo.ok_of (by simp [spec_modulo.X]) fun a b h => ⟨0, by
  have := of_decide_eq_true h
  rw [spec_modulo.e, decide_eq_false (p := b = 0) (by omega)]
  rfl⟩

namespace spec_operate
noncomputable def E : Entry := ⟨61, true, false, fun | [.d (.int .i64 op), .d (.int .i64 a), .d (.int .i64 b)] => true | _ => false, fun | [.d (.int .i64 op), .d (.int .i64 a), .d (.int .i64 b)] => ([.one ((.int .i64 (operF op a b)), false)], []) | _ => ([], []), fun _ => [], false, fun _ => none⟩
end spec_operate
namespace spec_operate
noncomputable def X : List Entry := [spec_limit.E, spec_toInt.E, spec_modulo.E]
noncomputable def I : List Inl := [⟨61, Try.f61, ⟨[], [], [], [], [], []⟩⟩]
theorem I_ok : ∀ i ∈ I, Try.prog.funcs[i.f]? = some i.fn ∧ (i.fn.name == "runtime.NumGoroutine") = false := by
  intro i hi
  simp only [I, List.mem_cons, List.not_mem_nil, or_false] at hi
  subst hi
  exact ⟨by kernel_rfl, by kernel_rfl⟩
theorem e (fuel : Nat) (p0 : Int) (p1 : Int) (p2 : Int) : runF Try.prog X I 0 fuel 61 Try.f61 [.d (.int .i64 p0), .d (.int .i64 p1), .d (.int .i64 p2)] =
  (bif ((p0 : Int) == 1) then
  some ([.one ((.int .i64 (limV ((IntKind.wrap .i64 (p1 + p2))))), false)], [])
  else
  (bif ((p0 : Int) == 2) then
  some ([.one ((.int .i64 (limV ((IntKind.wrap .i64 (p1 - p2))))), false)], [])
  else
  (bif ((p0 : Int) == 3) then
  some ([.one ((.int .i64 (limV ((IntKind.wrap .i64 (p1 * p2))))), false)], [])
  else
  (bif ((p0 : Int) == 4) then
  some ([.one ((.int .i64 (minI p1 p2)), false)], [])
  else
  (bif ((p0 : Int) == 5) then
  some ([.one ((.int .i64 (maxI p1 p2)), false)], [])
  else
  (bif ((p0 : Int) == 6) then
  some ([.one ((.int .i64 (tInt (((p1 : Int) == p2)))), false)], [])
  else
  (bif ((p0 : Int) == 7) then
  some ([.one ((.int .i64 (tInt ((decide ((p1 : Int) < p2))))), false)], [])
  else
  (bif (decide ((p1 : Int) ≤ 0)) then
  some ([.one ((.int .i64 p2), false)], [])
  else
  (bif decide (0 < p1) then
  some ([.one ((.int .i64 (modV p2 p1)), false)], [])
  else
  none))))))))) := by kernel_rfl
end spec_operate
theorem spec_operate.ok_of (hX : ∀ E ∈ spec_operate.X, CallSpec Try.prog E) (h : ∀ (op : Int) (a : Int) (b : Int), (true) = true → ∃ fuel, runF Try.prog spec_operate.X spec_operate.I 0 fuel 61 Try.f61 [.d (.int .i64 op), .d (.int .i64 a), .d (.int .i64 b)] = some ([.one ((.int .i64 (operF op a b)), false)], [])) : CallSpec Try.prog spec_operate.E :=
  callSpec_of (d := 0) hX (by kernel_rfl) spec_operate.I_ok (by kernel_rfl) (by kernel_rfl) (by kernel_rfl) (fun _ _ _ _ h => by dsimp only [spec_operate.E] at h; cases h) (fun xs hp => by
    dsimp only [spec_operate.E] at hp ⊢
    split at hp
    · exact h _ _ _ hp
    · cases hp)
theorem spec_operate.ok : CallSpec Try.prog spec_operate.E := spec_operate.ok_of (by simp [spec_operate.X, spec_limit.ok, spec_toInt.ok, spec_modulo.ok]) fun op a b _ => ⟨0, by
  rw [spec_operate.e]
  unfold operF restV
  by_cases h : a ≤ 0
  · rw [decide_eq_true h]
    cases op == 1 <;> cases op == 2 <;> cases op == 3 <;> cases op == 4 <;> cases op == 5 <;> cases op == 6 <;> cases op == 7 <;> rfl
  · rw [decide_eq_false h, decide_eq_true (p := 0 < a) (by omega)]
    cases op == 1 <;> cases op == 2 <;> cases op == 3 <;> cases op == 4 <;> cases op == 5 <;> cases op == 6 <;> cases op == 7 <;> rfl⟩

namespace spec_copyInts
noncomputable def E : Entry := ⟨62, false, false, fun | [.d (.ints .i64 xs)] => szB xs | _ => false, fun | [.d (.ints .i64 xs)] => ([.one ((.ints .i64 xs), true)], []) | _ => ([], []), fun _ => [], true, fun _ => none⟩
end spec_copyInts
namespace spec_copyInts
noncomputable def X : List Entry := []
noncomputable def I : List Inl := [⟨62, Try.f62, ⟨[], [], [], [], [], []⟩⟩]
theorem I_ok : ∀ i ∈ I, Try.prog.funcs[i.f]? = some i.fn ∧ (i.fn.name == "runtime.NumGoroutine") = false := by
  intro i hi
  simp only [I, List.mem_cons, List.not_mem_nil, or_false] at hi
  subst hi
  exact ⟨by kernel_rfl, by kernel_rfl⟩
theorem e (fuel : Nat) (p0 : List Int) : runF Try.prog X I 0 fuel 62 Try.f62 [.d (.ints .i64 p0)] =
  (bif fits (([] : List Int).length + p0.length) 8 then
  some ([.one ((.ints .i64 (([] : List Int) ++ p0)), true)], [])
  else
  none) := by kernel_rfl
end spec_copyInts
theorem spec_copyInts.ok_of (hX : ∀ E ∈ spec_copyInts.X, CallSpec Try.prog E) (h : ∀ (xs : List Int), (szB xs) = true → ∃ fuel, runF Try.prog spec_copyInts.X spec_copyInts.I 0 fuel 62 Try.f62 [.d (.ints .i64 xs)] = some ([.one ((.ints .i64 xs), true)], [])) : CallSpec Try.prog spec_copyInts.E :=
  callSpec_of (d := 0) hX (by kernel_rfl) spec_copyInts.I_ok (by kernel_rfl) (by kernel_rfl) (by kernel_rfl) (fun _ _ _ _ h => by dsimp only [spec_copyInts.E] at h; cases h) (fun xs hp => by
    dsimp only [spec_copyInts.E] at hp ⊢
    split at hp
    · exact h _ hp
    · cases hp)
theorem spec_copyInts.ok : CallSpec Try.prog spec_copyInts.E := spec_copyInts.ok_of (by simp [spec_copyInts.X]) fun xs h => ⟨0, by
  have hx := szB_le h
  rw [spec_copyInts.e, fitsOk (by simp; omega)]
  rfl⟩

namespace spec_make1
noncomputable def E : Entry := ⟨34, false, false, fun | [.d (.ints .i64 sh), .d (.ints .i64 da)] => szB sh && szB da | _ => false, fun | [.d (.ints .i64 sh), .d (.ints .i64 da)] => ([.agg [((.ints .i64 sh), true), ((.ints .i64 da), true)]], []) | _ => ([], []), fun _ => [], true, fun _ => none⟩
end spec_make1
namespace spec_make1
noncomputable def X : List Entry := [spec_copyInts.E]
noncomputable def I : List Inl := [⟨34, Try.f34, ⟨[6, 8], [], [], [], [], []⟩⟩]
theorem I_ok : ∀ i ∈ I, Try.prog.funcs[i.f]? = some i.fn ∧ (i.fn.name == "runtime.NumGoroutine") = false := by
  intro i hi
  simp only [I, List.mem_cons, List.not_mem_nil, or_false] at hi
  subst hi
  exact ⟨by kernel_rfl, by kernel_rfl⟩
theorem e (fuel : Nat) (p0 : List Int) (p1 : List Int) : runF Try.prog X I 0 fuel 34 Try.f34 [.d (.ints .i64 p0), .d (.ints .i64 p1)] =
  (bif szB p0 then
  (bif szB p1 then
  some ([.agg [((.ints .i64 p0), true), ((.ints .i64 p1), true)]], [])
  else
  none)
  else
  none) := by kernel_rfl
end spec_make1
theorem spec_make1.ok_of (hX : ∀ E ∈ spec_make1.X, CallSpec Try.prog E) (h : ∀ (sh : List Int) (da : List Int), (szB sh && szB da) = true → ∃ fuel, runF Try.prog spec_make1.X spec_make1.I 0 fuel 34 Try.f34 [.d (.ints .i64 sh), .d (.ints .i64 da)] = some ([.agg [((.ints .i64 sh), true), ((.ints .i64 da), true)]], [])) : CallSpec Try.prog spec_make1.E :=
  callSpec_of (d := 0) hX (by kernel_rfl) spec_make1.I_ok (by kernel_rfl) (by kernel_rfl) (by kernel_rfl) (fun _ _ _ _ h => by dsimp only [spec_make1.E] at h; cases h) (fun xs hp => by
    dsimp only [spec_make1.E] at hp ⊢
    split at hp
    · exact h _ _ hp
    · cases hp)
theorem spec_make1.ok : CallSpec Try.prog spec_make1.E := spec_make1.ok_of (by simp [spec_make1.X, spec_copyInts.ok]) fun sh da h => ⟨0, by
  simp only [Bool.and_eq_true] at h
  rw [spec_make1.e, h.1, h.2]
  rfl⟩

namespace spec_outer
noncomputable def E : Entry := ⟨50, false, false, fun | [.d (.int .i64 op), .d (.agg [(.ints .i64 sa), (.ints .i64 da)]), .d (.agg [(.ints .i64 sb), (.ints .i64 db)])] => otB op sa da sb db | _ => false, fun | [.d (.int .i64 op), .d (.agg [(.ints .i64 sa), (.ints .i64 da)]), .d (.agg [(.ints .i64 sb), (.ints .i64 db)])] => ([.agg [((.ints .i64 (sa ++ sb)), true), ((.ints .i64 (otN op da db)), true)]], []) | _ => ([], []), fun _ => [], true, fun _ => none⟩
end spec_outer
namespace spec_outer
noncomputable def X : List Entry := [spec_operate.E, spec_make1.E]
noncomputable def I : List Inl := [⟨50, Try.f50, ⟨[48], [(1000003, [1, 2, 3, 9, 10, 11, 12, 13, 14, 15, 16, 17, 18, 19, 20, 21, 22, 23, 24, 25, 26, 27, 28, 29, 30, 31, 32, 33, 34, 35, 36, 37, 38, 39, 40, 41, 42, 43, 44, 45, 46, 47, 48]), (1000006, [1, 2, 3, 10, 11, 12, 13, 14, 15, 16, 17, 18, 19, 20, 21, 22, 23, 24, 25, 26, 27, 28, 29, 30, 31, 32, 33, 34, 35, 36, 37, 38, 39, 40, 41, 42, 43, 44, 45, 46, 47, 48])], [(9, [5])], [(8, [0, 1, 2, 4, 7, 9, 3, 5, 6, 8, 10, 11, 12, 13, 14, 15]), (9, [1, 4, 5, 7, 2, 0, 3, 6, 8, 9])], [45], []⟩⟩]
theorem I_ok : ∀ i ∈ I, Try.prog.funcs[i.f]? = some i.fn ∧ (i.fn.name == "runtime.NumGoroutine") = false := by
  intro i hi
  simp only [I, List.mem_cons, List.not_mem_nil, or_false] at hi
  subst hi
  exact ⟨by kernel_rfl, by kernel_rfl⟩
noncomputable abbrev L0 (fuel n : Nat) (s : St) (k : Kont) := lAt Try.prog X I fuel true 0 false 50 (bodyOf Try.f50) [1, 1, 0, 1, 0] n s k
noncomputable abbrev k0  (fuel : Nat) : Kont := (kAt Try.prog X I fuel true 0 false 50 (bodyOf Try.f50) [1, 1, 0, 1, 0] [] (endK Try.prog Try.f50))
noncomputable def t0 (p0 : Int) (p1q0 : List Int) (p1q1 : List Int) (p2q0 : List Int) (p2q1 : List Int) (x0q1 : Int) (x0q6 : List Int) : St := ⟨[(.imm (.int .i64 p0)), .dead, .dead, .dead, (.ptr 1000000000 0 0), (.ptr 1000000001 0 0), (.ptr 1000000002 0 0), (.all 1000000003 1), (.imm (.int .i64 x0q1)), .dead, .dead, .dead, .dead, .dead, .dead, .dead, .dead, .dead, .dead, .dead, .dead, .dead, .dead, .dead, .dead, .dead, .dead, .dead, .dead, .dead, .dead, .dead, .dead, .dead, .dead, .dead, .dead, .dead, .dead, .dead, .dead, .dead, .dead, .dead, .dead, .dead, .dead, .dead, .dead], hOf [(1000000000, (.box [(.imm (.ints .i64 p1q0)), (.imm (.ints .i64 p1q1))])), (1000000001, (.box [(.imm (.ints .i64 p2q0)), (.imm (.ints .i64 p2q1))])), (1000000002, (.box [(.imm .nils), (.imm .nils)])), (1000000003, (.ints .i64 x0q6))], [], []⟩
noncomputable abbrev L1 (fuel n : Nat) (s : St) (k : Kont) := lAt Try.prog X I fuel true 0 false 50 (bodyOf Try.f50) [1, 1, 0, 1, 0, 0, 1, 0, 0, 1, 0] n s k
noncomputable abbrev k1 (n0 : Nat) (fuel : Nat) : Kont := (kAt Try.prog X I fuel true 0 false 50 (bodyOf Try.f50) [1, 1, 0, 1, 0, 0, 1, 0, 0, 1, 0] [n0] (endK Try.prog Try.f50))
noncomputable def t1 (p0 : Int) (x0q1 : Int) (p1q0 : List Int) (p1q1 : List Int) (p2q0 : List Int) (p2q1 : List Int) (x1q2 : Int) (x1q7 : List Int) : St := ⟨[(.imm (.int .i64 p0)), .dead, .dead, .dead, (.ptr 1000000000 0 0), (.ptr 1000000001 0 0), (.ptr 1000000002 0 0), (.all 1000000003 1), (.imm (.int .i64 x0q1)), (.imm (.int .i64 x1q2)), .dead, .dead, .dead, .dead, .dead, .dead, .dead, .dead, .dead, .dead, .dead, .dead, .dead, .dead, .dead, .dead, .dead, .dead, .dead, .dead, .dead, .dead, .dead, .dead, .dead, .dead, .dead, .dead, .dead, .dead, .dead, .dead, .dead, .dead, .dead, .dead, .dead, .dead, .dead], hOf [(1000000000, (.box [(.imm (.ints .i64 p1q0)), (.imm (.ints .i64 p1q1))])), (1000000001, (.box [(.imm (.ints .i64 p2q0)), (.imm (.ints .i64 p2q1))])), (1000000002, (.box [(.imm .nils), (.imm .nils)])), (1000000003, (.ints .i64 x1q7))], [], []⟩
theorem e (fuel : Nat) (p0 : Int) (p1q0 : List Int) (p1q1 : List Int) (p2q0 : List Int) (p2q1 : List Int) : runF Try.prog X I 0 fuel 50 Try.f50 [.d (.int .i64 p0), .d (.agg [(.ints .i64 p1q0), (.ints .i64 p1q1)]), .d (.agg [(.ints .i64 p2q0), (.ints .i64 p2q1)])] =
  L0 fuel fuel (t0 p0 p1q0 p1q1 p2q0 p2q1 0 ([])) (k0  fuel) := by kernel_rfl
theorem s0 (fuel n0 : Nat) (p0 : Int) (p1q0 : List Int) (p1q1 : List Int) (p2q0 : List Int) (p2q1 : List Int) (x0q1 : Int) (x0q6 : List Int) : L0 fuel (n0 + 1) (t0 p0 p1q0 p1q1 p2q0 p2q1 x0q1 x0q6) (k0  fuel) =
  (bif (decide ((x0q1 : Int) < ((p1q1.length : Nat) : Int))) then
  L1 fuel fuel (t1 p0 x0q1 p1q0 p1q1 p2q0 p2q1 0 x0q6) (k1 n0 fuel)
  else
  (bif fits (([] : List Int).length + p1q0.length) 8 then
  (bif fits ((([] : List Int) ++ p1q0).length + p2q0.length) 8 then
  (bif szB (((([] : List Int) ++ p1q0) ++ p2q0)) && szB x0q6 then
  some ([.agg [((.ints .i64 (((([] : List Int) ++ p1q0) ++ p2q0))), true), ((.ints .i64 x0q6), true)]], [])
  else
  none)
  else
  none)
  else
  none)) := by kernel_rfl
theorem s1 (fuel n0 n1 : Nat) (p0 : Int) (x0q1 : Int) (p1q0 : List Int) (p1q1 : List Int) (p2q0 : List Int) (p2q1 : List Int) (x1q2 : Int) (x1q7 : List Int) : L1 fuel (n1 + 1) (t1 p0 x0q1 p1q0 p1q1 p2q0 p2q1 x1q2 x1q7) (k1 n0 fuel) =
  (bif (decide ((x1q2 : Int) < ((p2q1.length : Nat) : Int))) then
  (idx x0q1 p1q1.length).bind fun j21 =>
  (p1q1[j21]?).bind fun v22 =>
  (idx x1q2 p2q1.length).bind fun j23 =>
  (p2q1[j23]?).bind fun v24 =>
  (bif fits (x1q7.length + ([(operF p0 v22 v24)] : List Int).length) 8 then
  L1 fuel n1 (t1 p0 x0q1 p1q0 p1q1 p2q0 p2q1 ((IntKind.wrap .i64 (x1q2 + 1))) ((x1q7 ++ [(operF p0 v22 v24)]))) (k1 n0 fuel)
  else
  none)
  else
  L0 fuel n0 (t0 p0 p1q0 p1q1 p2q0 p2q1 ((IntKind.wrap .i64 (x0q1 + 1))) x1q7) (k0  fuel)) := by kernel_rfl
end spec_outer
theorem spec_outer.ok_of (hX : ∀ E ∈ spec_outer.X, CallSpec Try.prog E) (h : ∀ (op : Int) (sa : List Int) (da : List Int) (sb : List Int) (db : List Int), (otB op sa da sb db) = true → ∃ fuel, runF Try.prog spec_outer.X spec_outer.I 0 fuel 50 Try.f50 [.d (.int .i64 op), .d (.agg [(.ints .i64 sa), (.ints .i64 da)]), .d (.agg [(.ints .i64 sb), (.ints .i64 db)])] = some ([.agg [((.ints .i64 (sa ++ sb)), true), ((.ints .i64 (otN op da db)), true)]], [])) : CallSpec Try.prog spec_outer.E :=
  callSpec_of (d := 0) hX (by kernel_rfl) spec_outer.I_ok (by kernel_rfl) (by kernel_rfl) (by kernel_rfl) (fun _ _ _ _ h => by dsimp only [spec_outer.E] at h; cases h) (fun xs hp => by
    dsimp only [spec_outer.E] at hp ⊢
    split at hp
    · exact h _ _ _ _ _ hp
    · cases hp)
theorem spec_outer.inner (fuel n0 : Nat) (op : Int) (sa da sb db : List Int) (i : Nat) (hi : i < da.length) (h60 : da.length * db.length ≤ 60) (hf : 60 < fuel) (hl : db.length ≤ 60) :
    spec_outer.L1 fuel fuel (spec_outer.t1 op (i : Int) sa da sb db 0 ((otN op da db).take (i * db.length))) (spec_outer.k1 n0 fuel) = spec_outer.L0 fuel n0 (spec_outer.t0 op sa da sb db ((IntKind.wrap .i64 ((i : Int) + 1))) ((otN op da db).take ((i + 1) * db.length))) (spec_outer.k0 fuel) := by
  have hA : (otN op da db).length = da.length * db.length := by simp only [otN, tab_length]
  refine run_loop (N := db.length) (fun n k out => spec_outer.L1 fuel n (spec_outer.t1 op (i : Int) sa da sb db (k : Int) out) (spec_outer.k1 n0 fuel)) (fun k out => out = (otN op da db).take (i * db.length + k)) ?_ ?_ fuel 0 _ (by omega) (by omega) rfl
  · intro n out ho
    rw [spec_outer.s1, dge (by omega), cond_false, ho, Nat.add_mul, Nat.one_mul]
  · intro n k out hk ho
    obtain ⟨e1, e2, e3⟩ := enc2 hi hk
    have hol : out.length = i * db.length + k := by rw [ho, take_len (by omega)]
    rw [spec_outer.s1, dlt hk, cond_true, idx_nat hi, idx_nat hk, w1 (by omega)]
    simp only [Option.bind_some, getD_get hi, getD_get hk]
    rw [fitsOk (by simp only [List.length_cons, List.length_nil]; omega), cond_true]
    refine ⟨_, ?_, rfl⟩
    rw [ho]
    refine take_push (by omega) ?_
    simp only [otN]
    rw [tab_getD e1, e2, e3]
theorem spec_outer.ok : CallSpec Try.prog spec_outer.E := spec_outer.ok_of (by simp [spec_outer.X, spec_operate.ok, spec_make1.ok]) fun op sa da sb db h => by
  obtain ⟨F, hF⟩ : ∃ F : Nat, 60 < F := ⟨61, by omega⟩
  refine ⟨F, ?_⟩
  obtain ⟨h1, h2, h3, h4, h5, h6⟩ := otB_inv h
  have l1 := validA_len h2
  have l2 := validA_len h3
  have hA : (otN op da db).length = da.length * db.length := by simp only [otN, tab_length]
  rw [spec_outer.e]
  refine run_loop (N := da.length) (fun n i out => spec_outer.L0 F n (spec_outer.t0 op sa da sb db (i : Int) out) (spec_outer.k0 F)) (fun i out => out = (otN op da db).take (i * db.length)) ?_ ?_ F 0 _ (by omega) (by omega) (by simp)
  · intro n out ho
    rw [← hA, List.take_length] at ho
    rw [spec_outer.s0, dge (by omega), cond_false, fitsOk (by simp only [List.length_nil]; omega), fitsOk (by simp only [List.length_append, List.length_nil]; omega), List.nil_append, szB_of (by simp; omega), szB_of (by rw [ho]; omega), ho]
    rfl
  · intro n i out hi ho
    rw [spec_outer.s0, dlt hi, cond_true, ho, spec_outer.inner F n op sa da sb db i hi h6 hF l2.2, w1 (by omega)]
    exact ⟨_, rfl, rfl⟩

namespace impl_layoutOf
noncomputable def E : Entry := ⟨45, false, false, fun | [.d (.ints .i64 sh)] => decide (sh.length < 9223372036854775808) | _ => false, fun | [.d (.ints .i64 sh)] => ([.agg [((.ints .i64 nilI), true), ((.int .i64 0), false), ((.int .i64 0), false), ((.int .i64 0), false), ((.int .i64 0), false)], .one ((.bool false), false)], []) | _ => ([], []), fun | [.d (.ints .i64 sh)] => [(validS sh, ([.agg [((.ints .i64 sh), false), ((.int .i64 (strd sh 0)), false), ((.int .i64 (strd sh 1)), false), ((.int .i64 (strd sh 2)), false), ((.int .i64 (volW sh)), false)], .one ((.bool true), false)], []))] | _ => [], true, fun _ => none⟩
end impl_layoutOf
namespace impl_layoutOf
noncomputable def X : List Entry := []
noncomputable def I : List Inl := [⟨45, Try.f45, ⟨[], [(1000005, [1, 3, 6, 7, 8, 9, 10, 11, 12, 13, 14, 15, 16, 17, 18, 19, 20, 21, 22, 23, 24, 25, 26, 27, 28, 29, 30, 31, 32, 33, 34, 35, 36, 37, 38, 39, 40, 41, 42, 43, 44, 45, 46, 47, 48, 49])], [], [(10, [0, 2, 3, 1, 4, 5, 6, 7, 8])], [], []⟩⟩]
theorem I_ok : ∀ i ∈ I, Try.prog.funcs[i.f]? = some i.fn ∧ (i.fn.name == "runtime.NumGoroutine") = false := by
  intro i hi
  simp only [I, List.mem_cons, List.not_mem_nil, or_false] at hi
  subst hi
  exact ⟨by kernel_rfl, by kernel_rfl⟩
noncomputable abbrev L0 (fuel n : Nat) (s : St) (k : Kont) := lAt Try.prog X I fuel true 0 false 45 (bodyOf Try.f45) [1, 1, 1, 0, 1, 0] n s k
noncomputable abbrev k0  (fuel : Nat) : Kont := (kAt Try.prog X I fuel true 0 false 45 (bodyOf Try.f45) [1, 1, 1, 0, 1, 0] [] (endK Try.prog Try.f45))
noncomputable def t0 (p0 : List Int) (x0q1 : Int) (x0q7 : Int) (x0q8 : Int) (x0q9 : Int) (x0q10 : Int) : St := ⟨[(.imm (.ints .i64 p0)), .dead, (.ptr 1000000000 0 0), .dead, (.ptr 1000000001 0 0), (.imm (.int .i64 x0q1)), .dead, .dead, .dead, .dead, .dead, .dead, .dead, .dead, .dead, .dead, .dead, .dead, .dead, .dead, .dead, .dead, .dead, .dead, .dead, .dead, .dead, .dead, .dead, .dead, .dead, .dead, .dead, .dead, .dead, .dead, .dead, .dead, .dead, .dead, .dead, .dead, .dead, .dead, .dead, .dead, .dead, .dead, .dead, .dead], hOf [(1000000000, (.box [(.imm .nils), (.imm (.int .i64 0)), (.imm (.int .i64 0)), (.imm (.int .i64 0)), (.imm (.int .i64 0))])), (1000000001, (.box [(.imm (.ints .i64 p0)), (.imm (.int .i64 x0q7)), (.imm (.int .i64 x0q8)), (.imm (.int .i64 x0q9)), (.imm (.int .i64 x0q10))]))], [], []⟩
theorem e (fuel : Nat) (p0 : List Int) : runF Try.prog X I 0 fuel 45 Try.f45 [.d (.ints .i64 p0)] =
  (bif (decide ((((p0.length : Nat) : Int) : Int) > 3)) then
  some ([.agg [((.ints .i64 []), true), ((.int .i64 0), false), ((.int .i64 0), false), ((.int .i64 0), false), ((.int .i64 0), false)], .one ((.bool false), false)], [])
  else
  L0 fuel fuel (t0 p0 ((IntKind.wrap .i64 (((p0.length : Nat) : Int) - 1))) 0 0 0 1) (k0  fuel)) := by kernel_rfl
theorem s0 (fuel n0 : Nat) (p0 : List Int) (x0q1 : Int) (x0q7 : Int) (x0q8 : Int) (x0q9 : Int) (x0q10 : Int) : L0 fuel (n0 + 1) (t0 p0 x0q1 x0q7 x0q8 x0q9 x0q10) (k0  fuel) =
  (bif (decide ((x0q1 : Int) ≥ 0)) then
  (idx x0q1 p0.length).bind fun j21 =>
  (p0[j21]?).bind fun v22 =>
  (bif (decide ((v22 : Int) < 0)) then
  some ([.agg [((.ints .i64 []), true), ((.int .i64 0), false), ((.int .i64 0), false), ((.int .i64 0), false), ((.int .i64 0), false)], .one ((.bool false), false)], [])
  else
  (idx x0q1 p0.length).bind fun j23 =>
  (p0[j23]?).bind fun v24 =>
  (bif (decide ((v24 : Int) > 60)) then
  some ([.agg [((.ints .i64 []), true), ((.int .i64 0), false), ((.int .i64 0), false), ((.int .i64 0), false), ((.int .i64 0), false)], .one ((.bool false), false)], [])
  else
  (bif decide (x0q1 = ((0 : Nat) : Int)) then
  (idx x0q1 p0.length).bind fun j29 =>
  (p0[j29]?).bind fun v30 =>
  L0 fuel n0 (t0 p0 ((IntKind.wrap .i64 (x0q1 - 1))) x0q10 x0q8 x0q9 ((IntKind.wrap .i64 (x0q10 * v30)))) (k0  fuel)
  else
  (bif decide (x0q1 = ((1 : Nat) : Int)) then
  (idx x0q1 p0.length).bind fun j27 =>
  (p0[j27]?).bind fun v28 =>
  L0 fuel n0 (t0 p0 ((IntKind.wrap .i64 (x0q1 - 1))) x0q7 x0q10 x0q9 ((IntKind.wrap .i64 (x0q10 * v28)))) (k0  fuel)
  else
  (bif decide (x0q1 = ((2 : Nat) : Int)) then
  (idx x0q1 p0.length).bind fun j25 =>
  (p0[j25]?).bind fun v26 =>
  L0 fuel n0 (t0 p0 ((IntKind.wrap .i64 (x0q1 - 1))) x0q7 x0q8 x0q10 ((IntKind.wrap .i64 (x0q10 * v26)))) (k0  fuel)
  else
  none)))))
  else
  (bif (decide ((x0q10 : Int) > 60)) then
  some ([.agg [((.ints .i64 []), true), ((.int .i64 0), false), ((.int .i64 0), false), ((.int .i64 0), false), ((.int .i64 0), false)], .one ((.bool false), false)], [])
  else
  some ([.agg [((.ints .i64 p0), false), ((.int .i64 x0q7), false), ((.int .i64 x0q8), false), ((.int .i64 x0q9), false), ((.int .i64 x0q10), false)], .one ((.bool true), false)], []))) := by kernel_rfl
end impl_layoutOf
theorem impl_layoutOf.ok_of (hX : ∀ E ∈ impl_layoutOf.X, CallSpec Try.prog E) (h : ∀ (sh : List Int), (decide (sh.length < 9223372036854775808)) = true → ∃ fuel, runF Try.prog impl_layoutOf.X impl_layoutOf.I 0 fuel 45 Try.f45 [.d (.ints .i64 sh)] = some (bif validS sh then ([.agg [((.ints .i64 sh), false), ((.int .i64 (strd sh 0)), false), ((.int .i64 (strd sh 1)), false), ((.int .i64 (strd sh 2)), false), ((.int .i64 (volW sh)), false)], .one ((.bool true), false)], []) else ([.agg [((.ints .i64 nilI), true), ((.int .i64 0), false), ((.int .i64 0), false), ((.int .i64 0), false), ((.int .i64 0), false)], .one ((.bool false), false)], []))) : CallSpec Try.prog impl_layoutOf.E :=
  callSpec_of (d := 0) hX (by kernel_rfl) impl_layoutOf.I_ok (by kernel_rfl) (by kernel_rfl) (by kernel_rfl) (fun _ _ _ _ h => by dsimp only [impl_layoutOf.E] at h; cases h) (fun xs hp => by
    dsimp only [impl_layoutOf.E] at hp ⊢
    split at hp
    · exact h _ hp
    · cases hp)
theorem impl_layoutOf.bad (fuel n : Nat) (sh : List Int) (k : Nat) (v : Int) (s0 s1 s2 z : Int) (hk : k < sh.length) (hv : sh[k]? = some v) (h : ¬ (0 ≤ v ∧ v ≤ 60)) :
    impl_layoutOf.L0 fuel (n + 1) (impl_layoutOf.t0 sh (k : Int) s0 s1 s2 z) (impl_layoutOf.k0 fuel) = some ([.agg [(.ints .i64 [], true), (.int .i64 0, false), (.int .i64 0, false), (.int .i64 0, false), (.int .i64 0, false)], .one (.bool false, false)], []) := by
  rw [impl_layoutOf.s0, decide_eq_true (by omega), idx_nat hk]
  simp only [cond_true, Option.bind_some, hv]
  by_cases h0 : v < 0
  · rw [decide_eq_true h0]; rfl
  · rw [decide_eq_false h0, decide_eq_true (by omega)]; rfl
theorem impl_layoutOf.good (fuel n : Nat) (sh : List Int) (k : Nat) (v : Int) (s0 s1 s2 z : Int) (hk : k < sh.length) (hv : sh[k]? = some v) (h : 0 ≤ v ∧ v ≤ 60) (hk3 : k < 3) :
    impl_layoutOf.L0 fuel (n + 1) (impl_layoutOf.t0 sh (k : Int) s0 s1 s2 z) (impl_layoutOf.k0 fuel) =
      impl_layoutOf.L0 fuel n (impl_layoutOf.t0 sh ((k : Int) - 1) (bif k == 0 then z else s0) (bif k == 1 then z else s1) (bif k == 2 then z else s2) (IntKind.wrap .i64 (z * v))) (impl_layoutOf.k0 fuel) := by
  rw [impl_layoutOf.s0, decide_eq_true (by omega), idx_nat hk]
  simp only [cond_true, Option.bind_some, hv]
  rw [decide_eq_false (p := v < 0) (by omega), decide_eq_false (p := v > 60) (by omega), wS (x := (k : Int) - 1) (by omega) (by omega)]
  simp only [cond_false]
  match k, hk3 with
  | 0, _ => rfl
  | 1, _ => rfl
  | 2, _ => rfl
theorem impl_layoutOf.last (fuel n : Nat) (sh : List Int) (i : Int) (s0 s1 s2 z : Int) (hi : i < 0) :
    impl_layoutOf.L0 fuel (n + 1) (impl_layoutOf.t0 sh i s0 s1 s2 z) (impl_layoutOf.k0 fuel) = 
      bif decide (z ≤ 60) then some ([.agg [(.ints .i64 sh, false), (.int .i64 s0, false), (.int .i64 s1, false), (.int .i64 s2, false), (.int .i64 z, false)], .one (.bool true, false)], [])
      else some ([.agg [(.ints .i64 [], true), (.int .i64 0, false), (.int .i64 0, false), (.int .i64 0, false), (.int .i64 0, false)], .one (.bool false, false)], []) := by
  rw [impl_layoutOf.s0, decide_eq_false (by omega)]
  simp only [cond_false]
  by_cases hz : z ≤ 60
  · rw [decide_eq_true hz, decide_eq_false (by omega)]; rfl
  · rw [decide_eq_false hz, decide_eq_true (by omega)]; rfl
theorem rng_dec {v : Int} (h : 0 ≤ v ∧ v ≤ 60) : (decide (0 ≤ v) && decide (v ≤ 60)) = true := by simp [h.1, h.2]
theorem rng_bad {v : Int} (h : ¬ (0 ≤ v ∧ v ≤ 60)) : (decide (0 ≤ v) && decide (v ≤ 60)) = false := by
  cases hb : (decide (0 ≤ v) && decide (v ≤ 60)) with
  | false => rfl
  | true => simp at hb; exact absurd hb h
theorem validS1 (a : Int) : validS [a] = ((decide (0 ≤ a) && decide (a ≤ 60)) && decide (IntKind.wrap .i64 (1 * a) ≤ 60)) := by
  simp only [validS, allB_cons, allB_nil, Bool.and_true, volW, volFrom]; rfl
theorem validS2 (a b : Int) : validS [a, b] = ((decide (0 ≤ a) && decide (a ≤ 60)) && (decide (0 ≤ b) && decide (b ≤ 60)) && decide (IntKind.wrap .i64 (IntKind.wrap .i64 (1 * a) * b) ≤ 60)) := by
  simp only [validS, allB_cons, allB_nil, Bool.and_true, volW, volFrom]; rfl
theorem validS3 (a b c : Int) : validS [a, b, c] = ((decide (0 ≤ a) && decide (a ≤ 60)) && ((decide (0 ≤ b) && decide (b ≤ 60)) && (decide (0 ≤ c) && decide (c ≤ 60))) && decide (IntKind.wrap .i64 (IntKind.wrap .i64 (IntKind.wrap .i64 (1 * a) * b) * c) ≤ 60)) := by
  simp only [validS, allB_cons, allB_nil, Bool.and_true, volW, volFrom]; rfl
theorem impl_layoutOf.ok : CallSpec Try.prog impl_layoutOf.E := impl_layoutOf.ok_of (by simp [impl_layoutOf.X]) fun sh h => by
  refine ⟨5, ?_⟩
  rw [impl_layoutOf.e]
  match sh with
  | [] => rw [show decide (((([] : List Int).length : Nat) : Int) > 3) = false from rfl, cond_false, impl_layoutOf.last _ _ _ _ _ _ _ _ (by decide)]; rfl
  | [a] =>
    rw [show decide (((([a] : List Int).length : Nat) : Int) > 3) = false from rfl, cond_false, show IntKind.wrap .i64 ((([a] : List Int).length : Nat) - 1) = ((0 : Nat) : Int) from rfl, validS1]
    by_cases h1 : 0 ≤ a ∧ a ≤ 60
    · rw [impl_layoutOf.good _ _ _ _ a _ _ _ _ (by simp) rfl h1 (by omega), impl_layoutOf.last _ _ _ _ _ _ _ _ (by decide), rng_dec h1, Int.one_mul, wS (x := a) (by omega) (by omega)]
      simp only [strd, volW, volFrom, Int.one_mul, wS (x := a) (by omega) (by omega)]
      cases decide (a ≤ 60) <;> rfl
    · rw [impl_layoutOf.bad _ _ _ _ a _ _ _ _ (by simp) rfl h1, rng_bad h1]; rfl
  | [a, b] =>
    rw [show decide (((([a, b] : List Int).length : Nat) : Int) > 3) = false from rfl, cond_false, show IntKind.wrap .i64 ((([a, b] : List Int).length : Nat) - 1) = ((1 : Nat) : Int) from rfl, validS2]
    by_cases h1 : 0 ≤ b ∧ b ≤ 60
    case neg => rw [impl_layoutOf.bad _ _ _ _ b _ _ _ _ (by simp) rfl h1, rng_bad h1, Bool.and_false]; rfl
    rw [impl_layoutOf.good _ _ _ _ b _ _ _ _ (by simp) rfl h1 (by omega), show (((1 : Nat) : Int) - 1) = ((0 : Nat) : Int) from rfl]
    by_cases h2 : 0 ≤ a ∧ a ≤ 60
    case neg => rw [impl_layoutOf.bad _ _ _ _ a _ _ _ _ (by simp) rfl h2, rng_bad h2]; rfl
    have hm := mul60 h2.1 h2.2 h1.1 h1.2
    rw [impl_layoutOf.good _ _ _ _ a _ _ _ _ (by simp) rfl h2 (by omega), impl_layoutOf.last _ _ _ _ _ _ _ _ (by decide), rng_dec h1, rng_dec h2, Int.one_mul, Int.one_mul, wS (x := a) (by omega) (by omega), wS (x := b) (by omega) (by omega), Int.mul_comm b a, wS (x := a * b) (by omega) (by omega)]
    simp only [strd, volW, volFrom, Int.one_mul, wS (x := a) (by omega) (by omega), wS (x := b) (by omega) (by omega), wS (x := a * b) (by omega) (by omega), List.drop_succ_cons, List.drop_zero]
    cases decide (a * b ≤ 60) <;> rfl
  | [a, b, c] =>
    rw [show decide (((([a, b, c] : List Int).length : Nat) : Int) > 3) = false from rfl, cond_false, show IntKind.wrap .i64 ((([a, b, c] : List Int).length : Nat) - 1) = ((2 : Nat) : Int) from rfl, validS3]
    by_cases h0 : 0 ≤ c ∧ c ≤ 60
    case neg => rw [impl_layoutOf.bad _ _ _ _ c _ _ _ _ (by simp) rfl h0, rng_bad h0, Bool.and_false, Bool.and_false]; rfl
    rw [impl_layoutOf.good _ _ _ _ c _ _ _ _ (by simp) rfl h0 (by omega), show (((2 : Nat) : Int) - 1) = ((1 : Nat) : Int) from rfl]
    by_cases h1 : 0 ≤ b ∧ b ≤ 60
    case neg => rw [impl_layoutOf.bad _ _ _ _ b _ _ _ _ (by simp) rfl h1, rng_bad h1, Bool.false_and, Bool.and_false]; rfl
    rw [impl_layoutOf.good _ _ _ _ b _ _ _ _ (by simp) rfl h1 (by omega), show (((1 : Nat) : Int) - 1) = ((0 : Nat) : Int) from rfl]
    by_cases h2 : 0 ≤ a ∧ a ≤ 60
    case neg => rw [impl_layoutOf.bad _ _ _ _ a _ _ _ _ (by simp) rfl h2, rng_bad h2]; rfl
    have hm := mul60 h2.1 h2.2 h1.1 h1.2
    have hm1 := mul60 h1.1 h1.2 h0.1 h0.2
    have hm3 := mul3600 hm.1 hm.2 h0.1 h0.2
    have hc : b * c * a = a * b * c := by rw [Int.mul_comm (b * c) a, Int.mul_assoc]
    rw [impl_layoutOf.good _ _ _ _ a _ _ _ _ (by simp) rfl h2 (by omega), impl_layoutOf.last _ _ _ _ _ _ _ _ (by decide), rng_dec h0, rng_dec h1, rng_dec h2, Int.one_mul, Int.one_mul, wS (x := a) (by omega) (by omega), wS (x := c) (by omega) (by omega), Int.mul_comm c b, wS (x := a * b) (by omega) (by omega), wS (x := b * c) (by omega) (by omega), hc, wS (x := a * b * c) (by omega) (by omega)]
    simp only [strd, volW, volFrom, Int.one_mul, wS (x := a) (by omega) (by omega), wS (x := b) (by omega) (by omega), wS (x := c) (by omega) (by omega), wS (x := a * b) (by omega) (by omega), wS (x := b * c) (by omega) (by omega), wS (x := a * b * c) (by omega) (by omega), List.drop_succ_cons, List.drop_zero]
    cases decide (a * b * c ≤ 60) <;> rfl
  | a :: b :: c :: d :: t =>
    have h1 : ((((a :: b :: c :: d :: t).length : Nat) : Int) > 3) := by simp; omega
    have h2 : ¬ ((((a :: b :: c :: d :: t).length : Nat) : Int) ≤ 3) := by omega
    have h3 : validS (a :: b :: c :: d :: t) = false := by unfold validS; rw [decide_eq_false h2]; rfl
    rw [decide_eq_true h1, h3]
    rfl

namespace impl_layoutOf_j
noncomputable def E : Entry := ⟨45, false, false, fun | [.d (.ints .i64 sh)] => decide (sh.length < 9223372036854775808) | _ => false, fun | [.d (.ints .i64 sh)] => ([.agg [(.junk, false), ((.int .i64 0), false), ((.int .i64 0), false), ((.int .i64 0), false), ((.int .i64 0), false)], .one ((.bool false), false)], []) | _ => ([], []), fun | [.d (.ints .i64 sh)] => [(validS sh, ([.agg [(.junk, false), ((.int .i64 (strd sh 0)), false), ((.int .i64 (strd sh 1)), false), ((.int .i64 (strd sh 2)), false), ((.int .i64 (volW sh)), false)], .one ((.bool true), false)], []))] | _ => [], true, fun _ => none⟩
end impl_layoutOf_j
theorem impl_layoutOf_j.ok : CallSpec Try.prog impl_layoutOf_j.E := CallSpec.le impl_layoutOf.ok rfl (fun _ _ _ _ h => by dsimp only [impl_layoutOf_j.E] at h; cases h) fun xs h => by
  dsimp only [impl_layoutOf_j.E] at h
  split at h
  case h_2 => simp at h
  rename_i sh
  refine ⟨h, ?_⟩
  simp only [Entry.r, impl_layoutOf_j.E, impl_layoutOf.E, pickR]
  cases hv : validS sh
  · refine ⟨.agg rfl (fun i h1 h2 => ?_) (.same .nil), rfl⟩
    match i, h1 with
    | 0, _ => exact .inr (.inr (.inl ⟨rfl, _, _, rfl⟩))
    | 1, _ | 2, _ | 3, _ | 4, _ => exact .inl rfl
  · refine ⟨.agg rfl (fun i h1 h2 => ?_) (.same .nil), rfl⟩
    match i, h1 with
    | 0, _ => exact .inr (.inl ⟨rfl, rfl, rfl, rfl⟩)
    | 1, _ | 2, _ | 3, _ | 4, _ => exact .inl rfl

namespace impl_limited
noncomputable def E : Entry := ⟨69, true, false, fun | [.d (.int .i64 n)] => true | _ => false, fun | [.d (.int .i64 n)] => ([.one ((.int .i64 (limV n)), false)], []) | _ => ([], []), fun _ => [], false, fun _ => none⟩
end impl_limited
namespace impl_limited
noncomputable def X : List Entry := []
noncomputable def I : List Inl := [⟨69, Try.f69, ⟨[], [], [], [], [], []⟩⟩]
theorem I_ok : ∀ i ∈ I, Try.prog.funcs[i.f]? = some i.fn ∧ (i.fn.name == "runtime.NumGoroutine") = false := by
  intro i hi
  simp only [I, List.mem_cons, List.not_mem_nil, or_false] at hi
  subst hi
  exact ⟨by kernel_rfl, by kernel_rfl⟩
theorem e (fuel : Nat) (p0 : Int) : runF Try.prog X I 0 fuel 69 Try.f69 [.d (.int .i64 p0)] =
  some ([.one ((.int .i64 (minI (maxI p0 (-1000000)) 1000000)), false)], []) := by kernel_rfl
end impl_limited
theorem impl_limited.ok_of (hX : ∀ E ∈ impl_limited.X, CallSpec Try.prog E) (h : ∀ (n : Int), (true) = true → ∃ fuel, runF Try.prog impl_limited.X impl_limited.I 0 fuel 69 Try.f69 [.d (.int .i64 n)] = some ([.one ((.int .i64 (limV n)), false)], [])) : CallSpec Try.prog impl_limited.E :=
  callSpec_of (d := 0) hX (by kernel_rfl) impl_limited.I_ok (by kernel_rfl) (by kernel_rfl) (by kernel_rfl) (fun _ _ _ _ h => by dsimp only [impl_limited.E] at h; cases h) (fun xs hp => by
    dsimp only [impl_limited.E] at hp ⊢
    split at hp
    · exact h _ hp
    · cases hp)
theorem impl_limited.ok : CallSpec Try.prog impl_limited.E := impl_limited.ok_of (by simp [impl_limited.X]) fun n _ => ⟨0, by rw [impl_limited.e]; rfl⟩

namespace impl_functionOfTwo_1
noncomputable def E : Entry := ⟨68, true, false, fun | [.d (.int .i64 a), .d (.int .i64 b)] => true | _ => false, fun | [.d (.int .i64 a), .d (.int .i64 b)] => ([.one ((.int .i64 (limV (IntKind.wrap .i64 (a + b)))), false)], []) | _ => ([], []), fun _ => [], false, fun | [] => some (false, q2, (q2v (operF 1))) | _ => none⟩
end impl_functionOfTwo_1
namespace impl_functionOfTwo_1
noncomputable def X : List Entry := [impl_limited.E]
noncomputable def I : List Inl := [⟨68, Try.f68, ⟨[], [], [], [], [], []⟩⟩]
theorem I_ok : ∀ i ∈ I, Try.prog.funcs[i.f]? = some i.fn ∧ (i.fn.name == "runtime.NumGoroutine") = false := by
  intro i hi
  simp only [I, List.mem_cons, List.not_mem_nil, or_false] at hi
  subst hi
  exact ⟨by kernel_rfl, by kernel_rfl⟩
theorem e (fuel : Nat) (p0 : Int) (p1 : Int) : runF Try.prog X I 0 fuel 68 Try.f68 [.d (.int .i64 p0), .d (.int .i64 p1)] =
  some ([.one ((.int .i64 (limV ((IntKind.wrap .i64 (p0 + p1))))), false)], []) := by kernel_rfl
end impl_functionOfTwo_1
theorem impl_functionOfTwo_1.ok_of (hX : ∀ E ∈ impl_functionOfTwo_1.X, CallSpec Try.prog E) (hfn : ∀ ds rb dom G, impl_functionOfTwo_1.E.fnOf ds = some (rb, dom, G) → ∀ qs, dom qs = true → impl_functionOfTwo_1.E.m ((qs.map fun q => .d q.d) ++ ds.map .d) = some ([.one (fnD rb (G qs), false)], [])) (h : ∀ (a : Int) (b : Int), (true) = true → ∃ fuel, runF Try.prog impl_functionOfTwo_1.X impl_functionOfTwo_1.I 0 fuel 68 Try.f68 [.d (.int .i64 a), .d (.int .i64 b)] = some ([.one ((.int .i64 (limV (IntKind.wrap .i64 (a + b)))), false)], [])) : CallSpec Try.prog impl_functionOfTwo_1.E :=
  callSpec_of (d := 0) hX (by kernel_rfl) impl_functionOfTwo_1.I_ok (by kernel_rfl) (by kernel_rfl) (by kernel_rfl) hfn (fun xs hp => by
    dsimp only [impl_functionOfTwo_1.E] at hp ⊢
    split at hp
    · exact h _ _ hp
    · cases hp)
theorem impl_functionOfTwo_1.ok : CallSpec Try.prog impl_functionOfTwo_1.E := impl_functionOfTwo_1.ok_of (by simp [impl_functionOfTwo_1.X, impl_limited.ok]) (fun ds rb dom G h qs hq => by
  dsimp only [impl_functionOfTwo_1.E] at h
  split at h
  case h_2 => cases h
  cases h
  match qs, hq with
  | [.i a, .i b], _ => rfl) fun a b _ => ⟨0, by rw [impl_functionOfTwo_1.e]⟩

namespace impl_functionOfTwo_2
noncomputable def E : Entry := ⟨70, true, false, fun | [.d (.int .i64 a), .d (.int .i64 b)] => true | _ => false, fun | [.d (.int .i64 a), .d (.int .i64 b)] => ([.one ((.int .i64 (limV (IntKind.wrap .i64 (a - b)))), false)], []) | _ => ([], []), fun _ => [], false, fun | [] => some (false, q2, (q2v (operF 2))) | _ => none⟩
end impl_functionOfTwo_2
namespace impl_functionOfTwo_2
noncomputable def X : List Entry := [impl_limited.E]
noncomputable def I : List Inl := [⟨70, Try.f70, ⟨[], [], [], [], [], []⟩⟩]
theorem I_ok : ∀ i ∈ I, Try.prog.funcs[i.f]? = some i.fn ∧ (i.fn.name == "runtime.NumGoroutine") = false := by
  intro i hi
  simp only [I, List.mem_cons, List.not_mem_nil, or_false] at hi
  subst hi
  exact ⟨by kernel_rfl, by kernel_rfl⟩
theorem e (fuel : Nat) (p0 : Int) (p1 : Int) : runF Try.prog X I 0 fuel 70 Try.f70 [.d (.int .i64 p0), .d (.int .i64 p1)] =
  some ([.one ((.int .i64 (limV ((IntKind.wrap .i64 (p0 - p1))))), false)], []) := by kernel_rfl
end impl_functionOfTwo_2
theorem impl_functionOfTwo_2.ok_of (hX : ∀ E ∈ impl_functionOfTwo_2.X, CallSpec Try.prog E) (hfn : ∀ ds rb dom G, impl_functionOfTwo_2.E.fnOf ds = some (rb, dom, G) → ∀ qs, dom qs = true → impl_functionOfTwo_2.E.m ((qs.map fun q => .d q.d) ++ ds.map .d) = some ([.one (fnD rb (G qs), false)], [])) (h : ∀ (a : Int) (b : Int), (true) = true → ∃ fuel, runF Try.prog impl_functionOfTwo_2.X impl_functionOfTwo_2.I 0 fuel 70 Try.f70 [.d (.int .i64 a), .d (.int .i64 b)] = some ([.one ((.int .i64 (limV (IntKind.wrap .i64 (a - b)))), false)], [])) : CallSpec Try.prog impl_functionOfTwo_2.E :=
  callSpec_of (d := 0) hX (by kernel_rfl) impl_functionOfTwo_2.I_ok (by kernel_rfl) (by kernel_rfl) (by kernel_rfl) hfn (fun xs hp => by
    dsimp only [impl_functionOfTwo_2.E] at hp ⊢
    split at hp
    · exact h _ _ hp
    · cases hp)
theorem impl_functionOfTwo_2.ok : CallSpec Try.prog impl_functionOfTwo_2.E := impl_functionOfTwo_2.ok_of (by simp [impl_functionOfTwo_2.X, impl_limited.ok]) (fun ds rb dom G h qs hq => by
  dsimp only [impl_functionOfTwo_2.E] at h
  split at h
  case h_2 => cases h
  cases h
  match qs, hq with
  | [.i a, .i b], _ => rfl) fun a b _ => ⟨0, by rw [impl_functionOfTwo_2.e]⟩

namespace impl_functionOfTwo_3
noncomputable def E : Entry := ⟨71, true, false, fun | [.d (.int .i64 a), .d (.int .i64 b)] => true | _ => false, fun | [.d (.int .i64 a), .d (.int .i64 b)] => ([.one ((.int .i64 (limV (IntKind.wrap .i64 (a * b)))), false)], []) | _ => ([], []), fun _ => [], false, fun | [] => some (false, q2, (q2v (operF 3))) | _ => none⟩
end impl_functionOfTwo_3
namespace impl_functionOfTwo_3
noncomputable def X : List Entry := [impl_limited.E]
noncomputable def I : List Inl := [⟨71, Try.f71, ⟨[], [], [], [], [], []⟩⟩]
theorem I_ok : ∀ i ∈ I, Try.prog.funcs[i.f]? = some i.fn ∧ (i.fn.name == "runtime.NumGoroutine") = false := by
  intro i hi
  simp only [I, List.mem_cons, List.not_mem_nil, or_false] at hi
  subst hi
  exact ⟨by kernel_rfl, by kernel_rfl⟩
theorem e (fuel : Nat) (p0 : Int) (p1 : Int) : runF Try.prog X I 0 fuel 71 Try.f71 [.d (.int .i64 p0), .d (.int .i64 p1)] =
  some ([.one ((.int .i64 (limV ((IntKind.wrap .i64 (p0 * p1))))), false)], []) := by kernel_rfl
end impl_functionOfTwo_3
theorem impl_functionOfTwo_3.ok_of (hX : ∀ E ∈ impl_functionOfTwo_3.X, CallSpec Try.prog E) (hfn : ∀ ds rb dom G, impl_functionOfTwo_3.E.fnOf ds = some (rb, dom, G) → ∀ qs, dom qs = true → impl_functionOfTwo_3.E.m ((qs.map fun q => .d q.d) ++ ds.map .d) = some ([.one (fnD rb (G qs), false)], [])) (h : ∀ (a : Int) (b : Int), (true) = true → ∃ fuel, runF Try.prog impl_functionOfTwo_3.X impl_functionOfTwo_3.I 0 fuel 71 Try.f71 [.d (.int .i64 a), .d (.int .i64 b)] = some ([.one ((.int .i64 (limV (IntKind.wrap .i64 (a * b)))), false)], [])) : CallSpec Try.prog impl_functionOfTwo_3.E :=
  callSpec_of (d := 0) hX (by kernel_rfl) impl_functionOfTwo_3.I_ok (by kernel_rfl) (by kernel_rfl) (by kernel_rfl) hfn (fun xs hp => by
    dsimp only [impl_functionOfTwo_3.E] at hp ⊢
    split at hp
    · exact h _ _ hp
    · cases hp)
theorem impl_functionOfTwo_3.ok : CallSpec Try.prog impl_functionOfTwo_3.E := impl_functionOfTwo_3.ok_of (by simp [impl_functionOfTwo_3.X, impl_limited.ok]) (fun ds rb dom G h qs hq => by
  dsimp only [impl_functionOfTwo_3.E] at h
  split at h
  case h_2 => cases h
  cases h
  match qs, hq with
  | [.i a, .i b], _ => rfl) fun a b _ => ⟨0, by rw [impl_functionOfTwo_3.e]⟩

namespace impl_functionOfTwo_4
noncomputable def E : Entry := ⟨72, true, false, fun | [.d (.int .i64 a), .d (.int .i64 b)] => true | _ => false, fun | [.d (.int .i64 a), .d (.int .i64 b)] => ([.one ((.int .i64 (minI a b)), false)], []) | _ => ([], []), fun _ => [], false, fun | [] => some (false, q2, (q2v (operF 4))) | _ => none⟩
end impl_functionOfTwo_4
namespace impl_functionOfTwo_4
noncomputable def X : List Entry := []
noncomputable def I : List Inl := [⟨72, Try.f72, ⟨[], [], [], [], [], []⟩⟩]
theorem I_ok : ∀ i ∈ I, Try.prog.funcs[i.f]? = some i.fn ∧ (i.fn.name == "runtime.NumGoroutine") = false := by
  intro i hi
  simp only [I, List.mem_cons, List.not_mem_nil, or_false] at hi
  subst hi
  exact ⟨by kernel_rfl, by kernel_rfl⟩
theorem e (fuel : Nat) (p0 : Int) (p1 : Int) : runF Try.prog X I 0 fuel 72 Try.f72 [.d (.int .i64 p0), .d (.int .i64 p1)] =
  some ([.one ((.int .i64 (minI p0 p1)), false)], []) := by kernel_rfl
end impl_functionOfTwo_4
theorem impl_functionOfTwo_4.ok_of (hX : ∀ E ∈ impl_functionOfTwo_4.X, CallSpec Try.prog E) (hfn : ∀ ds rb dom G, impl_functionOfTwo_4.E.fnOf ds = some (rb, dom, G) → ∀ qs, dom qs = true → impl_functionOfTwo_4.E.m ((qs.map fun q => .d q.d) ++ ds.map .d) = some ([.one (fnD rb (G qs), false)], [])) (h : ∀ (a : Int) (b : Int), (true) = true → ∃ fuel, runF Try.prog impl_functionOfTwo_4.X impl_functionOfTwo_4.I 0 fuel 72 Try.f72 [.d (.int .i64 a), .d (.int .i64 b)] = some ([.one ((.int .i64 (minI a b)), false)], [])) : CallSpec Try.prog impl_functionOfTwo_4.E :=
  callSpec_of (d := 0) hX (by kernel_rfl) impl_functionOfTwo_4.I_ok (by kernel_rfl) (by kernel_rfl) (by kernel_rfl) hfn (fun xs hp => by
    dsimp only [impl_functionOfTwo_4.E] at hp ⊢
    split at hp
    · exact h _ _ hp
    · cases hp)
theorem impl_functionOfTwo_4.ok : CallSpec Try.prog impl_functionOfTwo_4.E := impl_functionOfTwo_4.ok_of (by simp [impl_functionOfTwo_4.X]) (fun ds rb dom G h qs hq => by
  dsimp only [impl_functionOfTwo_4.E] at h
  split at h
  case h_2 => cases h
  cases h
  match qs, hq with
  | [.i a, .i b], _ => rfl) fun a b _ => ⟨0, by rw [impl_functionOfTwo_4.e]⟩

namespace impl_functionOfTwo_5
noncomputable def E : Entry := ⟨73, true, false, fun | [.d (.int .i64 a), .d (.int .i64 b)] => true | _ => false, fun | [.d (.int .i64 a), .d (.int .i64 b)] => ([.one ((.int .i64 (maxI a b)), false)], []) | _ => ([], []), fun _ => [], false, fun | [] => some (false, q2, (q2v (operF 5))) | _ => none⟩
end impl_functionOfTwo_5
namespace impl_functionOfTwo_5
noncomputable def X : List Entry := []
noncomputable def I : List Inl := [⟨73, Try.f73, ⟨[], [], [], [], [], []⟩⟩]
theorem I_ok : ∀ i ∈ I, Try.prog.funcs[i.f]? = some i.fn ∧ (i.fn.name == "runtime.NumGoroutine") = false := by
  intro i hi
  simp only [I, List.mem_cons, List.not_mem_nil, or_false] at hi
  subst hi
  exact ⟨by kernel_rfl, by kernel_rfl⟩
theorem e (fuel : Nat) (p0 : Int) (p1 : Int) : runF Try.prog X I 0 fuel 73 Try.f73 [.d (.int .i64 p0), .d (.int .i64 p1)] =
  some ([.one ((.int .i64 (maxI p0 p1)), false)], []) := by kernel_rfl
end impl_functionOfTwo_5
theorem impl_functionOfTwo_5.ok_of (hX : ∀ E ∈ impl_functionOfTwo_5.X, CallSpec Try.prog E) (hfn : ∀ ds rb dom G, impl_functionOfTwo_5.E.fnOf ds = some (rb, dom, G) → ∀ qs, dom qs = true → impl_functionOfTwo_5.E.m ((qs.map fun q => .d q.d) ++ ds.map .d) = some ([.one (fnD rb (G qs), false)], [])) (h : ∀ (a : Int) (b : Int), (true) = true → ∃ fuel, runF Try.prog impl_functionOfTwo_5.X impl_functionOfTwo_5.I 0 fuel 73 Try.f73 [.d (.int .i64 a), .d (.int .i64 b)] = some ([.one ((.int .i64 (maxI a b)), false)], [])) : CallSpec Try.prog impl_functionOfTwo_5.E :=
  callSpec_of (d := 0) hX (by kernel_rfl) impl_functionOfTwo_5.I_ok (by kernel_rfl) (by kernel_rfl) (by kernel_rfl) hfn (fun xs hp => by
    dsimp only [impl_functionOfTwo_5.E] at hp ⊢
    split at hp
    · exact h _ _ hp
    · cases hp)
theorem impl_functionOfTwo_5.ok : CallSpec Try.prog impl_functionOfTwo_5.E := impl_functionOfTwo_5.ok_of (by simp [impl_functionOfTwo_5.X]) (fun ds rb dom G h qs hq => by
  dsimp only [impl_functionOfTwo_5.E] at h
  split at h
  case h_2 => cases h
  cases h
  match qs, hq with
  | [.i a, .i b], _ => rfl) fun a b _ => ⟨0, by rw [impl_functionOfTwo_5.e]⟩

namespace impl_truth
noncomputable def E : Entry := ⟨75, true, false, fun | [.d (.bool b)] => true | _ => false, fun | [.d (.bool b)] => ([.one ((.int .i64 (tInt b)), false)], []) | _ => ([], []), fun _ => [], false, fun _ => none⟩
end impl_truth
namespace impl_truth
noncomputable def X : List Entry := []
noncomputable def I : List Inl := [⟨75, Try.f75, ⟨[], [], [], [], [], []⟩⟩]
theorem I_ok : ∀ i ∈ I, Try.prog.funcs[i.f]? = some i.fn ∧ (i.fn.name == "runtime.NumGoroutine") = false := by
  intro i hi
  simp only [I, List.mem_cons, List.not_mem_nil, or_false] at hi
  subst hi
  exact ⟨by kernel_rfl, by kernel_rfl⟩
theorem e (fuel : Nat) (p0 : Bool) : runF Try.prog X I 0 fuel 75 Try.f75 [.d (.bool p0)] =
  (bif p0 then
  some ([.one ((.int .i64 1), false)], [])
  else
  some ([.one ((.int .i64 0), false)], [])) := by kernel_rfl
end impl_truth
theorem impl_truth.ok_of (hX : ∀ E ∈ impl_truth.X, CallSpec Try.prog E) (h : ∀ (b : Bool), (true) = true → ∃ fuel, runF Try.prog impl_truth.X impl_truth.I 0 fuel 75 Try.f75 [.d (.bool b)] = some ([.one ((.int .i64 (tInt b)), false)], [])) : CallSpec Try.prog impl_truth.E :=
  callSpec_of (d := 0) hX (by kernel_rfl) impl_truth.I_ok (by kernel_rfl) (by kernel_rfl) (by kernel_rfl) (fun _ _ _ _ h => by dsimp only [impl_truth.E] at h; cases h) (fun xs hp => by
    dsimp only [impl_truth.E] at hp ⊢
    split at hp
    · exact h _ hp
    · cases hp)
theorem impl_truth.ok : CallSpec Try.prog impl_truth.E := impl_truth.ok_of (by simp [impl_truth.X]) fun b _ => ⟨0, by rw [impl_truth.e]; cases b <;> rfl⟩

namespace impl_functionOfTwo_6
noncomputable def E : Entry := ⟨74, true, false, fun | [.d (.int .i64 a), .d (.int .i64 b)] => true | _ => false, fun | [.d (.int .i64 a), .d (.int .i64 b)] => ([.one ((.int .i64 (tInt (a == b))), false)], []) | _ => ([], []), fun _ => [], false, fun | [] => some (false, q2, (q2v (operF 6))) | _ => none⟩
end impl_functionOfTwo_6
namespace impl_functionOfTwo_6
noncomputable def X : List Entry := [impl_truth.E]
noncomputable def I : List Inl := [⟨74, Try.f74, ⟨[], [], [], [], [], []⟩⟩]
theorem I_ok : ∀ i ∈ I, Try.prog.funcs[i.f]? = some i.fn ∧ (i.fn.name == "runtime.NumGoroutine") = false := by
  intro i hi
  simp only [I, List.mem_cons, List.not_mem_nil, or_false] at hi
  subst hi
  exact ⟨by kernel_rfl, by kernel_rfl⟩
theorem e (fuel : Nat) (p0 : Int) (p1 : Int) : runF Try.prog X I 0 fuel 74 Try.f74 [.d (.int .i64 p0), .d (.int .i64 p1)] =
  some ([.one ((.int .i64 (tInt (((p0 : Int) == p1)))), false)], []) := by kernel_rfl
end impl_functionOfTwo_6
theorem impl_functionOfTwo_6.ok_of (hX : ∀ E ∈ impl_functionOfTwo_6.X, CallSpec Try.prog E) (hfn : ∀ ds rb dom G, impl_functionOfTwo_6.E.fnOf ds = some (rb, dom, G) → ∀ qs, dom qs = true → impl_functionOfTwo_6.E.m ((qs.map fun q => .d q.d) ++ ds.map .d) = some ([.one (fnD rb (G qs), false)], [])) (h : ∀ (a : Int) (b : Int), (true) = true → ∃ fuel, runF Try.prog impl_functionOfTwo_6.X impl_functionOfTwo_6.I 0 fuel 74 Try.f74 [.d (.int .i64 a), .d (.int .i64 b)] = some ([.one ((.int .i64 (tInt (a == b))), false)], [])) : CallSpec Try.prog impl_functionOfTwo_6.E :=
  callSpec_of (d := 0) hX (by kernel_rfl) impl_functionOfTwo_6.I_ok (by kernel_rfl) (by kernel_rfl) (by kernel_rfl) hfn (fun xs hp => by
    dsimp only [impl_functionOfTwo_6.E] at hp ⊢
    split at hp
    · exact h _ _ hp
    · cases hp)
theorem impl_functionOfTwo_6.ok : CallSpec Try.prog impl_functionOfTwo_6.E := impl_functionOfTwo_6.ok_of (by simp [impl_functionOfTwo_6.X, impl_truth.ok]) (fun ds rb dom G h qs hq => by
  dsimp only [impl_functionOfTwo_6.E] at h
  split at h
  case h_2 => cases h
  cases h
  match qs, hq with
  | [.i a, .i b], _ => rfl) fun a b _ => ⟨0, by rw [impl_functionOfTwo_6.e]⟩

namespace impl_functionOfTwo_7
noncomputable def E : Entry := ⟨76, true, false, fun | [.d (.int .i64 a), .d (.int .i64 b)] => true | _ => false, fun | [.d (.int .i64 a), .d (.int .i64 b)] => ([.one ((.int .i64 (tInt (decide (a < b)))), false)], []) | _ => ([], []), fun _ => [], false, fun | [] => some (false, q2, (q2v (operF 7))) | _ => none⟩
end impl_functionOfTwo_7
namespace impl_functionOfTwo_7
noncomputable def X : List Entry := [impl_truth.E]
noncomputable def I : List Inl := [⟨76, Try.f76, ⟨[], [], [], [], [], []⟩⟩]
theorem I_ok : ∀ i ∈ I, Try.prog.funcs[i.f]? = some i.fn ∧ (i.fn.name == "runtime.NumGoroutine") = false := by
  intro i hi
  simp only [I, List.mem_cons, List.not_mem_nil, or_false] at hi
  subst hi
  exact ⟨by kernel_rfl, by kernel_rfl⟩
theorem e (fuel : Nat) (p0 : Int) (p1 : Int) : runF Try.prog X I 0 fuel 76 Try.f76 [.d (.int .i64 p0), .d (.int .i64 p1)] =
  some ([.one ((.int .i64 (tInt ((decide ((p0 : Int) < p1))))), false)], []) := by kernel_rfl
end impl_functionOfTwo_7
theorem impl_functionOfTwo_7.ok_of (hX : ∀ E ∈ impl_functionOfTwo_7.X, CallSpec Try.prog E) (hfn : ∀ ds rb dom G, impl_functionOfTwo_7.E.fnOf ds = some (rb, dom, G) → ∀ qs, dom qs = true → impl_functionOfTwo_7.E.m ((qs.map fun q => .d q.d) ++ ds.map .d) = some ([.one (fnD rb (G qs), false)], [])) (h : ∀ (a : Int) (b : Int), (true) = true → ∃ fuel, runF Try.prog impl_functionOfTwo_7.X impl_functionOfTwo_7.I 0 fuel 76 Try.f76 [.d (.int .i64 a), .d (.int .i64 b)] = some ([.one ((.int .i64 (tInt (decide (a < b)))), false)], [])) : CallSpec Try.prog impl_functionOfTwo_7.E :=
  callSpec_of (d := 0) hX (by kernel_rfl) impl_functionOfTwo_7.I_ok (by kernel_rfl) (by kernel_rfl) (by kernel_rfl) hfn (fun xs hp => by
    dsimp only [impl_functionOfTwo_7.E] at hp ⊢
    split at hp
    · exact h _ _ hp
    · cases hp)
theorem impl_functionOfTwo_7.ok : CallSpec Try.prog impl_functionOfTwo_7.E := impl_functionOfTwo_7.ok_of (by simp [impl_functionOfTwo_7.X, impl_truth.ok]) (fun ds rb dom G h qs hq => by
  dsimp only [impl_functionOfTwo_7.E] at h
  split at h
  case h_2 => cases h
  cases h
  match qs, hq with
  | [.i a, .i b], _ => rfl) fun a b _ => ⟨0, by rw [impl_functionOfTwo_7.e]⟩

namespace impl_restOf
noncomputable def E : Entry := ⟨77, true, false, fun | [.d (.int .i64 d), .d (.int .i64 n)] => true | _ => false, fun | [.d (.int .i64 d), .d (.int .i64 n)] => ([.one ((.int .i64 (restV d n)), false)], []) | _ => ([], []), fun _ => [], false, fun | [] => some (false, q2, (q2v (operF 8))) | _ => none⟩
end impl_restOf
namespace impl_restOf
noncomputable def X : List Entry := []
noncomputable def I : List Inl := [⟨77, Try.f77, ⟨[], [], [], [], [], []⟩⟩]
theorem I_ok : ∀ i ∈ I, Try.prog.funcs[i.f]? = some i.fn ∧ (i.fn.name == "runtime.NumGoroutine") = false := by
  intro i hi
  simp only [I, List.mem_cons, List.not_mem_nil, or_false] at hi
  subst hi
  exact ⟨by kernel_rfl, by kernel_rfl⟩
theorem e (fuel : Nat) (p0 : Int) (p1 : Int) : runF Try.prog X I 0 fuel 77 Try.f77 [.d (.int .i64 p0), .d (.int .i64 p1)] =
  (bif (decide ((p0 : Int) ≤ 0)) then
  some ([.one ((.int .i64 p1), false)], [])
  else
  (bif decide ((p0 : Int) = 0) then
  none
  else
  (bif decide ((p0 : Int) = 0) then
  none
  else
  some ([.one ((.int .i64 (Int.tmod (IntKind.wrap .i64 ((Int.tmod p1 p0) + p0)) p0)), false)], [])))) := by kernel_rfl
end impl_restOf
theorem impl_restOf.ok_of (hX : ∀ E ∈ impl_restOf.X, CallSpec Try.prog E) (hfn : ∀ ds rb dom G, impl_restOf.E.fnOf ds = some (rb, dom, G) → ∀ qs, dom qs = true → impl_restOf.E.m ((qs.map fun q => .d q.d) ++ ds.map .d) = some ([.one (fnD rb (G qs), false)], [])) (h : ∀ (d : Int) (n : Int), (true) = true → ∃ fuel, runF Try.prog impl_restOf.X impl_restOf.I 0 fuel 77 Try.f77 [.d (.int .i64 d), .d (.int .i64 n)] = some ([.one ((.int .i64 (restV d n)), false)], [])) : CallSpec Try.prog impl_restOf.E :=
  callSpec_of (d := 0) hX (by kernel_rfl) impl_restOf.I_ok (by kernel_rfl) (by kernel_rfl) (by kernel_rfl) hfn (fun xs hp => by
    dsimp only [impl_restOf.E] at hp ⊢
    split at hp
    · exact h _ _ hp
    · cases hp)
theorem impl_restOf.ok : CallSpec Try.prog impl_restOf.E := impl_restOf.ok_of (by simp [impl_restOf.X]) (fun ds rb dom G h qs hq => by
  dsimp only [impl_restOf.E] at h
  split at h
  case h_2 => cases h
  cases h
  match qs, hq with
  | [.i a, .i b], _ => rfl) fun d n _ => ⟨0, by
  rw [impl_restOf.e]
  unfold restV
  by_cases h : d ≤ 0
  · rw [decide_eq_true h]; rfl
  · rw [decide_eq_false h, decide_eq_false (p := d = 0) (by omega)]; rfl⟩

namespace impl_functionOfTwo
noncomputable def E : Entry := ⟨51, true, false, fun | [.d (.int .i64 op)] => true | _ => false, fun | [.d (.int .i64 op)] => ([.one (.nilf, false)], []) | _ => ([], []), fun | [.d (.int .i64 op)] => [(decide (op = 1), ([.one ((.clo 68 []), false)], [])), (decide (op = 2), ([.one ((.clo 70 []), false)], [])), (decide (op = 3), ([.one ((.clo 71 []), false)], [])), (decide (op = 4), ([.one ((.clo 72 []), false)], [])), (decide (op = 5), ([.one ((.clo 73 []), false)], [])), (decide (op = 6), ([.one ((.clo 74 []), false)], [])), (decide (op = 7), ([.one ((.clo 76 []), false)], [])), (decide (op = 8), ([.one ((.clo 77 []), false)], []))] | _ => [], false, fun _ => none⟩
end impl_functionOfTwo
namespace impl_functionOfTwo
noncomputable def X : List Entry := []
noncomputable def I : List Inl := [⟨51, Try.f51, ⟨[], [], [], [], [], []⟩⟩]
theorem I_ok : ∀ i ∈ I, Try.prog.funcs[i.f]? = some i.fn ∧ (i.fn.name == "runtime.NumGoroutine") = false := by
  intro i hi
  simp only [I, List.mem_cons, List.not_mem_nil, or_false] at hi
  subst hi
  exact ⟨by kernel_rfl, by kernel_rfl⟩
theorem e (fuel : Nat) (p0 : Int) : runF Try.prog X I 0 fuel 51 Try.f51 [.d (.int .i64 p0)] =
  (bif (decide ((p0 : Int) < 0)) then
  some ([.one (.nilf, false)], [])
  else
  (bif (decide ((p0 : Int) ≥ 9)) then
  some ([.one (.nilf, false)], [])
  else
  (bif decide (p0 = ((0 : Nat) : Int)) then
  some ([.one (.nilf, false)], [])
  else
  (bif decide (p0 = ((1 : Nat) : Int)) then
  some ([.one ((.clo 68 []), false)], [])
  else
  (bif decide (p0 = ((2 : Nat) : Int)) then
  some ([.one ((.clo 70 []), false)], [])
  else
  (bif decide (p0 = ((3 : Nat) : Int)) then
  some ([.one ((.clo 71 []), false)], [])
  else
  (bif decide (p0 = ((4 : Nat) : Int)) then
  some ([.one ((.clo 72 []), false)], [])
  else
  (bif decide (p0 = ((5 : Nat) : Int)) then
  some ([.one ((.clo 73 []), false)], [])
  else
  (bif decide (p0 = ((6 : Nat) : Int)) then
  some ([.one ((.clo 74 []), false)], [])
  else
  (bif decide (p0 = ((7 : Nat) : Int)) then
  some ([.one ((.clo 76 []), false)], [])
  else
  (bif decide (p0 = ((8 : Nat) : Int)) then
  some ([.one ((.clo 77 []), false)], [])
  else
  none))))))))))) := by kernel_rfl
end impl_functionOfTwo
theorem impl_functionOfTwo.ok_of (hX : ∀ E ∈ impl_functionOfTwo.X, CallSpec Try.prog E) (h : ∀ (op : Int), (true) = true → ∃ fuel, runF Try.prog impl_functionOfTwo.X impl_functionOfTwo.I 0 fuel 51 Try.f51 [.d (.int .i64 op)] = some (bif decide (op = 1) then ([.one ((.clo 68 []), false)], []) else (bif decide (op = 2) then ([.one ((.clo 70 []), false)], []) else (bif decide (op = 3) then ([.one ((.clo 71 []), false)], []) else (bif decide (op = 4) then ([.one ((.clo 72 []), false)], []) else (bif decide (op = 5) then ([.one ((.clo 73 []), false)], []) else (bif decide (op = 6) then ([.one ((.clo 74 []), false)], []) else (bif decide (op = 7) then ([.one ((.clo 76 []), false)], []) else (bif decide (op = 8) then ([.one ((.clo 77 []), false)], []) else ([.one (.nilf, false)], [])))))))))) : CallSpec Try.prog impl_functionOfTwo.E :=
  callSpec_of (d := 0) hX (by kernel_rfl) impl_functionOfTwo.I_ok (by kernel_rfl) (by kernel_rfl) (by kernel_rfl) (fun _ _ _ _ h => by dsimp only [impl_functionOfTwo.E] at h; cases h) (fun xs hp => by
    dsimp only [impl_functionOfTwo.E] at hp ⊢
    split at hp
    · exact h _ hp
    · cases hp)
theorem impl_functionOfTwo.ok : CallSpec Try.prog impl_functionOfTwo.E := impl_functionOfTwo.ok_of (by simp [impl_functionOfTwo.X]) fun op _ => ⟨0, by
  rw [impl_functionOfTwo.e]
  cases ho : opOk op with
  | true => rcases opOk_cases ho with rfl | rfl | rfl | rfl | rfl | rfl | rfl | rfl <;> rfl
  | false =>
    have h := opOk_no ho
    rw [decide_eq_false (p := op = 1) (by omega), decide_eq_false (p := op = 2) (by omega), decide_eq_false (p := op = 3) (by omega), decide_eq_false (p := op = 4) (by omega),
      decide_eq_false (p := op = 5) (by omega), decide_eq_false (p := op = 6) (by omega), decide_eq_false (p := op = 7) (by omega), decide_eq_false (p := op = 8) (by omega)]
    by_cases h1 : op < 0
    · rw [decide_eq_true h1]; rfl
    · by_cases h2 : op ≥ 9
      · rw [decide_eq_false h1, decide_eq_true h2]; rfl
      · have : op = 0 := by omega
        subst this
        rfl⟩

namespace impl_functionOfTwo_f
noncomputable def E : Entry := ⟨51, true, false, fun | [.d (.int .i64 op)] => true | _ => false, fun | [.d (.int .i64 op)] => ([.one (.nilf, false)], []) | _ => ([], []), fun | [.d (.int .i64 op)] => [(opOk op, ([.one ((.fn false q2 ((q2v (operF op)))), false)], []))] | _ => [], false, fun _ => none⟩
end impl_functionOfTwo_f
theorem impl_functionOfTwo_f.ok : CallSpec Try.prog impl_functionOfTwo_f.E := CallSpec.le impl_functionOfTwo.ok rfl (fun _ _ _ _ h => by dsimp only [impl_functionOfTwo_f.E] at h; cases h) fun xs h => by
  dsimp only [impl_functionOfTwo_f.E] at h
  split at h
  case h_2 => simp at h
  rename_i op
  refine ⟨rfl, ?_⟩
  simp only [Entry.r, impl_functionOfTwo_f.E, impl_functionOfTwo.E, pickR]
  cases ho : opOk op with
  | true =>
    rcases opOk_cases ho with rfl | rfl | rfl | rfl | rfl | rfl | rfl | rfl
    · exact ⟨.one (.inr (.inr (.inr ⟨impl_functionOfTwo_1.E, [], false, q2, q2v (operF 1), impl_functionOfTwo_1.ok, rfl, rfl, rfl⟩))) .nil, rfl⟩
    · exact ⟨.one (.inr (.inr (.inr ⟨impl_functionOfTwo_2.E, [], false, q2, q2v (operF 2), impl_functionOfTwo_2.ok, rfl, rfl, rfl⟩))) .nil, rfl⟩
    · exact ⟨.one (.inr (.inr (.inr ⟨impl_functionOfTwo_3.E, [], false, q2, q2v (operF 3), impl_functionOfTwo_3.ok, rfl, rfl, rfl⟩))) .nil, rfl⟩
    · exact ⟨.one (.inr (.inr (.inr ⟨impl_functionOfTwo_4.E, [], false, q2, q2v (operF 4), impl_functionOfTwo_4.ok, rfl, rfl, rfl⟩))) .nil, rfl⟩
    · exact ⟨.one (.inr (.inr (.inr ⟨impl_functionOfTwo_5.E, [], false, q2, q2v (operF 5), impl_functionOfTwo_5.ok, rfl, rfl, rfl⟩))) .nil, rfl⟩
    · exact ⟨.one (.inr (.inr (.inr ⟨impl_functionOfTwo_6.E, [], false, q2, q2v (operF 6), impl_functionOfTwo_6.ok, rfl, rfl, rfl⟩))) .nil, rfl⟩
    · exact ⟨.one (.inr (.inr (.inr ⟨impl_functionOfTwo_7.E, [], false, q2, q2v (operF 7), impl_functionOfTwo_7.ok, rfl, rfl, rfl⟩))) .nil, rfl⟩
    · exact ⟨.one (.inr (.inr (.inr ⟨impl_restOf.E, [], false, q2, q2v (operF 8), impl_restOf.ok, rfl, rfl, rfl⟩))) .nil, rfl⟩
  | false =>
    have h := opOk_no ho
    rw [decide_eq_false (p := op = 1) (by omega), decide_eq_false (p := op = 2) (by omega), decide_eq_false (p := op = 3) (by omega), decide_eq_false (p := op = 4) (by omega),
      decide_eq_false (p := op = 5) (by omega), decide_eq_false (p := op = 6) (by omega), decide_eq_false (p := op = 7) (by omega), decide_eq_false (p := op = 8) (by omega)]
    exact ⟨.same .nil, rfl⟩

namespace spec_OuterProduct
noncomputable def E : Entry := ⟨20, false, false, fun | [.d (.int .i64 op), .d (.agg [(.ints .i64 sa), (.ints .i64 da)]), .d (.agg [(.ints .i64 sb), (.ints .i64 db)])] => decide (sa.length < 9223372036854775808) && decide (da.length < 9223372036854775808) && decide (sb.length < 9223372036854775808) && decide (db.length < 9223372036854775808) | _ => false, fun | [.d (.int .i64 op), .d (.agg [(.ints .i64 sa), (.ints .i64 da)]), .d (.agg [(.ints .i64 sb), (.ints .i64 db)])] => ([.agg [((.ints .i64 (otS op sa da sb db)), true), ((.ints .i64 (otD op sa da sb db)), true)], .one ((.bool (otB op sa da sb db)), false)], []) | _ => ([], []), fun _ => [], true, fun _ => none⟩
end spec_OuterProduct
namespace spec_OuterProduct
noncomputable def X : List Entry := [spec_validOp.E, spec_valid.E, spec_validShape.E, spec_outer.E]
noncomputable def I : List Inl := [⟨20, Try.f20, ⟨[36], [], [(1, [5])], [(1, [0, 1, 2, 3, 4, 5, 6, 7, 8, 9, 10, 11, 12, 13, 15, 18, 19, 16, 14, 17, 20, 21, 22, 23])], [27], []⟩⟩]
theorem I_ok : ∀ i ∈ I, Try.prog.funcs[i.f]? = some i.fn ∧ (i.fn.name == "runtime.NumGoroutine") = false := by
  intro i hi
  simp only [I, List.mem_cons, List.not_mem_nil, or_false] at hi
  subst hi
  exact ⟨by kernel_rfl, by kernel_rfl⟩
theorem e (fuel : Nat) (p0 : Int) (p1q0 : List Int) (p1q1 : List Int) (p2q0 : List Int) (p2q1 : List Int) : runF Try.prog X I 0 fuel 20 Try.f20 [.d (.int .i64 p0), .d (.agg [(.ints .i64 p1q0), (.ints .i64 p1q1)]), .d (.agg [(.ints .i64 p2q0), (.ints .i64 p2q1)])] =
  (bif (!(opOk p0)) then
  some ([.agg [((.ints .i64 []), true), ((.ints .i64 []), true)], .one ((.bool false), false)], [])
  else
  (bif decide (p1q0.length < 9223372036854775808) && decide (p1q1.length < 9223372036854775808) then
  (bif (!(validA p1q0 p1q1)) then
  some ([.agg [((.ints .i64 []), true), ((.ints .i64 []), true)], .one ((.bool false), false)], [])
  else
  (bif decide (p2q0.length < 9223372036854775808) && decide (p2q1.length < 9223372036854775808) then
  (bif (!(validA p2q0 p2q1)) then
  some ([.agg [((.ints .i64 []), true), ((.ints .i64 []), true)], .one ((.bool false), false)], [])
  else
  (bif fits (([] : List Int).length + p1q0.length) 8 then
  (bif fits ((([] : List Int) ++ p1q0).length + p2q0.length) 8 then
  (bif decide ((((([] : List Int) ++ p1q0) ++ p2q0)).length < 9223372036854775808) then
  (bif (!(validS (((([] : List Int) ++ p1q0) ++ p2q0)))) then
  some ([.agg [((.ints .i64 []), true), ((.ints .i64 []), true)], .one ((.bool false), false)], [])
  else
  (bif otB p0 p1q0 p1q1 p2q0 p2q1 then
  some ([.agg [((.ints .i64 (p1q0 ++ p2q0)), true), ((.ints .i64 (otN p0 p1q1 p2q1)), true)], .one ((.bool true), false)], [])
  else
  none))
  else
  none)
  else
  none)
  else
  none))
  else
  none))
  else
  none)) := by kernel_rfl
end spec_OuterProduct
theorem spec_OuterProduct.ok_of (hX : ∀ E ∈ spec_OuterProduct.X, CallSpec Try.prog E) (h : ∀ (op : Int) (sa : List Int) (da : List Int) (sb : List Int) (db : List Int), (decide (sa.length < 9223372036854775808) && decide (da.length < 9223372036854775808) && decide (sb.length < 9223372036854775808) && decide (db.length < 9223372036854775808)) = true → ∃ fuel, runF Try.prog spec_OuterProduct.X spec_OuterProduct.I 0 fuel 20 Try.f20 [.d (.int .i64 op), .d (.agg [(.ints .i64 sa), (.ints .i64 da)]), .d (.agg [(.ints .i64 sb), (.ints .i64 db)])] = some ([.agg [((.ints .i64 (otS op sa da sb db)), true), ((.ints .i64 (otD op sa da sb db)), true)], .one ((.bool (otB op sa da sb db)), false)], [])) : CallSpec Try.prog spec_OuterProduct.E :=
  callSpec_of (d := 0) hX (by kernel_rfl) spec_OuterProduct.I_ok (by kernel_rfl) (by kernel_rfl) (by kernel_rfl) (fun _ _ _ _ h => by dsimp only [spec_OuterProduct.E] at h; cases h) (fun xs hp => by
    dsimp only [spec_OuterProduct.E] at hp ⊢
    split at hp
    · exact h _ _ _ _ _ hp
    · cases hp)
theorem spec_OuterProduct.ok : CallSpec Try.prog spec_OuterProduct.E := spec_OuterProduct.ok_of (by simp [spec_OuterProduct.X, spec_validOp.ok, spec_valid.ok, spec_validShape.ok, spec_outer.ok]) fun op sa da sb db h => ⟨0, by
  simp only [Bool.and_eq_true] at h
  rw [spec_OuterProduct.e, h.1.1.1, h.1.1.2, h.1.2, h.2]
  unfold otS otD
  cases h1 : opOk op with
  | false => simp only [otB, h1]; rfl
  | true =>
    cases h2 : validA sa da with
    | false => simp only [otB, h1, h2]; rfl
    | true =>
      cases h3 : validA sb db with
      | false => simp only [otB, h1, h2, h3]; rfl
      | true =>
        have l1 := validA_len h2
        have l2 := validA_len h3
        rw [fitsOk (by simp only [List.length_nil]; omega), fitsOk (by simp only [List.length_append, List.length_nil]; omega), List.nil_append, lt_of (by simp; omega)]
        cases h4 : validS (sa ++ sb) with
        | false => simp only [otB, h1, h2, h3, h4]; rfl
        | true => simp only [otB, h1, h2, h3, h4]; rfl⟩

namespace impl_isNumber
noncomputable def E : Entry := ⟨67, true, false, fun | [.d (.int .i64 v)] => true | _ => false, fun | [.d (.int .i64 v)] => ([.one ((.bool (numB v)), false)], []) | _ => ([], []), fun _ => [], false, fun _ => none⟩
end impl_isNumber
namespace impl_isNumber
noncomputable def X : List Entry := []
noncomputable def I : List Inl := [⟨67, Try.f67, ⟨[], [], [], [], [], []⟩⟩]
theorem I_ok : ∀ i ∈ I, Try.prog.funcs[i.f]? = some i.fn ∧ (i.fn.name == "runtime.NumGoroutine") = false := by
  intro i hi
  simp only [I, List.mem_cons, List.not_mem_nil, or_false] at hi
  subst hi
  exact ⟨by kernel_rfl, by kernel_rfl⟩
theorem e (fuel : Nat) (p0 : Int) : runF Try.prog X I 0 fuel 67 Try.f67 [.d (.int .i64 p0)] =
  (bif (decide (((-1000000) : Int) ≤ p0)) then
  some ([.one ((.bool (decide ((p0 : Int) ≤ 1000000))), false)], [])
  else
  some ([.one ((.bool false), false)], [])) := by kernel_rfl
end impl_isNumber
theorem impl_isNumber.ok_of (hX : ∀ E ∈ impl_isNumber.X, CallSpec Try.prog E) (h : ∀ (v : Int), (true) = true → ∃ fuel, runF Try.prog impl_isNumber.X impl_isNumber.I 0 fuel 67 Try.f67 [.d (.int .i64 v)] = some ([.one ((.bool (numB v)), false)], [])) : CallSpec Try.prog impl_isNumber.E :=
  callSpec_of (d := 0) hX (by kernel_rfl) impl_isNumber.I_ok (by kernel_rfl) (by kernel_rfl) (by kernel_rfl) (fun _ _ _ _ h => by dsimp only [impl_isNumber.E] at h; cases h) (fun xs hp => by
    dsimp only [impl_isNumber.E] at hp ⊢
    split at hp
    · exact h _ hp
    · cases hp)
theorem impl_isNumber.ok : CallSpec Try.prog impl_isNumber.E := impl_isNumber.ok_of (by simp [impl_isNumber.X]) fun v _ => ⟨0, by
  rw [impl_isNumber.e]
  unfold numB
  cases decide (-1000000 ≤ v) <;> rfl⟩

namespace impl_ValidArray
noncomputable def E : Entry := ⟨49, true, false, fun | [.d (.agg [(.ints .i64 sh), (.ints .i64 da)])] => decide (sh.length < 9223372036854775808) && decide (da.length < 9223372036854775808) | _ => false, fun | [.d (.agg [(.ints .i64 sh), (.ints .i64 da)])] => ([.one ((.bool (validA sh da)), false)], []) | _ => ([], []), fun _ => [], false, fun _ => none⟩
end impl_ValidArray
namespace impl_ValidArray
noncomputable def X : List Entry := [impl_layoutOf.E, impl_isNumber.E]
noncomputable def I : List Inl := [⟨49, Try.f49, ⟨[10], [(1000005, [0, 1, 2, 3, 4, 5, 6, 7, 8, 9, 10, 11, 12, 13, 14, 15, 16, 17, 18, 19, 20, 21, 22, 23, 27, 28, 29, 30, 31, 32, 33])], [], [], [], []⟩⟩]
theorem I_ok : ∀ i ∈ I, Try.prog.funcs[i.f]? = some i.fn ∧ (i.fn.name == "runtime.NumGoroutine") = false := by
  intro i hi
  simp only [I, List.mem_cons, List.not_mem_nil, or_false] at hi
  subst hi
  exact ⟨by kernel_rfl, by kernel_rfl⟩
noncomputable abbrev L0 (fuel n : Nat) (s : St) (k : Kont) := lAt Try.prog X I fuel true 0 false 49 (bodyOf Try.f49) [1, 1, 1, 0, 1, 0] n s k
noncomputable abbrev k0  (fuel : Nat) : Kont := (kAt Try.prog X I fuel true 0 false 49 (bodyOf Try.f49) [1, 1, 1, 0, 1, 0] [] (endK Try.prog Try.f49))
noncomputable def t0 (p0q1 : List Int) (x0q2 : Int) : St := ⟨[.dead, .dead, .dead, .dead, .dead, .dead, .dead, .dead, .dead, .dead, .dead, .dead, .dead, .dead, .dead, .dead, .dead, .dead, .dead, .dead, .dead, .dead, .dead, .dead, (.imm (.ints .i64 p0q1)), (.imm (.int .i64 ((p0q1.length : Nat) : Int))), (.imm (.int .i64 x0q2)), .dead, .dead, .dead, .dead, .dead, .dead, .dead], hOf [], [], []⟩
theorem e (fuel : Nat) (p0q0 : List Int) (p0q1 : List Int) : runF Try.prog X I 0 fuel 49 Try.f49 [.d (.agg [(.ints .i64 p0q0), (.ints .i64 p0q1)])] =
  (bif decide (p0q0.length < 9223372036854775808) then
  (bif validS p0q0 then
  (bif ((((p0q1.length : Nat) : Int) : Int) != (volW p0q0)) then
  some ([.one ((.bool false), false)], [])
  else
  L0 fuel fuel (t0 p0q1 0) (k0  fuel))
  else
  some ([.one ((.bool false), false)], []))
  else
  none) := by kernel_rfl
theorem s0 (fuel n0 : Nat) (p0q1 : List Int) (x0q2 : Int) : L0 fuel (n0 + 1) (t0 p0q1 x0q2) (k0  fuel) =
  (bif (decide ((x0q2 : Int) < ((p0q1.length : Nat) : Int))) then
  (idx x0q2 p0q1.length).bind fun j5 =>
  (p0q1[j5]?).bind fun v6 =>
  (bif (!(numB v6)) then
  some ([.one ((.bool false), false)], [])
  else
  L0 fuel n0 (t0 p0q1 ((IntKind.wrap .i64 (x0q2 + 1)))) (k0  fuel))
  else
  some ([.one ((.bool true), false)], [])) := by kernel_rfl
end impl_ValidArray
theorem impl_ValidArray.ok_of (hX : ∀ E ∈ impl_ValidArray.X, CallSpec Try.prog E) (h : ∀ (sh : List Int) (da : List Int), (decide (sh.length < 9223372036854775808) && decide (da.length < 9223372036854775808)) = true → ∃ fuel, runF Try.prog impl_ValidArray.X impl_ValidArray.I 0 fuel 49 Try.f49 [.d (.agg [(.ints .i64 sh), (.ints .i64 da)])] = some ([.one ((.bool (validA sh da)), false)], [])) : CallSpec Try.prog impl_ValidArray.E :=
  callSpec_of (d := 0) hX (by kernel_rfl) impl_ValidArray.I_ok (by kernel_rfl) (by kernel_rfl) (by kernel_rfl) (fun _ _ _ _ h => by dsimp only [impl_ValidArray.E] at h; cases h) (fun xs hp => by
    dsimp only [impl_ValidArray.E] at hp ⊢
    split at hp
    · exact h _ _ hp
    · cases hp)
theorem impl_ValidArray.loop (fuel : Nat) (xs : List Int) (hx : xs.length < 9223372036854775808) : ∀ (m n j : Nat), xs.length - j = m → m < n → j ≤ xs.length →
    impl_ValidArray.L0 fuel n (impl_ValidArray.t0 xs (j : Int)) (impl_ValidArray.k0 fuel) = some ([.one (.bool (allB (xs.drop j) (-1000000) 1000000), false)], []) := by
  intro m
  induction m with
  | zero =>
    intro n j h1 h2 h3
    obtain ⟨n, rfl⟩ : ∃ n', n = n' + 1 := ⟨n - 1, by omega⟩
    have hj : ¬ j < xs.length := by omega
    rw [impl_ValidArray.s0, dge hj, dropE hj]
    rfl
  | succ m ih =>
    intro n j h1 h2 h3
    obtain ⟨n, rfl⟩ : ∃ n', n = n' + 1 := ⟨n - 1, by omega⟩
    have hj : j < xs.length := by omega
    rw [impl_ValidArray.s0, dlt hj, idx_nat hj, w1 (by omega), dropS hj]
    simp only [cond_true, Option.bind_some, getS hj, allB_cons, numB_eq]
    rw [ih n (j + 1) (by omega) (by omega) (by omega)]
    cases decide (-1000000 ≤ xs[j]) && decide (xs[j] ≤ 1000000) <;> rfl

theorem impl_ValidArray.ok : CallSpec Try.prog impl_ValidArray.E := impl_ValidArray.ok_of (by simp [impl_ValidArray.X, impl_layoutOf.ok, impl_isNumber.ok]) fun sh da h => by
  simp only [Bool.and_eq_true, decide_eq_true_eq] at h
  refine ⟨da.length + 1, ?_⟩
  rw [impl_ValidArray.e, lt_of h.1]
  have := impl_ValidArray.loop (da.length + 1) da h.2 da.length (da.length + 1) 0 (by omega) (by omega) (by omega)
  simp only [cond_true, List.drop_zero] at this ⊢
  rw [show ((0 : Nat) : Int) = 0 from rfl] at this
  rw [this]
  unfold validA
  cases validS sh
  · rfl
  · cases hb : (((da.length : Nat) : Int) == volW sh) with
    | true => simp [bne, hb]
    | false => simp [bne, hb]

namespace slices_Concat_int_int
noncomputable def E : Entry := ⟨38, false, false, fun | [.d (.seq 1 [(.ints .i64 xs), (.ints .i64 ys)])] => szB xs && szB ys | _ => false, fun | [.d (.seq 1 [(.ints .i64 xs), (.ints .i64 ys)])] => ([.one ((.ints .i64 (xs ++ ys)), true)], []) | _ => ([], []), fun _ => [], true, fun _ => none⟩
end slices_Concat_int_int
namespace slices_Concat_int_int
noncomputable def X : List Entry := []
noncomputable def I : List Inl := [⟨38, Try.f38, ⟨[24], [(9, [1, 2, 4, 5, 6, 7, 8, 9, 10, 11, 12, 13, 14, 15, 16, 17, 18, 19, 20, 21, 22, 23, 24, 25, 26, 27, 28, 29, 30, 31, 32, 33, 34, 35]), (1000003, [1, 2, 4, 5, 6, 7, 8, 12, 13, 14, 15, 16, 17, 18, 19, 20, 21, 22, 23, 24, 25, 26, 27, 28, 29, 30, 31, 32, 33, 34, 35]), (1000011, [0, 1, 2, 3, 4, 5, 7, 8, 9, 10, 11, 12, 13, 14, 15, 16, 17, 18, 19, 20, 21, 22, 23, 24, 28, 29, 30, 31, 32, 33, 34, 35])], [], [], [], []⟩⟩, ⟨66, Try.f66, ⟨[], [], [], [], [], []⟩⟩]
theorem I_ok : ∀ i ∈ I, Try.prog.funcs[i.f]? = some i.fn ∧ (i.fn.name == "runtime.NumGoroutine") = false := by
  intro i hi
  simp only [I, List.mem_cons, List.not_mem_nil, or_false] at hi
  rcases hi with rfl | rfl
  all_goals exact ⟨by kernel_rfl, by kernel_rfl⟩
theorem e (p0e0 : List Int) (p0e1 : List Int) : runF Try.prog X I 4 8 38 Try.f38 [.d (.seq 1 [(.ints .i64 p0e0), (.ints .i64 p0e1)])] =
  (bif (decide (((IntKind.wrap .i64 (0 + ((p0e0.length : Nat) : Int))) : Int) < 0)) then
  none
  else
  (bif (decide (((IntKind.wrap .i64 ((IntKind.wrap .i64 (0 + ((p0e0.length : Nat) : Int))) + ((p0e1.length : Nat) : Int))) : Int) < 0)) then
  none
  else
  (bif (decide (((IntKind.wrap .i64 ((IntKind.wrap .i64 (0 + ((p0e0.length : Nat) : Int))) + ((p0e1.length : Nat) : Int))) : Int) < 0)) then
  none
  else
  (bif (decide (((IntKind.wrap .i64 ((IntKind.wrap .i64 ((IntKind.wrap .i64 (0 + ((p0e0.length : Nat) : Int))) + ((p0e1.length : Nat) : Int))) - 0)) : Int) > 0)) then
  (cutEnds 0 (none) (some (.imm (.int .i64 0)))).bind fun cq3 =>
  (bif decide (0 ≤ ((IntKind.wrap .i64 ((IntKind.wrap .i64 ((IntKind.wrap .i64 (0 + ((p0e0.length : Nat) : Int))) + ((p0e1.length : Nat) : Int))) - 0)) : Int)) && fits ((IntKind.wrap .i64 ((IntKind.wrap .i64 ((IntKind.wrap .i64 (0 + ((p0e0.length : Nat) : Int))) + ((p0e1.length : Nat) : Int))) - 0))).toNat 8 then
  (cutEnds (List.replicate ((IntKind.wrap .i64 ((IntKind.wrap .i64 ((IntKind.wrap .i64 (0 + ((p0e0.length : Nat) : Int))) + ((p0e1.length : Nat) : Int))) - 0))).toNat (0 : Int)).length (none) (some (.imm (.int .i64 0)))).bind fun cq4 =>
  (bif decide (cq4.1 = 0) && decide ((cq4.2 - cq4.1) ≤ (List.replicate ((IntKind.wrap .i64 ((IntKind.wrap .i64 ((IntKind.wrap .i64 (0 + ((p0e0.length : Nat) : Int))) + ((p0e1.length : Nat) : Int))) - 0))).toNat (0 : Int)).length) && fits ((cq4.2 - cq4.1) + p0e0.length) 8 then
  (bif fits (((List.replicate ((IntKind.wrap .i64 ((IntKind.wrap .i64 ((IntKind.wrap .i64 (0 + ((p0e0.length : Nat) : Int))) + ((p0e1.length : Nat) : Int))) - 0))).toNat (0 : Int)).take ((cq4.2 - cq4.1)) ++ p0e0).length + p0e1.length) 8 then
  some ([.one ((.ints .i64 (((List.replicate ((IntKind.wrap .i64 ((IntKind.wrap .i64 ((IntKind.wrap .i64 (0 + ((p0e0.length : Nat) : Int))) + ((p0e1.length : Nat) : Int))) - 0))).toNat (0 : Int)).take ((cq4.2 - cq4.1)) ++ p0e0) ++ p0e1)), true)], [])
  else
  none)
  else
  none)
  else
  none)
  else
  (bif fits p0e0.length 8 then
  (bif fits (p0e0.length + p0e1.length) 8 then
  some ([.one ((.ints .i64 (p0e0 ++ p0e1)), true)], [])
  else
  none)
  else
  none))))) := by kernel_rfl
end slices_Concat_int_int
theorem slices_Concat_int_int.ok_of (hX : ∀ E ∈ slices_Concat_int_int.X, CallSpec Try.prog E) (h : ∀ (xs : List Int) (ys : List Int), (szB xs && szB ys) = true → ∃ fuel, runF Try.prog slices_Concat_int_int.X slices_Concat_int_int.I 4 fuel 38 Try.f38 [.d (.seq 1 [(.ints .i64 xs), (.ints .i64 ys)])] = some ([.one ((.ints .i64 (xs ++ ys)), true)], [])) : CallSpec Try.prog slices_Concat_int_int.E :=
  callSpec_of (d := 4) hX (by kernel_rfl) slices_Concat_int_int.I_ok (by kernel_rfl) (by kernel_rfl) (by kernel_rfl) (fun _ _ _ _ h => by dsimp only [slices_Concat_int_int.E] at h; cases h) (fun xs hp => by
    dsimp only [slices_Concat_int_int.E] at hp ⊢
    split at hp
    · exact h _ _ hp
    · cases hp)
theorem slices_Concat_int_int.ok : CallSpec Try.prog slices_Concat_int_int.E := slices_Concat_int_int.ok_of (by simp [slices_Concat_int_int.X]) fun xs ys h => ⟨8, by
  simp only [Bool.and_eq_true] at h
  have h1 := szB_le h.1
  have h2 := szB_le h.2
  have e0 : IntKind.wrap .i64 (0 + ((xs.length : Nat) : Int)) = ((xs.length : Nat) : Int) := by rw [Int.zero_add, wN (by omega)]
  have e1 : IntKind.wrap .i64 (((xs.length : Nat) : Int) + ((ys.length : Nat) : Int)) = ((xs.length + ys.length : Nat) : Int) := wAdd (by omega)
  have e2 : IntKind.wrap .i64 (((xs.length + ys.length : Nat) : Int) - 0) = ((xs.length + ys.length : Nat) : Int) := by rw [Int.sub_zero, wN (by omega)]
  rw [slices_Concat_int_int.e, e0, e1, e2, decide_eq_false (p := ((xs.length : Nat) : Int) < 0) (by omega), decide_eq_false (p := ((xs.length + ys.length : Nat) : Int) < 0) (by omega), cond_false, cond_false, cond_false]
  by_cases h0 : ((xs.length + ys.length : Nat) : Int) > 0
  · rw [decide_eq_true h0, cond_true, Int.toNat_natCast, show (some (AV.imm (.int .i64 0)) : Option AV) = some (.imm (.int .i64 ((0 : Nat) : Int))) from rfl, cut_hi (Nat.le_refl 0), cut_hi (Nat.zero_le _)]
    simp only [Option.bind_some]
    rw [decide_eq_true (p := (0 : Int) ≤ ((xs.length + ys.length : Nat) : Int)) (by omega), fitsOk (by omega)]
    simp only [Nat.sub_self, List.take_zero, List.nil_append, Nat.zero_le, decide_true, Bool.and_self, Bool.true_and, cond_true, Nat.zero_add]
    rw [fitsOk (by omega), cond_true, fitsOk (by omega), cond_true]
  · rw [decide_eq_false h0, cond_false, fitsOk (by omega), cond_true, fitsOk (by omega), cond_true]⟩

namespace impl_OuterProduct_1
noncomputable def E : Entry := ⟨52, true, false, fun | [.d (.int .i64 n), .d (.pbox [(.fn false dom G)]), .d (.pbox [(.ints .i64 sa), (.ints .i64 da)]), .d (.pbox [(.int .i64 c)]), .d (.pbox [(.ints .i64 sb), (.ints .i64 db)])] => otP dom da db c n | _ => false, fun | [.d (.int .i64 n), .d (.pbox [(.fn false dom G)]), .d (.pbox [(.ints .i64 sa), (.ints .i64 da)]), .d (.pbox [(.int .i64 c)]), .d (.pbox [(.ints .i64 sb), (.ints .i64 db)])] => ([.one ((.int .i64 (G [.i (da.getD (n.toNat / db.length) 0), .i (db.getD (n.toNat % db.length) 0)])), false)], []) | _ => ([], []), fun _ => [], false, fun _ => none⟩
end impl_OuterProduct_1
namespace impl_OuterProduct_1
noncomputable def X : List Entry := []
noncomputable def I : List Inl := [⟨52, Try.f52, ⟨[], [], [], [(1, [1, 3, 8, 10, 0, 2, 4, 5, 6, 7, 9, 11, 12, 13, 14, 15, 16])], [], []⟩⟩]
theorem I_ok : ∀ i ∈ I, Try.prog.funcs[i.f]? = some i.fn ∧ (i.fn.name == "runtime.NumGoroutine") = false := by
  intro i hi
  simp only [I, List.mem_cons, List.not_mem_nil, or_false] at hi
  subst hi
  exact ⟨by kernel_rfl, by kernel_rfl⟩
theorem e (fuel : Nat) (p0 : Int) (f0q0d : List Q → Bool) (f0q0g : List Q → Int) (f1q0 : List Int) (f1q1 : List Int) (f2q0 : Int) (f3q0 : List Int) (f3q1 : List Int) : runF Try.prog X I 0 fuel 52 Try.f52 [.d (.int .i64 p0), .d (.pbox [(.fn false f0q0d f0q0g)]), .d (.pbox [(.ints .i64 f1q0), (.ints .i64 f1q1)]), .d (.pbox [(.int .i64 f2q0)]), .d (.pbox [(.ints .i64 f3q0), (.ints .i64 f3q1)])] =
  (bif decide ((f2q0 : Int) = 0) then
  none
  else
  (idx (IntKind.wrap .i64 (Int.tdiv p0 f2q0)) f1q1.length).bind fun j1 =>
  (f1q1[j1]?).bind fun v2 =>
  (bif decide ((f2q0 : Int) = 0) then
  none
  else
  (idx (Int.tmod p0 f2q0) f3q1.length).bind fun j3 =>
  (f3q1[j3]?).bind fun v4 =>
  (bif (f0q0d [Q.i v2, Q.i v4]) then
  some ([.one ((.int .i64 (f0q0g [Q.i v2, Q.i v4])), false)], [])
  else
  none))) := by kernel_rfl
end impl_OuterProduct_1
theorem impl_OuterProduct_1.ok_of (hX : ∀ E ∈ impl_OuterProduct_1.X, CallSpec Try.prog E) (h : ∀ (n : Int) (dom : List Q → Bool) (G : List Q → Int) (sa : List Int) (da : List Int) (c : Int) (sb : List Int) (db : List Int), (otP dom da db c n) = true → ∃ fuel, runF Try.prog impl_OuterProduct_1.X impl_OuterProduct_1.I 0 fuel 52 Try.f52 [.d (.int .i64 n), .d (.pbox [(.fn false dom G)]), .d (.pbox [(.ints .i64 sa), (.ints .i64 da)]), .d (.pbox [(.int .i64 c)]), .d (.pbox [(.ints .i64 sb), (.ints .i64 db)])] = some ([.one ((.int .i64 (G [.i (da.getD (n.toNat / db.length) 0), .i (db.getD (n.toNat % db.length) 0)])), false)], [])) : CallSpec Try.prog impl_OuterProduct_1.E :=
  callSpec_of (d := 0) hX (by kernel_rfl) impl_OuterProduct_1.I_ok (by kernel_rfl) (by kernel_rfl) (by kernel_rfl) (fun _ _ _ _ h => by dsimp only [impl_OuterProduct_1.E] at h; cases h) (fun xs hp => by
    dsimp only [impl_OuterProduct_1.E] at hp ⊢
    split at hp
    · exact h _ _ _ _ _ _ _ _ hp
    · cases hp)
theorem impl_OuterProduct_1.ok : CallSpec Try.prog impl_OuterProduct_1.E := impl_OuterProduct_1.ok_of (by simp [impl_OuterProduct_1.X]) fun n dom G sa da c sb db h => ⟨0, by
  simp only [otP, Bool.and_eq_true, decide_eq_true_eq] at h
  obtain ⟨⟨⟨⟨rfl, h0⟩, h1⟩, h60⟩, hd⟩ := h
  obtain ⟨n', rfl⟩ : ∃ n' : Nat, n = n' := ⟨n.toNat, by omega⟩
  rw [Int.toNat_natCast] at hd
  obtain ⟨d1, d2, d3⟩ := dec2 (n := n') (B := da.length) (M := db.length) (by omega)
  have hle : n' / db.length ≤ n' := Nat.div_le_self _ _
  have f1 := wN (n := n' / db.length) (by omega)
  have p1 : ¬ (((db.length : Nat) : Int) = 0) := by omega
  have i1 := idx_nat d1
  have i2 := idx_nat d2
  rw [impl_OuterProduct_1.e]
  simp only [tdivN, tmodN, f1, i1, i2, Option.bind_some, getD_get d1, getD_get d2, Int.toNat_natCast]
  rw [decide_eq_false p1, cond_false, cond_false, hd]
  rfl⟩

namespace impl_OuterProduct
noncomputable def E : Entry := ⟨21, false, false, fun | [.d (.int .i64 op), .d (.agg [(.ints .i64 sa), (.ints .i64 da)]), .d (.agg [(.ints .i64 sb), (.ints .i64 db)])] => decide (sa.length < 9223372036854775808) && decide (da.length < 9223372036854775808) && decide (sb.length < 9223372036854775808) && decide (db.length < 9223372036854775808) | _ => false, fun | [.d (.int .i64 op), .d (.agg [(.ints .i64 sa), (.ints .i64 da)]), .d (.agg [(.ints .i64 sb), (.ints .i64 db)])] => ([.agg [((.ints .i64 (otS op sa da sb db)), true), ((.ints .i64 (otD op sa da sb db)), true)], .one ((.bool (otB op sa da sb db)), false)], []) | _ => ([], []), fun _ => [], true, fun _ => none⟩
end impl_OuterProduct
namespace impl_OuterProduct
noncomputable def X : List Entry := [impl_functionOfTwo_f.E, impl_ValidArray.E, slices_Concat_int_int.E, impl_layoutOf_j.E, impl_OuterProduct_1.E]
noncomputable def I : List Inl := [⟨21, Try.f21, ⟨[33, 35], [(5, [0, 1, 2, 3, 7, 10, 11, 12, 13, 14, 15, 16, 17, 18, 19, 20, 21, 22, 23, 24, 25, 26, 27, 28, 29, 30, 31, 32, 33, 34, 35, 36, 37])], [(5, [8, 4, 9, 5])], [], [32], []⟩⟩, ⟨39, Try.f39, ⟨[12], [(1000006, [2, 3, 5, 6, 7, 9, 10, 11, 12, 13, 14, 15, 16, 17, 18, 19, 20, 21, 24, 25, 26, 27, 28, 29, 30, 31, 32, 33, 34, 35])], [], [], [], []⟩⟩]
theorem I_ok : ∀ i ∈ I, Try.prog.funcs[i.f]? = some i.fn ∧ (i.fn.name == "runtime.NumGoroutine") = false := by
  intro i hi
  simp only [I, List.mem_cons, List.not_mem_nil, or_false] at hi
  rcases hi with rfl | rfl
  all_goals exact ⟨by kernel_rfl, by kernel_rfl⟩
noncomputable abbrev L0 (fuel n : Nat) (s : St) (k : Kont) := lAt Try.prog X I fuel true 3 false 39 (bodyOf Try.f39) [1, 1, 1, 1, 0, 1, 0] n s k
noncomputable abbrev k0  (fuel : Nat) : Kont := (kAt Try.prog X I fuel true 3 false 39 (bodyOf Try.f39) [1, 1, 1, 1, 0, 1, 0] [] (endFn Try.prog Try.f39 38 (kOp Try.prog X I fuel true 4 21 (cAt (bodyOf Try.f21) [1, 1, 1, 1, 0]) 7 (kAt Try.prog X I fuel true 4 false 21 (bodyOf Try.f21) [1, 1, 1, 1, 0] [] (endK Try.prog Try.f21)))))
noncomputable def t0 (p0 : Int) (p1q0 : List Int) (p1q1 : List Int) (p2q1 : List Int) (p2q0 : List Int) (x0q8 : Int) (x0q10 : List Int) : St := ⟨[(.all 1000000001 1), (.imm (.clo 52 [(.pbox [(.fn false q2 ((q2v (operF p0))))]), (.pbox [(.ints .i64 p1q0), (.ints .i64 p1q1)]), (.pbox [(.int .i64 ((p2q1.length : Nat) : Int))]), (.pbox [(.ints .i64 p2q0), (.ints .i64 p2q1)])])), .dead, .dead, (.ptr 1000000002 0 0), .dead, .dead, .dead, (.all 1000000003 1), .dead, .dead, .dead, .dead, .dead, .dead, .dead, .dead, .dead, .dead, .dead, .dead, .dead, (.imm (.int .i64 (((List.replicate ((volW ((p1q0 ++ p2q0)))).toNat (0 : Int)).length : Nat) : Int))), (.imm (.int .i64 x0q8)), .dead, .dead, .dead, .dead, .dead, .dead, .dead, .dead, .dead, .dead, .dead, .dead], hOf [(1000000000, (.box [(.imm .nils), (.imm .nils)])), (1000000001, (.ints .i64 (p1q0 ++ p2q0))), (1000000002, (.box [(.imm .nils), (.imm .nils)])), (1000000003, (.ints .i64 x0q10))], [.dead, .dead, .dead, .dead, (.dptr [(.ints .i64 p1q0), (.ints .i64 p1q1)] 0), (.dptr [(.ints .i64 p2q0), (.ints .i64 p2q1)] 0), (.ptr 1000000000 0 0), .dead, (.dptr [(.fn false q2 ((q2v (operF p0))))] 0), (.dptr [(.int .i64 ((p2q1.length : Nat) : Int))] 0), .dead, .dead, .dead, .dead, .dead, .dead, .dead, .dead, .dead, .dead, .dead, .dead, .dead, .dead, .dead, .dead, .dead, .dead, (.dptr [(.ints .i64 p1q0), (.ints .i64 p1q1)] 0), (.imm (.ints .i64 p1q0)), (.dptr [(.ints .i64 p2q0), (.ints .i64 p2q1)] 0), (.imm (.ints .i64 p2q0)), (.imm (.seq 1 [(.ints .i64 p1q0), (.ints .i64 p2q0)])), (.all 1000000001 1), (.imm (.clo 52 [(.pbox [(.fn false q2 ((q2v (operF p0))))]), (.pbox [(.ints .i64 p1q0), (.ints .i64 p1q1)]), (.pbox [(.int .i64 ((p2q1.length : Nat) : Int))]), (.pbox [(.ints .i64 p2q0), (.ints .i64 p2q1)])])), .dead, .dead, .dead, (.tup [])], []⟩
theorem e (fuel : Nat) (p0 : Int) (p1q0 : List Int) (p1q1 : List Int) (p2q0 : List Int) (p2q1 : List Int) : runF Try.prog X I 4 fuel 21 Try.f21 [.d (.int .i64 p0), .d (.agg [(.ints .i64 p1q0), (.ints .i64 p1q1)]), .d (.agg [(.ints .i64 p2q0), (.ints .i64 p2q1)])] =
  (bif opOk p0 then
  (bif decide (p1q0.length < 9223372036854775808) && decide (p1q1.length < 9223372036854775808) then
  (bif (!(validA p1q0 p1q1)) then
  some ([.agg [((.ints .i64 []), true), ((.ints .i64 []), true)], .one ((.bool false), false)], [])
  else
  (bif decide (p2q0.length < 9223372036854775808) && decide (p2q1.length < 9223372036854775808) then
  (bif (!(validA p2q0 p2q1)) then
  some ([.agg [((.ints .i64 []), true), ((.ints .i64 []), true)], .one ((.bool false), false)], [])
  else
  (bif szB p1q0 && szB p2q0 then
  (bif decide (((p1q0 ++ p2q0)).length < 9223372036854775808) then
  (bif validS ((p1q0 ++ p2q0)) then
  (bif decide (0 ≤ ((volW ((p1q0 ++ p2q0))) : Int)) && decide (((volW ((p1q0 ++ p2q0))) : Int) ≤ (volW ((p1q0 ++ p2q0)))) && decide (((volW ((p1q0 ++ p2q0))) : Int) ≤ 1152921504606846976) && decide (((8 : Nat) : Int) * (volW ((p1q0 ++ p2q0))) ≤ 281474976710656) then
  L0 fuel fuel (t0 p0 p1q0 p1q1 p2q1 p2q0 0 ((List.replicate ((volW ((p1q0 ++ p2q0)))).toNat (0 : Int)))) (k0  fuel)
  else
  none)
  else
  some ([.agg [((.ints .i64 []), true), ((.ints .i64 []), true)], .one ((.bool false), false)], []))
  else
  none)
  else
  none))
  else
  none))
  else
  none)
  else
  some ([.agg [((.ints .i64 []), true), ((.ints .i64 []), true)], .one ((.bool false), false)], [])) := by kernel_rfl
theorem s0 (fuel n0 : Nat) (p0 : Int) (p1q0 : List Int) (p1q1 : List Int) (p2q1 : List Int) (p2q0 : List Int) (x0q8 : Int) (x0q10 : List Int) : L0 fuel (n0 + 1) (t0 p0 p1q0 p1q1 p2q1 p2q0 x0q8 x0q10) (k0  fuel) =
  (bif (decide ((x0q8 : Int) < (((List.replicate ((volW ((p1q0 ++ p2q0)))).toNat (0 : Int)).length : Nat) : Int))) then
  (bif otP q2 p1q1 p2q1 (((p2q1.length : Nat) : Int)) x0q8 then
  (idx x0q8 x0q10.length).bind fun j3 =>
  (bif decide (j3 < x0q10.length) then
  L0 fuel n0 (t0 p0 p1q0 p1q1 p2q1 p2q0 ((IntKind.wrap .i64 (x0q8 + 1))) ((x0q10.set j3 (((q2v (operF p0))) [.i (p1q1.getD (x0q8.toNat / p2q1.length) 0), .i (p2q1.getD (x0q8.toNat % p2q1.length) 0)])))) (k0  fuel)
  else
  none)
  else
  none)
  else
  some ([.agg [((.ints .i64 (p1q0 ++ p2q0)), true), ((.ints .i64 x0q10), true)], .one ((.bool true), false)], [])) := by kernel_rfl
end impl_OuterProduct
theorem impl_OuterProduct.ok_of (hX : ∀ E ∈ impl_OuterProduct.X, CallSpec Try.prog E) (h : ∀ (op : Int) (sa : List Int) (da : List Int) (sb : List Int) (db : List Int), (decide (sa.length < 9223372036854775808) && decide (da.length < 9223372036854775808) && decide (sb.length < 9223372036854775808) && decide (db.length < 9223372036854775808)) = true → ∃ fuel, runF Try.prog impl_OuterProduct.X impl_OuterProduct.I 4 fuel 21 Try.f21 [.d (.int .i64 op), .d (.agg [(.ints .i64 sa), (.ints .i64 da)]), .d (.agg [(.ints .i64 sb), (.ints .i64 db)])] = some ([.agg [((.ints .i64 (otS op sa da sb db)), true), ((.ints .i64 (otD op sa da sb db)), true)], .one ((.bool (otB op sa da sb db)), false)], [])) : CallSpec Try.prog impl_OuterProduct.E :=
  callSpec_of (d := 4) hX (by kernel_rfl) impl_OuterProduct.I_ok (by kernel_rfl) (by kernel_rfl) (by kernel_rfl) (fun _ _ _ _ h => by dsimp only [impl_OuterProduct.E] at h; cases h) (fun xs hp => by
    dsimp only [impl_OuterProduct.E] at hp ⊢
    split at hp
    · exact h _ _ _ _ _ hp
    · cases hp)
theorem impl_OuterProduct.loop (fuel : Nat) (op : Int) (sa da sb db : List Int) (hvol : (volW (sa ++ sb)).toNat = da.length * db.length) (h60 : da.length * db.length ≤ 60) (hf : 60 < fuel) :
    impl_OuterProduct.L0 fuel fuel (impl_OuterProduct.t0 op sa da db sb 0 (List.replicate (volW (sa ++ sb)).toNat 0)) (impl_OuterProduct.k0 fuel) = some ([.agg [((.ints .i64 (sa ++ sb)), true), ((.ints .i64 (otN op da db)), true)], .one ((.bool true), false)], []) := by
  have hA : (otN op da db).length = da.length * db.length := by simp only [otN, tab_length]
  rw [hvol]
  refine run_loop (N := da.length * db.length) (fun n j out => impl_OuterProduct.L0 fuel n (impl_OuterProduct.t0 op sa da db sb (j : Int) out) (impl_OuterProduct.k0 fuel)) (fun j out => out = part (otN op da db) j) ?_ ?_ fuel 0 _ (by omega) (by omega) (by rw [part_zero, hA])
  · intro n out ho
    have hall := part_all (otN op da db)
    rw [hA] at hall
    rw [hall] at ho
    rw [impl_OuterProduct.s0]
    simp only [hvol, List.length_replicate]
    rw [dge (by omega), cond_false, ho]
  · intro n j out hj ho
    have hol : out.length = da.length * db.length := by rw [ho, part_length (by omega), hA]
    have hq : otP q2 da db ((db.length : Nat) : Int) (j : Int) = true := by
      simp only [otP, q2, Bool.and_eq_true, decide_eq_true_eq]
      refine ⟨⟨⟨⟨trivial, by omega⟩, by omega⟩, h60⟩, trivial⟩
    rw [impl_OuterProduct.s0]
    simp only [hvol, List.length_replicate]
    rw [dlt hj, cond_true, hq, idx_nat (by omega), w1 (by omega)]
    simp only [cond_true, Option.bind_some, Int.toNat_natCast]
    rw [decide_eq_true (by omega), cond_true]
    refine ⟨_, ?_, rfl⟩
    rw [ho, part_set (by omega)]
    simp only [otN]
    rw [tab_getD hj]
    rfl
theorem impl_OuterProduct.ok : CallSpec Try.prog impl_OuterProduct.E := impl_OuterProduct.ok_of (by simp [impl_OuterProduct.X, impl_functionOfTwo_f.ok, impl_ValidArray.ok, slices_Concat_int_int.ok, impl_layoutOf_j.ok, impl_OuterProduct_1.ok]) fun op sa da sb db h => by
  obtain ⟨F, hF⟩ : ∃ F : Nat, 60 < F := ⟨61, by omega⟩
  refine ⟨F, ?_⟩
  simp only [Bool.and_eq_true] at h
  rw [impl_OuterProduct.e, h.1.1.1, h.1.1.2, h.1.2, h.2]
  unfold otS otD
  cases hb : otB op sa da sb db with
  | true =>
    obtain ⟨h1, h2, h3, h4, h5, h6⟩ := otB_inv hb
    have l1 := validA_len h2
    have l2 := validA_len h3
    have hvb := vol_bd h4
    rw [h1, h2, h3, szB_of (by omega), szB_of (by omega), lt_of (by simp; omega), h4, mkOk hvb.1 (by omega)]
    simp only [Bool.and_self, cond_true, cond_false, Bool.not_true]
    exact impl_OuterProduct.loop F op sa da sb db (by rw [h5]; rfl) h6 hF
  | false =>
    cases h1 : opOk op with
    | false => rfl
    | true =>
      cases h2 : validA sa da with
      | false => rfl
      | true =>
        cases h3 : validA sb db with
        | false => rfl
        | true =>
          have l1 := validA_len h2
          have l2 := validA_len h3
          cases h4 : validS (sa ++ sb) with
          | true => simp only [otB, h1, h2, h3, h4, Bool.and_self] at hb; cases hb
          | false =>
            rw [szB_of (by omega), szB_of (by omega), lt_of (by simp; omega)]
            rfl

namespace laws_eqIntS
noncomputable def E : Entry := ⟨42, true, false, fun | [.d (.ints .i64 xs), .d (.ints .i64 ys)] => decide (xs.length < 9223372036854775808) && decide (ys.length < 9223372036854775808) | _ => false, fun | [.d (.ints .i64 xs), .d (.ints .i64 ys)] => ([.one ((.bool (decide (xs = ys))), false)], []) | _ => ([], []), fun _ => [], false, fun _ => none⟩
end laws_eqIntS
namespace laws_eqIntS
noncomputable def X : List Entry := []
noncomputable def I : List Inl := [⟨42, Try.f42, ⟨[], [(1000004, [2, 3, 4, 6, 7, 8, 9, 10, 11, 12, 13, 14, 15, 16, 17, 18, 19, 20, 21, 22, 23, 24, 25])], [], [(6, [0, 1, 4, 5, 2, 3, 6, 7, 8])], [], []⟩⟩]
theorem I_ok : ∀ i ∈ I, Try.prog.funcs[i.f]? = some i.fn ∧ (i.fn.name == "runtime.NumGoroutine") = false := by
  intro i hi
  simp only [I, List.mem_cons, List.not_mem_nil, or_false] at hi
  subst hi
  exact ⟨by kernel_rfl, by kernel_rfl⟩
noncomputable abbrev L0 (fuel n : Nat) (s : St) (k : Kont) := lAt Try.prog X I fuel true 0 false 42 (bodyOf Try.f42) [1, 1, 0, 1, 0] n s k
noncomputable abbrev k0  (fuel : Nat) : Kont := (kAt Try.prog X I fuel true 0 false 42 (bodyOf Try.f42) [1, 1, 0, 1, 0] [] (endK Try.prog Try.f42))
noncomputable def t0 (p0 : List Int) (p1 : List Int) (x0q2 : Int) : St := ⟨[(.imm (.ints .i64 p0)), (.imm (.ints .i64 p1)), .dead, .dead, .dead, (.imm (.int .i64 x0q2)), .dead, .dead, .dead, .dead, .dead, .dead, .dead, .dead, .dead, .dead, .dead, .dead, .dead, .dead, .dead, .dead, .dead, .dead, .dead, .dead], hOf [], [], []⟩
theorem e (fuel : Nat) (p0 : List Int) (p1 : List Int) : runF Try.prog X I 0 fuel 42 Try.f42 [.d (.ints .i64 p0), .d (.ints .i64 p1)] =
  (bif ((((p0.length : Nat) : Int) : Int) != ((p1.length : Nat) : Int)) then
  some ([.one ((.bool false), false)], [])
  else
  L0 fuel fuel (t0 p0 p1 0) (k0  fuel)) := by kernel_rfl
theorem s0 (fuel n0 : Nat) (p0 : List Int) (p1 : List Int) (x0q2 : Int) : L0 fuel (n0 + 1) (t0 p0 p1 x0q2) (k0  fuel) =
  (bif (decide ((x0q2 : Int) < ((p0.length : Nat) : Int))) then
  (idx x0q2 p0.length).bind fun j9 =>
  (p0[j9]?).bind fun v10 =>
  (idx x0q2 p1.length).bind fun j11 =>
  (p1[j11]?).bind fun v12 =>
  (bif ((v10 : Int) != v12) then
  some ([.one ((.bool false), false)], [])
  else
  L0 fuel n0 (t0 p0 p1 ((IntKind.wrap .i64 (x0q2 + 1)))) (k0  fuel))
  else
  some ([.one ((.bool true), false)], [])) := by kernel_rfl
end laws_eqIntS
theorem laws_eqIntS.ok_of (hX : ∀ E ∈ laws_eqIntS.X, CallSpec Try.prog E) (h : ∀ (xs : List Int) (ys : List Int), (decide (xs.length < 9223372036854775808) && decide (ys.length < 9223372036854775808)) = true → ∃ fuel, runF Try.prog laws_eqIntS.X laws_eqIntS.I 0 fuel 42 Try.f42 [.d (.ints .i64 xs), .d (.ints .i64 ys)] = some ([.one ((.bool (decide (xs = ys))), false)], [])) : CallSpec Try.prog laws_eqIntS.E :=
  callSpec_of (d := 0) hX (by kernel_rfl) laws_eqIntS.I_ok (by kernel_rfl) (by kernel_rfl) (by kernel_rfl) (fun _ _ _ _ h => by dsimp only [laws_eqIntS.E] at h; cases h) (fun xs hp => by
    dsimp only [laws_eqIntS.E] at hp ⊢
    split at hp
    · exact h _ _ hp
    · cases hp)
theorem laws_eqIntS.loop (fuel : Nat) (xs ys : List Int) (hl : xs.length = ys.length) (hx : xs.length < 9223372036854775808) : ∀ (m n j : Nat), xs.length - j = m → m < n → j ≤ xs.length →
    laws_eqIntS.L0 fuel n (laws_eqIntS.t0 xs ys (j : Int)) (laws_eqIntS.k0 fuel) = some ([.one (.bool (decide (xs.drop j = ys.drop j)), false)], []) := by
  intro m
  induction m with
  | zero =>
    intro n j h1 h2 h3
    obtain ⟨n, rfl⟩ : ∃ n', n = n' + 1 := ⟨n - 1, by omega⟩
    have hj : ¬ j < xs.length := by omega
    rw [laws_eqIntS.s0, dge hj, dropE hj, dropE (xs := ys) (by omega)]
    rfl
  | succ m ih =>
    intro n j h1 h2 h3
    obtain ⟨n, rfl⟩ : ∃ n', n = n' + 1 := ⟨n - 1, by omega⟩
    have hj : j < xs.length := by omega
    have hj2 : j < ys.length := by omega
    rw [laws_eqIntS.s0, dlt hj, idx_nat hj, idx_nat hj2, w1 (by omega), dropS hj, dropS hj2]
    simp only [cond_true, Option.bind_some, getS hj, getS hj2]
    rw [ih n (j + 1) (by omega) (by omega) (by omega)]
    by_cases hv : xs[j] = ys[j]
    · rw [hv]
      simp only [bne_self_eq_false, cond_false, List.cons.injEq, true_and]
    · have : (xs[j] != ys[j]) = true := by simp [hv]
      rw [this]
      simp only [cond_true, List.cons.injEq, hv, false_and, decide_false]

theorem laws_eqIntS.ok : CallSpec Try.prog laws_eqIntS.E := laws_eqIntS.ok_of (by simp [laws_eqIntS.X]) fun xs ys h => by
  simp only [Bool.and_eq_true, decide_eq_true_eq] at h
  refine ⟨xs.length + 1, ?_⟩
  rw [laws_eqIntS.e]
  by_cases hl : xs.length = ys.length
  · have := laws_eqIntS.loop (xs.length + 1) xs ys hl h.1 xs.length (xs.length + 1) 0 (by omega) (by omega) (by omega)
    simp only [List.drop_zero] at this
    simp only [hl, bne_self_eq_false, cond_false]
    rw [← hl]
    exact this
  · have hne : xs ≠ ys := fun e => hl (e ▸ rfl)
    have : (((xs.length : Nat) : Int) != ((ys.length : Nat) : Int)) = true := by simp; omega
    rw [this]
    simp [hne]

namespace laws_eqArray
noncomputable def E : Entry := ⟨13, true, false, fun | [.d (.agg [(.ints .i64 sa), (.ints .i64 da)]), .d (.agg [(.ints .i64 sb), (.ints .i64 db)])] => decide (sa.length < 9223372036854775808) && decide (da.length < 9223372036854775808) && decide (sb.length < 9223372036854775808) && decide (db.length < 9223372036854775808) | _ => false, fun | [.d (.agg [(.ints .i64 sa), (.ints .i64 da)]), .d (.agg [(.ints .i64 sb), (.ints .i64 db)])] => ([.one ((.bool (decide (sa = sb) && decide (da = db))), false)], []) | _ => ([], []), fun _ => [], false, fun _ => none⟩
end laws_eqArray
namespace laws_eqArray
noncomputable def X : List Entry := [laws_eqIntS.E]
noncomputable def I : List Inl := [⟨13, Try.f13, ⟨[], [], [], [], [], []⟩⟩]
theorem I_ok : ∀ i ∈ I, Try.prog.funcs[i.f]? = some i.fn ∧ (i.fn.name == "runtime.NumGoroutine") = false := by
  intro i hi
  simp only [I, List.mem_cons, List.not_mem_nil, or_false] at hi
  subst hi
  exact ⟨by kernel_rfl, by kernel_rfl⟩
theorem e (fuel : Nat) (p0q0 : List Int) (p0q1 : List Int) (p1q0 : List Int) (p1q1 : List Int) : runF Try.prog X I 0 fuel 13 Try.f13 [.d (.agg [(.ints .i64 p0q0), (.ints .i64 p0q1)]), .d (.agg [(.ints .i64 p1q0), (.ints .i64 p1q1)])] =
  (bif decide (p0q0.length < 9223372036854775808) && decide (p1q0.length < 9223372036854775808) then
  (bif (!(decide (p0q0 = p1q0))) then
  some ([.one ((.bool false), false)], [])
  else
  (bif decide (p0q1.length < 9223372036854775808) && decide (p1q1.length < 9223372036854775808) then
  (bif (!(decide (p0q1 = p1q1))) then
  some ([.one ((.bool false), false)], [])
  else
  some ([.one ((.bool true), false)], []))
  else
  none))
  else
  none) := by kernel_rfl
end laws_eqArray
theorem laws_eqArray.ok_of (hX : ∀ E ∈ laws_eqArray.X, CallSpec Try.prog E) (h : ∀ (sa : List Int) (da : List Int) (sb : List Int) (db : List Int), (decide (sa.length < 9223372036854775808) && decide (da.length < 9223372036854775808) && decide (sb.length < 9223372036854775808) && decide (db.length < 9223372036854775808)) = true → ∃ fuel, runF Try.prog laws_eqArray.X laws_eqArray.I 0 fuel 13 Try.f13 [.d (.agg [(.ints .i64 sa), (.ints .i64 da)]), .d (.agg [(.ints .i64 sb), (.ints .i64 db)])] = some ([.one ((.bool (decide (sa = sb) && decide (da = db))), false)], [])) : CallSpec Try.prog laws_eqArray.E :=
  callSpec_of (d := 0) hX (by kernel_rfl) laws_eqArray.I_ok (by kernel_rfl) (by kernel_rfl) (by kernel_rfl) (fun _ _ _ _ h => by dsimp only [laws_eqArray.E] at h; cases h) (fun xs hp => by
    dsimp only [laws_eqArray.E] at hp ⊢
    split at hp
    · exact h _ _ _ _ hp
    · cases hp)
theorem laws_eqArray.ok : CallSpec Try.prog laws_eqArray.E := laws_eqArray.ok_of (by simp [laws_eqArray.X, laws_eqIntS.ok]) fun sa da sb db h => ⟨0, by
  simp only [Bool.and_eq_true, decide_eq_true_eq] at h
  obtain ⟨⟨⟨h1, h2⟩, h3⟩, h4⟩ := h
  rw [laws_eqArray.e]
  simp only [h1, h2, h3, h4, decide_true, Bool.and_self, cond_true]
  cases decide (sa = sb) <;> cases decide (da = db) <;> rfl⟩

namespace laws_markIntS
noncomputable def E : Entry := ⟨43, false, true, fun | [.rows true [(.i64, xs)], .d (.int .i64 k)] => decide (xs.length < 9223372036854775808) | _ => false, fun | [.rows true [(.i64, xs)], .d (.int .i64 k)] => ([.one ((.int .i64 (markK xs k)), false)], [[(.ints .i64 (markL xs k))]]) | _ => ([], []), fun _ => [], false, fun _ => none⟩
end laws_markIntS
namespace laws_markIntS
noncomputable def X : List Entry := []
noncomputable def I : List Inl := [⟨43, Try.f43, ⟨[], [(1000002, [2, 3, 4, 6, 7, 8, 9, 10, 11, 12, 13, 14, 15, 16, 17, 18])], [], [], [], []⟩⟩]
theorem I_ok : ∀ i ∈ I, Try.prog.funcs[i.f]? = some i.fn ∧ (i.fn.name == "runtime.NumGoroutine") = false := by
  intro i hi
  simp only [I, List.mem_cons, List.not_mem_nil, or_false] at hi
  subst hi
  exact ⟨by kernel_rfl, by kernel_rfl⟩
noncomputable abbrev L0 (fuel n : Nat) (s : St) (k : Kont) := lAt Try.prog X I fuel false 0 false 43 (bodyOf Try.f43) [1, 0, 1, 0] n s k
noncomputable abbrev k0  (fuel : Nat) : Kont := (kAt Try.prog X I fuel false 0 false 43 (bodyOf Try.f43) [1, 0, 1, 0] [] (endK Try.prog Try.f43))
noncomputable def t0 (x0q0 : Int) (x0q1 : Int) (x0q2 : List Int) : St := ⟨[(.all 1000000000 1), (.imm (.int .i64 x0q0)), .dead, .dead, .dead, (.imm (.int .i64 x0q1)), .dead, .dead, .dead, .dead, .dead, .dead, .dead, .dead, .dead, .dead, .dead, .dead, .dead], hOf [(1000000000, (.ints .i64 x0q2))], [(.all 1000000000 1)], []⟩
theorem e (fuel : Nat) (p0 : List Int) (p1 : Int) : runF Try.prog X I 0 fuel 43 Try.f43 [.rows true [(.i64, p0)], .d (.int .i64 p1)] =
  L0 fuel fuel (t0 p1 0 p0) (k0  fuel) := by kernel_rfl
theorem s0 (fuel n0 : Nat) (x0q0 : Int) (x0q1 : Int) (x0q2 : List Int) : L0 fuel (n0 + 1) (t0 x0q0 x0q1 x0q2) (k0  fuel) =
  (bif (decide ((x0q1 : Int) < ((x0q2.length : Nat) : Int))) then
  (idx x0q1 x0q2.length).bind fun j3 =>
  (bif decide (j3 < x0q2.length) then
  L0 fuel n0 (t0 ((IntKind.wrap .i64 (x0q0 + 1))) ((IntKind.wrap .i64 (x0q1 + 1))) ((x0q2.set j3 x0q0))) (k0  fuel)
  else
  none)
  else
  some ([.one ((.int .i64 x0q0), false)], [[(.ints .i64 x0q2)]])) := by kernel_rfl
end laws_markIntS
theorem laws_markIntS.ok_of (hX : ∀ E ∈ laws_markIntS.X, CallSpec Try.prog E) (h : ∀ (xs : List Int) (k : Int), (decide (xs.length < 9223372036854775808)) = true → ∃ fuel, runF Try.prog laws_markIntS.X laws_markIntS.I 0 fuel 43 Try.f43 [.rows true [(.i64, xs)], .d (.int .i64 k)] = some ([.one ((.int .i64 (markK xs k)), false)], [[(.ints .i64 (markL xs k))]])) : CallSpec Try.prog laws_markIntS.E :=
  callSpec_of (d := 0) hX (by kernel_rfl) laws_markIntS.I_ok (by kernel_rfl) (by kernel_rfl) (by kernel_rfl) (fun _ _ _ _ h => by dsimp only [laws_markIntS.E] at h; cases h) (fun xs hp => by
    dsimp only [laws_markIntS.E] at hp ⊢
    split at hp
    · exact h _ _ hp
    · cases hp)
theorem laws_markIntS.loop (fuel : Nat) : ∀ (m n j : Nat) (k : Int) (xs : List Int), xs.length < 9223372036854775808 → xs.length - j = m → m < n → j ≤ xs.length →
    laws_markIntS.L0 fuel n (laws_markIntS.t0 k (j : Int) xs) (laws_markIntS.k0 fuel) = some ([.one (.int .i64 (markK (xs.drop j) k), false)], [[.ints .i64 (xs.take j ++ markL (xs.drop j) k)]]) := by
  intro m
  induction m with
  | zero =>
    intro n j k xs hx h1 h2 h3
    obtain ⟨n, rfl⟩ : ∃ n', n = n' + 1 := ⟨n - 1, by omega⟩
    have hj : ¬ j < xs.length := by omega
    have : xs.take j = xs := List.take_of_length_le (by omega)
    rw [laws_markIntS.s0, dge hj, dropE hj, this]
    simp [markL, markK]
  | succ m ih =>
    intro n j k xs hx h1 h2 h3
    obtain ⟨n, rfl⟩ : ∃ n', n = n' + 1 := ⟨n - 1, by omega⟩
    have hj : j < xs.length := by omega
    rw [laws_markIntS.s0, dlt hj, idx_nat hj, w1 (by omega), dropS hj]
    simp only [cond_true, Option.bind_some, hj, decide_true]
    rw [ih n (j + 1) _ (xs.set j k) (by simpa using hx) (by simp; omega) (by omega) (by simp; omega)]
    have e1 : (xs.set j k).drop (j + 1) = xs.drop (j + 1) := by simp [List.drop_set]
    have e2 : (xs.set j k).take (j + 1) = xs.take j ++ [k] := by
      rw [List.take_add_one]
      simp [List.take_set, hj]
      exact List.set_eq_of_length_le (by simp; omega)
    rw [e1, e2]
    simp [markL, markK]

theorem laws_markIntS.ok : CallSpec Try.prog laws_markIntS.E := laws_markIntS.ok_of (by simp [laws_markIntS.X]) fun xs k h => by
  simp only [decide_eq_true_eq] at h
  refine ⟨xs.length + 1, ?_⟩
  rw [laws_markIntS.e]
  have := laws_markIntS.loop (xs.length + 1) xs.length (xs.length + 1) 0 k xs h (by omega) (by omega) (by omega)
  simpa using this

namespace laws_markArray
noncomputable def E : Entry := ⟨14, false, true, fun | [.rows false [(.i64, sh), (.i64, da)], .d (.int .i64 k)] => decide (sh.length < 9223372036854775808) && decide (da.length < 9223372036854775808) | _ => false, fun | [.rows false [(.i64, sh), (.i64, da)], .d (.int .i64 k)] => ([.one ((.int .i64 (markK da (markK sh k))), false)], [[(.ints .i64 (markL sh k))], [(.ints .i64 (markL da (markK sh k)))]]) | _ => ([], []), fun _ => [], false, fun _ => none⟩
end laws_markArray
namespace laws_markArray
noncomputable def X : List Entry := [laws_markIntS.E]
noncomputable def I : List Inl := [⟨14, Try.f14, ⟨[], [], [], [], [], []⟩⟩]
theorem I_ok : ∀ i ∈ I, Try.prog.funcs[i.f]? = some i.fn ∧ (i.fn.name == "runtime.NumGoroutine") = false := by
  intro i hi
  simp only [I, List.mem_cons, List.not_mem_nil, or_false] at hi
  subst hi
  exact ⟨by kernel_rfl, by kernel_rfl⟩
theorem e (fuel : Nat) (p0q0 : List Int) (p0q1 : List Int) (p1 : Int) : runF Try.prog X I 0 fuel 14 Try.f14 [.rows false [(.i64, p0q0), (.i64, p0q1)], .d (.int .i64 p1)] =
  (bif decide (p0q0.length < 9223372036854775808) then
  (bif decide (p0q1.length < 9223372036854775808) then
  some ([.one ((.int .i64 (markK p0q1 ((markK p0q0 p1)))), false)], [[(.ints .i64 (markL p0q0 p1))], [(.ints .i64 (markL p0q1 ((markK p0q0 p1))))]])
  else
  none)
  else
  none) := by kernel_rfl
end laws_markArray
theorem laws_markArray.ok_of (hX : ∀ E ∈ laws_markArray.X, CallSpec Try.prog E) (h : ∀ (sh : List Int) (da : List Int) (k : Int), (decide (sh.length < 9223372036854775808) && decide (da.length < 9223372036854775808)) = true → ∃ fuel, runF Try.prog laws_markArray.X laws_markArray.I 0 fuel 14 Try.f14 [.rows false [(.i64, sh), (.i64, da)], .d (.int .i64 k)] = some ([.one ((.int .i64 (markK da (markK sh k))), false)], [[(.ints .i64 (markL sh k))], [(.ints .i64 (markL da (markK sh k)))]])) : CallSpec Try.prog laws_markArray.E :=
  callSpec_of (d := 0) hX (by kernel_rfl) laws_markArray.I_ok (by kernel_rfl) (by kernel_rfl) (by kernel_rfl) (fun _ _ _ _ h => by dsimp only [laws_markArray.E] at h; cases h) (fun xs hp => by
    dsimp only [laws_markArray.E] at hp ⊢
    split at hp
    · exact h _ _ _ hp
    · cases hp)
theorem laws_markArray.ok : CallSpec Try.prog laws_markArray.E := laws_markArray.ok_of (by simp [laws_markArray.X, laws_markIntS.ok]) fun sh da k h => ⟨0, by
  simp only [Bool.and_eq_true, decide_eq_true_eq] at h
  rw [laws_markArray.e]
  simp only [h.1, h.2, decide_true, cond_true]⟩

namespace laws_heldIntS
noncomputable def E : Entry := ⟨44, true, false, fun | [.d (.ints .i64 xs), .d (.int .i64 k)] => decide (xs.length < 9223372036854775808) | _ => false, fun | [.d (.ints .i64 xs), .d (.int .i64 k)] => ([.one ((.int .i64 (heldL xs k)), false)], []) | _ => ([], []), fun _ => [], false, fun _ => none⟩
end laws_heldIntS
namespace laws_heldIntS
noncomputable def X : List Entry := []
noncomputable def I : List Inl := [⟨44, Try.f44, ⟨[], [(1000002, [2, 3, 4, 6, 7, 8, 9, 10, 11, 12, 13, 14, 15, 16, 17, 18, 19, 20])], [], [], [], []⟩⟩]
theorem I_ok : ∀ i ∈ I, Try.prog.funcs[i.f]? = some i.fn ∧ (i.fn.name == "runtime.NumGoroutine") = false := by
  intro i hi
  simp only [I, List.mem_cons, List.not_mem_nil, or_false] at hi
  subst hi
  exact ⟨by kernel_rfl, by kernel_rfl⟩
noncomputable abbrev L0 (fuel n : Nat) (s : St) (k : Kont) := lAt Try.prog X I fuel true 0 false 44 (bodyOf Try.f44) [1, 0, 1, 0] n s k
noncomputable abbrev k0  (fuel : Nat) : Kont := (kAt Try.prog X I fuel true 0 false 44 (bodyOf Try.f44) [1, 0, 1, 0] [] (endK Try.prog Try.f44))
noncomputable def t0 (p0 : List Int) (x0q1 : Int) (x0q2 : Int) : St := ⟨[(.imm (.ints .i64 p0)), (.imm (.int .i64 x0q1)), .dead, .dead, .dead, (.imm (.int .i64 x0q2)), .dead, .dead, .dead, .dead, .dead, .dead, .dead, .dead, .dead, .dead, .dead, .dead, .dead, .dead, .dead], hOf [], [], []⟩
theorem e (fuel : Nat) (p0 : List Int) (p1 : Int) : runF Try.prog X I 0 fuel 44 Try.f44 [.d (.ints .i64 p0), .d (.int .i64 p1)] =
  L0 fuel fuel (t0 p0 p1 0) (k0  fuel) := by kernel_rfl
theorem s0 (fuel n0 : Nat) (p0 : List Int) (x0q1 : Int) (x0q2 : Int) : L0 fuel (n0 + 1) (t0 p0 x0q1 x0q2) (k0  fuel) =
  (bif (decide ((x0q2 : Int) < ((p0.length : Nat) : Int))) then
  (idx x0q2 p0.length).bind fun j5 =>
  (p0[j5]?).bind fun v6 =>
  (bif ((v6 : Int) != x0q1) then
  some ([.one ((.int .i64 (-1)), false)], [])
  else
  L0 fuel n0 (t0 p0 ((IntKind.wrap .i64 (x0q1 + 1))) ((IntKind.wrap .i64 (x0q2 + 1)))) (k0  fuel))
  else
  some ([.one ((.int .i64 x0q1), false)], [])) := by kernel_rfl
end laws_heldIntS
theorem laws_heldIntS.ok_of (hX : ∀ E ∈ laws_heldIntS.X, CallSpec Try.prog E) (h : ∀ (xs : List Int) (k : Int), (decide (xs.length < 9223372036854775808)) = true → ∃ fuel, runF Try.prog laws_heldIntS.X laws_heldIntS.I 0 fuel 44 Try.f44 [.d (.ints .i64 xs), .d (.int .i64 k)] = some ([.one ((.int .i64 (heldL xs k)), false)], [])) : CallSpec Try.prog laws_heldIntS.E :=
  callSpec_of (d := 0) hX (by kernel_rfl) laws_heldIntS.I_ok (by kernel_rfl) (by kernel_rfl) (by kernel_rfl) (fun _ _ _ _ h => by dsimp only [laws_heldIntS.E] at h; cases h) (fun xs hp => by
    dsimp only [laws_heldIntS.E] at hp ⊢
    split at hp
    · exact h _ _ hp
    · cases hp)
theorem laws_heldIntS.loop (fuel : Nat) (xs : List Int) (hx : xs.length < 9223372036854775808) : ∀ (m n j : Nat) (k : Int), xs.length - j = m → m < n → j ≤ xs.length →
    laws_heldIntS.L0 fuel n (laws_heldIntS.t0 xs k (j : Int)) (laws_heldIntS.k0 fuel) = some ([.one (.int .i64 (heldL (xs.drop j) k), false)], []) := by
  intro m
  induction m with
  | zero =>
    intro n j k h1 h2 h3
    obtain ⟨n, rfl⟩ : ∃ n', n = n' + 1 := ⟨n - 1, by omega⟩
    have hj : ¬ j < xs.length := by omega
    rw [laws_heldIntS.s0, dge hj, dropE hj]
    rfl
  | succ m ih =>
    intro n j k h1 h2 h3
    obtain ⟨n, rfl⟩ : ∃ n', n = n' + 1 := ⟨n - 1, by omega⟩
    have hj : j < xs.length := by omega
    rw [laws_heldIntS.s0, dlt hj, idx_nat hj, w1 (by omega), dropS hj]
    simp only [cond_true, Option.bind_some, getS hj, heldL]
    rw [ih n (j + 1) _ (by omega) (by omega) (by omega)]
    cases (xs[j] != k) <;> rfl

theorem laws_heldIntS.ok : CallSpec Try.prog laws_heldIntS.E := laws_heldIntS.ok_of (by simp [laws_heldIntS.X]) fun xs k h => by
  simp only [decide_eq_true_eq] at h
  refine ⟨xs.length + 1, ?_⟩
  rw [laws_heldIntS.e]
  exact laws_heldIntS.loop (xs.length + 1) xs h xs.length (xs.length + 1) 0 k (by omega) (by omega) (by omega)

namespace laws_heldArray
noncomputable def E : Entry := ⟨15, true, false, fun | [.d (.agg [(.ints .i64 sh), (.ints .i64 da)]), .d (.int .i64 k)] => decide (sh.length < 9223372036854775808) && decide (da.length < 9223372036854775808) | _ => false, fun | [.d (.agg [(.ints .i64 sh), (.ints .i64 da)]), .d (.int .i64 k)] => ([.one ((.int .i64 (heldA sh da k)), false)], []) | _ => ([], []), fun _ => [], false, fun _ => none⟩
end laws_heldArray
namespace laws_heldArray
noncomputable def X : List Entry := [laws_heldIntS.E]
noncomputable def I : List Inl := [⟨15, Try.f15, ⟨[], [], [], [], [], []⟩⟩]
theorem I_ok : ∀ i ∈ I, Try.prog.funcs[i.f]? = some i.fn ∧ (i.fn.name == "runtime.NumGoroutine") = false := by
  intro i hi
  simp only [I, List.mem_cons, List.not_mem_nil, or_false] at hi
  subst hi
  exact ⟨by kernel_rfl, by kernel_rfl⟩
theorem e (fuel : Nat) (p0q0 : List Int) (p0q1 : List Int) (p1 : Int) : runF Try.prog X I 0 fuel 15 Try.f15 [.d (.agg [(.ints .i64 p0q0), (.ints .i64 p0q1)]), .d (.int .i64 p1)] =
  (bif decide (p0q0.length < 9223372036854775808) then
  (bif (decide (((heldL p0q0 p1) : Int) < 0)) then
  some ([.one ((.int .i64 (-1)), false)], [])
  else
  (bif decide (p0q1.length < 9223372036854775808) then
  (bif (decide (((heldL p0q1 ((heldL p0q0 p1))) : Int) < 0)) then
  some ([.one ((.int .i64 (-1)), false)], [])
  else
  some ([.one ((.int .i64 (heldL p0q1 ((heldL p0q0 p1)))), false)], []))
  else
  none))
  else
  none) := by kernel_rfl
end laws_heldArray
theorem laws_heldArray.ok_of (hX : ∀ E ∈ laws_heldArray.X, CallSpec Try.prog E) (h : ∀ (sh : List Int) (da : List Int) (k : Int), (decide (sh.length < 9223372036854775808) && decide (da.length < 9223372036854775808)) = true → ∃ fuel, runF Try.prog laws_heldArray.X laws_heldArray.I 0 fuel 15 Try.f15 [.d (.agg [(.ints .i64 sh), (.ints .i64 da)]), .d (.int .i64 k)] = some ([.one ((.int .i64 (heldA sh da k)), false)], [])) : CallSpec Try.prog laws_heldArray.E :=
  callSpec_of (d := 0) hX (by kernel_rfl) laws_heldArray.I_ok (by kernel_rfl) (by kernel_rfl) (by kernel_rfl) (fun _ _ _ _ h => by dsimp only [laws_heldArray.E] at h; cases h) (fun xs hp => by
    dsimp only [laws_heldArray.E] at hp ⊢
    split at hp
    · exact h _ _ _ hp
    · cases hp)
theorem laws_heldArray.ok : CallSpec Try.prog laws_heldArray.E := laws_heldArray.ok_of (by simp [laws_heldArray.X, laws_heldIntS.ok]) fun sh da k h => ⟨0, by
  simp only [Bool.and_eq_true, decide_eq_true_eq] at h
  rw [laws_heldArray.e]
  unfold heldA
  simp only [h.1, h.2, decide_true, cond_true]
  cases decide (heldL sh k < 0) <;> cases decide (heldL da (heldL sh k) < 0) <;> rfl⟩

namespace laws_FnExactOuterProduct
noncomputable def E : Entry := ⟨6, true, false, fun | [.d (.int .i64 op), .d (.agg [(.ints .i64 sa), (.ints .i64 da)]), .d (.agg [(.ints .i64 sb), (.ints .i64 db)])] => decide (sa.length < 9223372036854775808) && decide (da.length < 9223372036854775808) && decide (sb.length < 9223372036854775808) && decide (db.length < 9223372036854775808) | _ => false, fun | [.d (.int .i64 op), .d (.agg [(.ints .i64 sa), (.ints .i64 da)]), .d (.agg [(.ints .i64 sb), (.ints .i64 db)])] => ([.one ((.bool true), false)], []) | _ => ([], []), fun _ => [], false, fun _ => none⟩
end laws_FnExactOuterProduct
namespace laws_FnExactOuterProduct
noncomputable def X : List Entry := [laws_szArray.E, laws_toArray.E, spec_OuterProduct.E, impl_OuterProduct.E, laws_eqArray.E, laws_markArray.E, laws_heldArray.E]
noncomputable def I : List Inl := [⟨6, Try.f6, ⟨[32, 34, 35, 39, 41, 46, 60, 65, 101, 103, 104], [], [], [(8, [0, 1, 3, 2, 4, 5, 6, 7, 8, 9, 10, 11]), (31, [0, 1, 3, 2, 4, 5, 6, 7, 8, 9, 10, 11])], [], []⟩⟩]
theorem I_ok : ∀ i ∈ I, Try.prog.funcs[i.f]? = some i.fn ∧ (i.fn.name == "runtime.NumGoroutine") = false := by
  intro i hi
  simp only [I, List.mem_cons, List.not_mem_nil, or_false] at hi
  subst hi
  exact ⟨by kernel_rfl, by kernel_rfl⟩
theorem e (fuel : Nat) (p0 : Int) (p1q0 : List Int) (p1q1 : List Int) (p2q0 : List Int) (p2q1 : List Int) : runF Try.prog X I 0 fuel 6 Try.f6 [.d (.int .i64 p0), .d (.agg [(.ints .i64 p1q0), (.ints .i64 p1q1)]), .d (.agg [(.ints .i64 p2q0), (.ints .i64 p2q1)])] =
  (bif (decide (((szA p1q0 p1q1 1048576) : Int) < 0)) then
  some ([.one ((.bool true), false)], [])
  else
  (bif (decide (((szA p2q0 p2q1 ((szA p1q0 p1q1 1048576))) : Int) < 0)) then
  some ([.one ((.bool true), false)], [])
  else
  (bif szB p1q0 && szB p1q1 then
  (bif szB p2q0 && szB p2q1 then
  (bif decide (p1q0.length < 9223372036854775808) && decide (p1q1.length < 9223372036854775808) && decide (p2q0.length < 9223372036854775808) && decide (p2q1.length < 9223372036854775808) then
  (bif szB p1q0 && szB p1q1 then
  (bif szB p2q0 && szB p2q1 then
  (bif decide (p1q0.length < 9223372036854775808) && decide (p1q1.length < 9223372036854775808) && decide (p2q0.length < 9223372036854775808) && decide (p2q1.length < 9223372036854775808) then
  (bif decide (((otS p0 p1q0 p1q1 p2q0 p2q1)).length < 9223372036854775808) && decide (((otD p0 p1q0 p1q1 p2q0 p2q1)).length < 9223372036854775808) && decide (((otS p0 p1q0 p1q1 p2q0 p2q1)).length < 9223372036854775808) && decide (((otD p0 p1q0 p1q1 p2q0 p2q1)).length < 9223372036854775808) then
  (bif (!(decide (((otS p0 p1q0 p1q1 p2q0 p2q1)) = ((otS p0 p1q0 p1q1 p2q0 p2q1))) && decide (((otD p0 p1q0 p1q1 p2q0 p2q1)) = ((otD p0 p1q0 p1q1 p2q0 p2q1))))) then
  some ([.one ((.bool false), false)], [])
  else
  (bif (!((otB p0 p1q0 p1q1 p2q0 p2q1) == (otB p0 p1q0 p1q1 p2q0 p2q1))) then
  some ([.one ((.bool false), false)], [])
  else
  (bif szB p1q0 && szB p1q1 then
  (bif decide (p1q0.length < 9223372036854775808) && decide (p1q1.length < 9223372036854775808) && decide (p1q0.length < 9223372036854775808) && decide (p1q1.length < 9223372036854775808) then
  (bif (!(decide (p1q0 = p1q0) && decide (p1q1 = p1q1))) then
  some ([.one ((.bool false), false)], [])
  else
  (bif szB p2q0 && szB p2q1 then
  (bif decide (p2q0.length < 9223372036854775808) && decide (p2q1.length < 9223372036854775808) && decide (p2q0.length < 9223372036854775808) && decide (p2q1.length < 9223372036854775808) then
  (bif (!(decide (p2q0 = p2q0) && decide (p2q1 = p2q1))) then
  some ([.one ((.bool false), false)], [])
  else
  (bif decide (p1q0.length < 9223372036854775808) && decide (p1q1.length < 9223372036854775808) then
  (bif decide (p2q0.length < 9223372036854775808) && decide (p2q1.length < 9223372036854775808) then
  (bif (decide (((markK p2q1 (markK p2q0 ((markK p1q1 (markK p1q0 1))))) : Int) < 0)) then
  some ([.one ((.bool false), false)], [])
  else
  (bif decide (((otS p0 p1q0 p1q1 p2q0 p2q1)).length < 9223372036854775808) && decide (((otD p0 p1q0 p1q1 p2q0 p2q1)).length < 9223372036854775808) && decide (((otS p0 p1q0 p1q1 p2q0 p2q1)).length < 9223372036854775808) && decide (((otD p0 p1q0 p1q1 p2q0 p2q1)).length < 9223372036854775808) then
  (bif (!(decide (((otS p0 p1q0 p1q1 p2q0 p2q1)) = ((otS p0 p1q0 p1q1 p2q0 p2q1))) && decide (((otD p0 p1q0 p1q1 p2q0 p2q1)) = ((otD p0 p1q0 p1q1 p2q0 p2q1))))) then
  some ([.one ((.bool false), false)], [])
  else
  (bif (!((otB p0 p1q0 p1q1 p2q0 p2q1) == (otB p0 p1q0 p1q1 p2q0 p2q1))) then
  some ([.one ((.bool false), false)], [])
  else
  (bif decide (((otS p0 p1q0 p1q1 p2q0 p2q1)).length < 9223372036854775808) && decide (((otD p0 p1q0 p1q1 p2q0 p2q1)).length < 9223372036854775808) then
  (bif decide (((markL ((otS p0 p1q0 p1q1 p2q0 p2q1)) 1)).length < 9223372036854775808) && decide (((markL ((otD p0 p1q0 p1q1 p2q0 p2q1)) (markK ((otS p0 p1q0 p1q1 p2q0 p2q1)) 1))).length < 9223372036854775808) then
  (bif (decide (((heldA ((markL ((otS p0 p1q0 p1q1 p2q0 p2q1)) 1)) ((markL ((otD p0 p1q0 p1q1 p2q0 p2q1)) (markK ((otS p0 p1q0 p1q1 p2q0 p2q1)) 1))) 1) : Int) < 0)) then
  some ([.one ((.bool false), false)], [])
  else
  (bif (((heldA ((markL ((otS p0 p1q0 p1q1 p2q0 p2q1)) 1)) ((markL ((otD p0 p1q0 p1q1 p2q0 p2q1)) (markK ((otS p0 p1q0 p1q1 p2q0 p2q1)) 1))) 1) : Int) != (markK ((otD p0 p1q0 p1q1 p2q0 p2q1)) (markK ((otS p0 p1q0 p1q1 p2q0 p2q1)) 1))) then
  some ([.one ((.bool false), false)], [])
  else
  (bif szB p1q0 && szB p1q1 then
  (bif szB p2q0 && szB p2q1 then
  (bif decide (p1q0.length < 9223372036854775808) && decide (p1q1.length < 9223372036854775808) && decide (p2q0.length < 9223372036854775808) && decide (p2q1.length < 9223372036854775808) then
  (bif decide (((otS p0 p1q0 p1q1 p2q0 p2q1)).length < 9223372036854775808) && decide (((otD p0 p1q0 p1q1 p2q0 p2q1)).length < 9223372036854775808) && decide (((otS p0 p1q0 p1q1 p2q0 p2q1)).length < 9223372036854775808) && decide (((otD p0 p1q0 p1q1 p2q0 p2q1)).length < 9223372036854775808) then
  (bif (!(decide (((otS p0 p1q0 p1q1 p2q0 p2q1)) = ((otS p0 p1q0 p1q1 p2q0 p2q1))) && decide (((otD p0 p1q0 p1q1 p2q0 p2q1)) = ((otD p0 p1q0 p1q1 p2q0 p2q1))))) then
  some ([.one ((.bool false), false)], [])
  else
  (bif (!((otB p0 p1q0 p1q1 p2q0 p2q1) == (otB p0 p1q0 p1q1 p2q0 p2q1))) then
  some ([.one ((.bool false), false)], [])
  else
  (bif decide (((markL ((otS p0 p1q0 p1q1 p2q0 p2q1)) 1)).length < 9223372036854775808) && decide (((markL ((otD p0 p1q0 p1q1 p2q0 p2q1)) (markK ((otS p0 p1q0 p1q1 p2q0 p2q1)) 1))).length < 9223372036854775808) then
  (bif (decide (((heldA ((markL ((otS p0 p1q0 p1q1 p2q0 p2q1)) 1)) ((markL ((otD p0 p1q0 p1q1 p2q0 p2q1)) (markK ((otS p0 p1q0 p1q1 p2q0 p2q1)) 1))) 1) : Int) < 0)) then
  some ([.one ((.bool false), false)], [])
  else
  (bif (((heldA ((markL ((otS p0 p1q0 p1q1 p2q0 p2q1)) 1)) ((markL ((otD p0 p1q0 p1q1 p2q0 p2q1)) (markK ((otS p0 p1q0 p1q1 p2q0 p2q1)) 1))) 1) : Int) != (markK ((otD p0 p1q0 p1q1 p2q0 p2q1)) (markK ((otS p0 p1q0 p1q1 p2q0 p2q1)) 1))) then
  some ([.one ((.bool false), false)], [])
  else
  some ([.one ((.bool true), false)], [])))
  else
  none)))
  else
  none)
  else
  none)
  else
  none)
  else
  none)))
  else
  none)
  else
  none)))
  else
  none))
  else
  none)
  else
  none))
  else
  none)
  else
  none))
  else
  none)
  else
  none)))
  else
  none)
  else
  none)
  else
  none)
  else
  none)
  else
  none)
  else
  none)
  else
  none))) := by kernel_rfl
end laws_FnExactOuterProduct
theorem laws_FnExactOuterProduct.ok_of (hX : ∀ E ∈ laws_FnExactOuterProduct.X, CallSpec Try.prog E) (h : ∀ (op : Int) (sa : List Int) (da : List Int) (sb : List Int) (db : List Int), (decide (sa.length < 9223372036854775808) && decide (da.length < 9223372036854775808) && decide (sb.length < 9223372036854775808) && decide (db.length < 9223372036854775808)) = true → ∃ fuel, runF Try.prog laws_FnExactOuterProduct.X laws_FnExactOuterProduct.I 0 fuel 6 Try.f6 [.d (.int .i64 op), .d (.agg [(.ints .i64 sa), (.ints .i64 da)]), .d (.agg [(.ints .i64 sb), (.ints .i64 db)])] = some ([.one ((.bool true), false)], [])) : CallSpec Try.prog laws_FnExactOuterProduct.E :=
  callSpec_of (d := 0) hX (by kernel_rfl) laws_FnExactOuterProduct.I_ok (by kernel_rfl) (by kernel_rfl) (by kernel_rfl) (fun _ _ _ _ h => by dsimp only [laws_FnExactOuterProduct.E] at h; cases h) (fun xs hp => by
    dsimp only [laws_FnExactOuterProduct.E] at hp ⊢
    split at hp
    · exact h _ _ _ _ _ hp
    · cases hp)
theorem laws_FnExactOuterProduct.ok : CallSpec Try.prog laws_FnExactOuterProduct.E := laws_FnExactOuterProduct.ok_of (by simp [laws_FnExactOuterProduct.X, laws_szArray.ok, laws_toArray.ok, laws_eqArray.ok, laws_markArray.ok, laws_heldArray.ok, laws_toIntS.ok, laws_eqIntS.ok, laws_markIntS.ok, laws_heldIntS.ok, spec_OuterProduct.ok, impl_OuterProduct.ok]) fun op sa da sb db h => ⟨0, by
  rw [laws_FnExactOuterProduct.e]
  simp only [Bool.and_eq_true] at h
  obtain ⟨⟨⟨g0, g1⟩, g2⟩, g3⟩ := h
  by_cases a0 : szA sa da 1048576 < 0
  · rw [decide_eq_true a0]; rfl
  obtain ⟨q0, p0⟩ := szA_le (by omega) (by omega) (of_decide_eq_true g0) (of_decide_eq_true g1) a0
  by_cases a1 : szA sb db (szA sa da 1048576) < 0
  · rw [decide_eq_false a0, decide_eq_true a1]; rfl
  obtain ⟨q1, p1⟩ := szA_le (by omega) (by omega) (of_decide_eq_true g2) (of_decide_eq_true g3) a1
  have z0 := szB_of (xs := sa) (by omega)
  have z1 := szB_of (xs := da) (by omega)
  have z2 := szB_of (xs := sb) (by omega)
  have z3 := szB_of (xs := db) (by omega)
  have hl := ot_len op sa da sb db
  obtain ⟨r0a, r0b, r0c, r0d, r0e, r0f⟩ := marks_ok (sh := (otS op sa da sb db)) (da := (otD op sa da sb db)) (by omega) (by omega)
  have mk := mark4_ok (xs := sa) (ys := da) (zs := sb) (ws := db) (by omega) (by omega) (by omega) (by omega)
  simp only [decide_eq_false a0, decide_eq_false a1, g0, g1, g2, g3, z0, z1, z2, z3, r0a, r0b, r0c, r0d, r0e, r0f, mk, bne_self_eq_false, beq_self_eq_true, decide_true, Bool.and_self, Bool.not_true, cond_true, cond_false]⟩

end Go.Ab
