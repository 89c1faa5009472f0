import Derived.Test.YthccdpfoikdonabEbp
import Derived.Test.YthccdpfoikdonabProg
import Derived.Test.YthccdpfoikdonabChecked
open Go Go.Ab Go.Proofs
set_option maxRecDepth 100000
set_option linter.unusedVariables false
set_option linter.unusedSimpArgs false
namespace Go.Ab
namespace laws_szIntS
noncomputable def E : Entry := ⟨29, true, false, fun | [.d (.ints .i64 xs), .d (.int .i64 left)] => true | _ => false, fun | [.d (.ints .i64 xs), .d (.int .i64 left)] => ([.one ((.int .i64 (szI xs left)), false)], []) | _ => ([], []), fun _ => [], false, fun _ => none⟩
end laws_szIntS
namespace laws_szIntS
noncomputable def X : List Entry := []
noncomputable def I : List Inl := [⟨29, Try.f29, ⟨[], [], [], [], [], []⟩⟩]
theorem I_ok : ∀ i ∈ I, Try.prog.funcs[i.f]? = some i.fn ∧ (i.fn.name == "runtime.NumGoroutine") = false := by
  intro i hi
  simp only [I, List.mem_cons, List.not_mem_nil, or_false] at hi
  subst hi
  exact ⟨by kernel_rfl, by kernel_rfl⟩
theorem e (fuel : Nat) (p0 : List Int) (p1 : Int) : runF Try.prog X I 0 fuel 29 Try.f29 [.d (.ints .i64 p0), .d (.int .i64 p1)] =
  (bif (decide (((IntKind.wrap .i64 (p1 - ((p0.length : Nat) : Int))) : Int) < 0)) then
  some ([.one ((.int .i64 (-1)), false)], [])
  else
  some ([.one ((.int .i64 (IntKind.wrap .i64 (p1 - ((p0.length : Nat) : Int)))), false)], [])) := by kernel_rfl
end laws_szIntS
theorem laws_szIntS.ok_of (hX : ∀ E ∈ laws_szIntS.X, CallSpec Try.prog E) (h : ∀ (xs : List Int) (left : Int), (true) = true → ∃ fuel, runF Try.prog laws_szIntS.X laws_szIntS.I 0 fuel 29 Try.f29 [.d (.ints .i64 xs), .d (.int .i64 left)] = some ([.one ((.int .i64 (szI xs left)), false)], [])) : CallSpec Try.prog laws_szIntS.E :=
  callSpec_of (d := 0) hX (by kernel_rfl) laws_szIntS.I_ok (by kernel_rfl) (by kernel_rfl) (by kernel_rfl) (fun _ _ _ _ h => by dsimp only [laws_szIntS.E] at h; cases h) (fun xs hp => by
    dsimp only [laws_szIntS.E] at hp ⊢
    split at hp
    · exact h _ _ hp
    · cases hp)
theorem laws_szIntS.ok : CallSpec Try.prog laws_szIntS.E := laws_szIntS.ok_of (by simp [laws_szIntS.X]) fun xs left _ => ⟨0, by
  rw [laws_szIntS.e]
  unfold szI
  cases decide (IntKind.wrap .i64 (left - ((xs.length : Nat) : Int)) < 0) <;> rfl⟩

namespace laws_szArray
noncomputable def E : Entry := ⟨9, true, false, fun | [.d (.agg [(.ints .i64 sh), (.ints .i64 da)]), .d (.int .i64 left)] => true | _ => false, fun | [.d (.agg [(.ints .i64 sh), (.ints .i64 da)]), .d (.int .i64 left)] => ([.one ((.int .i64 (szA sh da left)), false)], []) | _ => ([], []), fun _ => [], false, fun _ => none⟩
end laws_szArray
namespace laws_szArray
noncomputable def X : List Entry := [laws_szIntS.E]
noncomputable def I : List Inl := [⟨9, Try.f9, ⟨[], [], [], [], [], []⟩⟩]
theorem I_ok : ∀ i ∈ I, Try.prog.funcs[i.f]? = some i.fn ∧ (i.fn.name == "runtime.NumGoroutine") = false := by
  intro i hi
  simp only [I, List.mem_cons, List.not_mem_nil, or_false] at hi
  subst hi
  exact ⟨by kernel_rfl, by kernel_rfl⟩
theorem e (fuel : Nat) (p0q0 : List Int) (p0q1 : List Int) (p1 : Int) : runF Try.prog X I 0 fuel 9 Try.f9 [.d (.agg [(.ints .i64 p0q0), (.ints .i64 p0q1)]), .d (.int .i64 p1)] =
  (bif (decide (((szI p0q0 p1) : Int) < 0)) then
  some ([.one ((.int .i64 (-1)), false)], [])
  else
  (bif (decide (((szI p0q1 ((szI p0q0 p1))) : Int) < 0)) then
  some ([.one ((.int .i64 (-1)), false)], [])
  else
  some ([.one ((.int .i64 (szI p0q1 ((szI p0q0 p1)))), false)], []))) := by kernel_rfl
end laws_szArray
theorem laws_szArray.ok_of (hX : ∀ E ∈ laws_szArray.X, CallSpec Try.prog E) (h : ∀ (sh : List Int) (da : List Int) (left : Int), (true) = true → ∃ fuel, runF Try.prog laws_szArray.X laws_szArray.I 0 fuel 9 Try.f9 [.d (.agg [(.ints .i64 sh), (.ints .i64 da)]), .d (.int .i64 left)] = some ([.one ((.int .i64 (szA sh da left)), false)], [])) : CallSpec Try.prog laws_szArray.E :=
  callSpec_of (d := 0) hX (by kernel_rfl) laws_szArray.I_ok (by kernel_rfl) (by kernel_rfl) (by kernel_rfl) (fun _ _ _ _ h => by dsimp only [laws_szArray.E] at h; cases h) (fun xs hp => by
    dsimp only [laws_szArray.E] at hp ⊢
    split at hp
    · exact h _ _ _ hp
    · cases hp)
theorem laws_szArray.ok : CallSpec Try.prog laws_szArray.E := laws_szArray.ok_of (by simp [laws_szArray.X, laws_szIntS.ok]) fun sh da left _ => ⟨0, by
  rw [laws_szArray.e]
  unfold szA
  cases decide (szI sh left < 0) <;> cases decide (szI da (szI sh left) < 0) <;> rfl⟩

namespace laws_toIntS
noncomputable def E : Entry := ⟨19, false, false, fun | [.d (.ints .i64 xs)] => szB xs | _ => false, fun | [.d (.ints .i64 xs)] => ([.one ((.ints .i64 xs), true)], []) | _ => ([], []), fun _ => [], true, fun _ => none⟩
end laws_toIntS
namespace laws_toIntS
noncomputable def X : List Entry := []
noncomputable def I : List Inl := [⟨19, Try.f19, ⟨[], [(1000003, [1, 2, 5, 6, 7, 8, 9, 10, 11, 12, 13, 14, 15, 16, 17, 18, 19, 20, 21])], [], [], [], []⟩⟩]
theorem I_ok : ∀ i ∈ I, Try.prog.funcs[i.f]? = some i.fn ∧ (i.fn.name == "runtime.NumGoroutine") = false := by
  intro i hi
  simp only [I, List.mem_cons, List.not_mem_nil, or_false] at hi
  subst hi
  exact ⟨by kernel_rfl, by kernel_rfl⟩
noncomputable abbrev L0 (fuel n : Nat) (s : St) (k : Kont) := lAt Try.prog X I fuel true 0 false 19 (bodyOf Try.f19) [1, 1, 0, 1, 0] n s k
noncomputable abbrev k0  (fuel : Nat) : Kont := (kAt Try.prog X I fuel true 0 false 19 (bodyOf Try.f19) [1, 1, 0, 1, 0] [] (endK Try.prog Try.f19))
noncomputable def t0 (p0 : List Int) (x0q1 : Int) (x0q2 : List Int) : St := ⟨[(.imm (.ints .i64 p0)), .dead, .dead, (.all 1000000000 1), (.imm (.int .i64 x0q1)), .dead, .dead, .dead, .dead, .dead, .dead, .dead, .dead, .dead, .dead, .dead, .dead, .dead, .dead, .dead, .dead, .dead], hOf [(1000000000, (.ints .i64 x0q2))], [], []⟩
theorem e (fuel : Nat) (p0 : List Int) : runF Try.prog X I 0 fuel 19 Try.f19 [.d (.ints .i64 p0)] =
  (bif decide (0 ≤ (((p0.length : Nat) : Int) : Int)) && decide ((((p0.length : Nat) : Int) : Int) ≤ ((p0.length : Nat) : Int)) && decide ((((p0.length : Nat) : Int) : Int) ≤ 1152921504606846976) && decide (((8 : Nat) : Int) * ((p0.length : Nat) : Int) ≤ 281474976710656) then
  L0 fuel fuel (t0 p0 0 ((List.replicate (((p0.length : Nat) : Int)).toNat (0 : Int)))) (k0  fuel)
  else
  none) := by kernel_rfl
theorem s0 (fuel n0 : Nat) (p0 : List Int) (x0q1 : Int) (x0q2 : List Int) : L0 fuel (n0 + 1) (t0 p0 x0q1 x0q2) (k0  fuel) =
  (bif (decide ((x0q1 : Int) < ((p0.length : Nat) : Int))) then
  (idx x0q1 p0.length).bind fun j7 =>
  (p0[j7]?).bind fun v8 =>
  (idx x0q1 x0q2.length).bind fun j9 =>
  (bif decide (j9 < x0q2.length) then
  L0 fuel n0 (t0 p0 ((IntKind.wrap .i64 (x0q1 + 1))) ((x0q2.set j9 v8))) (k0  fuel)
  else
  none)
  else
  some ([.one ((.ints .i64 x0q2), true)], [])) := by kernel_rfl
end laws_toIntS
theorem laws_toIntS.ok_of (hX : ∀ E ∈ laws_toIntS.X, CallSpec Try.prog E) (h : ∀ (xs : List Int), (szB xs) = true → ∃ fuel, runF Try.prog laws_toIntS.X laws_toIntS.I 0 fuel 19 Try.f19 [.d (.ints .i64 xs)] = some ([.one ((.ints .i64 xs), true)], [])) : CallSpec Try.prog laws_toIntS.E :=
  callSpec_of (d := 0) hX (by kernel_rfl) laws_toIntS.I_ok (by kernel_rfl) (by kernel_rfl) (by kernel_rfl) (fun _ _ _ _ h => by dsimp only [laws_toIntS.E] at h; cases h) (fun xs hp => by
    dsimp only [laws_toIntS.E] at hp ⊢
    split at hp
    · exact h _ hp
    · cases hp)
theorem laws_toIntS.loop (fuel : Nat) (xs : List Int) (hx : xs.length < 9223372036854775808) : ∀ (m n j : Nat) (out : List Int), xs.length - j = m → m < n → j ≤ xs.length → out.length = xs.length → out.take j = xs.take j →
    laws_toIntS.L0 fuel n (laws_toIntS.t0 xs (j : Int) out) (laws_toIntS.k0 fuel) = some ([.one (.ints .i64 xs, true)], []) := by
  intro m
  induction m with
  | zero =>
    intro n j out h1 h2 h3 h4 h5
    obtain ⟨n, rfl⟩ : ∃ n', n = n' + 1 := ⟨n - 1, by omega⟩
    have hj : ¬ j < xs.length := by omega
    have : out = xs := by rw [List.take_of_length_le (by omega), List.take_of_length_le (by omega)] at h5; exact h5
    rw [laws_toIntS.s0, dge hj, this]
    rfl
  | succ m ih =>
    intro n j out h1 h2 h3 h4 h5
    obtain ⟨n, rfl⟩ : ∃ n', n = n' + 1 := ⟨n - 1, by omega⟩
    have hj : j < xs.length := by omega
    have hj2 : j < out.length := by omega
    rw [laws_toIntS.s0, dlt hj, idx_nat hj, idx_nat hj2, w1 (by omega)]
    simp only [cond_true, Option.bind_some, getS hj, hj2, decide_true]
    exact ih n (j + 1) _ (by omega) (by omega) (by omega) (by simpa using h4) (take_set_succ hj hj2 h5)

theorem laws_toIntS.ok : CallSpec Try.prog laws_toIntS.E := laws_toIntS.ok_of (by simp [laws_toIntS.X]) fun xs h => by
  have hx := szB_le h
  refine ⟨xs.length + 1, ?_⟩
  rw [laws_toIntS.e, mkOk (by omega) (by omega)]
  exact laws_toIntS.loop (xs.length + 1) xs (by omega) xs.length (xs.length + 1) 0 _ (by omega) (by omega) (by omega) (by simp) (by simp)

namespace laws_toArray
noncomputable def E : Entry := ⟨11, false, false, fun | [.d (.agg [(.ints .i64 sh), (.ints .i64 da)])] => szB sh && szB da | _ => false, fun | [.d (.agg [(.ints .i64 sh), (.ints .i64 da)])] => ([.agg [((.ints .i64 sh), true), ((.ints .i64 da), true)]], []) | _ => ([], []), fun _ => [], true, fun _ => none⟩
end laws_toArray
namespace laws_toArray
noncomputable def X : List Entry := [laws_toIntS.E]
noncomputable def I : List Inl := [⟨11, Try.f11, ⟨[6, 10], [], [], [], [], []⟩⟩]
theorem I_ok : ∀ i ∈ I, Try.prog.funcs[i.f]? = some i.fn ∧ (i.fn.name == "runtime.NumGoroutine") = false := by
  intro i hi
  simp only [I, List.mem_cons, List.not_mem_nil, or_false] at hi
  subst hi
  exact ⟨by kernel_rfl, by kernel_rfl⟩
theorem e (fuel : Nat) (p0q0 : List Int) (p0q1 : List Int) : runF Try.prog X I 0 fuel 11 Try.f11 [.d (.agg [(.ints .i64 p0q0), (.ints .i64 p0q1)])] =
  (bif szB p0q0 then
  (bif szB p0q1 then
  some ([.agg [((.ints .i64 p0q0), true), ((.ints .i64 p0q1), true)]], [])
  else
  none)
  else
  none) := by kernel_rfl
end laws_toArray
theorem laws_toArray.ok_of (hX : ∀ E ∈ laws_toArray.X, CallSpec Try.prog E) (h : ∀ (sh : List Int) (da : List Int), (szB sh && szB da) = true → ∃ fuel, runF Try.prog laws_toArray.X laws_toArray.I 0 fuel 11 Try.f11 [.d (.agg [(.ints .i64 sh), (.ints .i64 da)])] = some ([.agg [((.ints .i64 sh), true), ((.ints .i64 da), true)]], [])) : CallSpec Try.prog laws_toArray.E :=
  callSpec_of (d := 0) hX (by kernel_rfl) laws_toArray.I_ok (by kernel_rfl) (by kernel_rfl) (by kernel_rfl) (fun _ _ _ _ h => by dsimp only [laws_toArray.E] at h; cases h) (fun xs hp => by
    dsimp only [laws_toArray.E] at hp ⊢
    split at hp
    · exact h _ _ hp
    · cases hp)
theorem laws_toArray.ok : CallSpec Try.prog laws_toArray.E := laws_toArray.ok_of (by simp [laws_toArray.X, laws_toIntS.ok]) fun sh da h => ⟨0, by
  simp only [Bool.and_eq_true] at h
  rw [laws_toArray.e, h.1, h.2]
  rfl⟩

namespace spec_inRange
noncomputable def E : Entry := ⟨54, true, false, fun | [.d (.int .i64 v), .d (.int .i64 lo), .d (.int .i64 hi)] => true | _ => false, fun | [.d (.int .i64 v), .d (.int .i64 lo), .d (.int .i64 hi)] => ([.one ((.bool (decide (lo ≤ v) && decide (v ≤ hi))), false)], []) | _ => ([], []), fun _ => [], false, fun _ => none⟩
end spec_inRange
namespace spec_inRange
noncomputable def X : List Entry := []
noncomputable def I : List Inl := [⟨54, Try.f54, ⟨[], [], [], [], [], []⟩⟩]
theorem I_ok : ∀ i ∈ I, Try.prog.funcs[i.f]? = some i.fn ∧ (i.fn.name == "runtime.NumGoroutine") = false := by
  intro i hi
  simp only [I, List.mem_cons, List.not_mem_nil, or_false] at hi
  subst hi
  exact ⟨by kernel_rfl, by kernel_rfl⟩
theorem e (fuel : Nat) (p0 : Int) (p1 : Int) (p2 : Int) : runF Try.prog X I 0 fuel 54 Try.f54 [.d (.int .i64 p0), .d (.int .i64 p1), .d (.int .i64 p2)] =
  (bif (decide ((p1 : Int) ≤ p0)) then
  some ([.one ((.bool (decide ((p0 : Int) ≤ p2))), false)], [])
  else
  some ([.one ((.bool false), false)], [])) := by kernel_rfl
end spec_inRange
theorem spec_inRange.ok_of (hX : ∀ E ∈ spec_inRange.X, CallSpec Try.prog E) (h : ∀ (v : Int) (lo : Int) (hi : Int), (true) = true → ∃ fuel, runF Try.prog spec_inRange.X spec_inRange.I 0 fuel 54 Try.f54 [.d (.int .i64 v), .d (.int .i64 lo), .d (.int .i64 hi)] = some ([.one ((.bool (decide (lo ≤ v) && decide (v ≤ hi))), false)], [])) : CallSpec Try.prog spec_inRange.E :=
  callSpec_of (d := 0) hX (by kernel_rfl) spec_inRange.I_ok (by kernel_rfl) (by kernel_rfl) (by kernel_rfl) (fun _ _ _ _ h => by dsimp only [spec_inRange.E] at h; cases h) (fun xs hp => by
    dsimp only [spec_inRange.E] at hp ⊢
    split at hp
    · exact h _ _ _ hp
    · cases hp)
theorem spec_inRange.ok : CallSpec Try.prog spec_inRange.E := spec_inRange.ok_of (by simp [spec_inRange.X]) fun v lo hi _ => ⟨0, by
  rw [spec_inRange.e]
  cases decide (lo ≤ v) <;> rfl⟩

namespace spec_allIn
noncomputable def E : Entry := ⟨44, true, false, fun | [.d (.ints .i64 xs), .d (.int .i64 lo), .d (.int .i64 hi)] => decide (xs.length < 9223372036854775808) | _ => false, fun | [.d (.ints .i64 xs), .d (.int .i64 lo), .d (.int .i64 hi)] => ([.one ((.bool (allB xs lo hi)), false)], []) | _ => ([], []), fun _ => [], false, fun _ => none⟩
end spec_allIn
namespace spec_allIn
noncomputable def X : List Entry := [spec_inRange.E]
noncomputable def I : List Inl := [⟨44, Try.f44, ⟨[], [(1000002, [3, 4, 5, 6, 8, 9, 10, 11, 12, 13, 14, 15, 16, 17, 18, 19, 20, 21])], [], [], [], []⟩⟩]
theorem I_ok : ∀ i ∈ I, Try.prog.funcs[i.f]? = some i.fn ∧ (i.fn.name == "runtime.NumGoroutine") = false := by
  intro i hi
  simp only [I, List.mem_cons, List.not_mem_nil, or_false] at hi
  subst hi
  exact ⟨by kernel_rfl, by kernel_rfl⟩
noncomputable abbrev L0 (fuel n : Nat) (s : St) (k : Kont) := lAt Try.prog X I fuel true 0 false 44 (bodyOf Try.f44) [1, 0, 1, 0] n s k
noncomputable abbrev k0  (fuel : Nat) : Kont := (kAt Try.prog X I fuel true 0 false 44 (bodyOf Try.f44) [1, 0, 1, 0] [] (endK Try.prog Try.f44))
noncomputable def t0 (p0 : List Int) (p1 : Int) (p2 : Int) (x0q3 : Int) : St := ⟨[(.imm (.ints .i64 p0)), (.imm (.int .i64 p1)), (.imm (.int .i64 p2)), .dead, .dead, .dead, .dead, (.imm (.int .i64 x0q3)), .dead, .dead, .dead, .dead, .dead, .dead, .dead, .dead, .dead, .dead, .dead, .dead, .dead, .dead], hOf [], [], []⟩
theorem e (fuel : Nat) (p0 : List Int) (p1 : Int) (p2 : Int) : runF Try.prog X I 0 fuel 44 Try.f44 [.d (.ints .i64 p0), .d (.int .i64 p1), .d (.int .i64 p2)] =
  L0 fuel fuel (t0 p0 p1 p2 0) (k0  fuel) := by kernel_rfl
theorem s0 (fuel n0 : Nat) (p0 : List Int) (p1 : Int) (p2 : Int) (x0q3 : Int) : L0 fuel (n0 + 1) (t0 p0 p1 p2 x0q3) (k0  fuel) =
  (bif (decide ((x0q3 : Int) < ((p0.length : Nat) : Int))) then
  (idx x0q3 p0.length).bind fun j5 =>
  (p0[j5]?).bind fun v6 =>
  (bif (!(decide (p1 ≤ v6) && decide (v6 ≤ p2))) then
  some ([.one ((.bool false), false)], [])
  else
  L0 fuel n0 (t0 p0 p1 p2 ((IntKind.wrap .i64 (x0q3 + 1)))) (k0  fuel))
  else
  some ([.one ((.bool true), false)], [])) := by kernel_rfl
end spec_allIn
theorem spec_allIn.ok_of (hX : ∀ E ∈ spec_allIn.X, CallSpec Try.prog E) (h : ∀ (xs : List Int) (lo : Int) (hi : Int), (decide (xs.length < 9223372036854775808)) = true → ∃ fuel, runF Try.prog spec_allIn.X spec_allIn.I 0 fuel 44 Try.f44 [.d (.ints .i64 xs), .d (.int .i64 lo), .d (.int .i64 hi)] = some ([.one ((.bool (allB xs lo hi)), false)], [])) : CallSpec Try.prog spec_allIn.E :=
  callSpec_of (d := 0) hX (by kernel_rfl) spec_allIn.I_ok (by kernel_rfl) (by kernel_rfl) (by kernel_rfl) (fun _ _ _ _ h => by dsimp only [spec_allIn.E] at h; cases h) (fun xs hp => by
    dsimp only [spec_allIn.E] at hp ⊢
    split at hp
    · exact h _ _ _ hp
    · cases hp)
theorem spec_allIn.loop (fuel : Nat) (xs : List Int) (lo hi : Int) (hx : xs.length < 9223372036854775808) : ∀ (m n j : Nat), xs.length - j = m → m < n → j ≤ xs.length →
    spec_allIn.L0 fuel n (spec_allIn.t0 xs lo hi (j : Int)) (spec_allIn.k0 fuel) = some ([.one (.bool (allB (xs.drop j) lo hi), false)], []) := by
  intro m
  induction m with
  | zero =>
    intro n j h1 h2 h3
    obtain ⟨n, rfl⟩ : ∃ n', n = n' + 1 := ⟨n - 1, by omega⟩
    have hj : ¬ j < xs.length := by omega
    rw [spec_allIn.s0, dge hj, dropE hj]
    rfl
  | succ m ih =>
    intro n j h1 h2 h3
    obtain ⟨n, rfl⟩ : ∃ n', n = n' + 1 := ⟨n - 1, by omega⟩
    have hj : j < xs.length := by omega
    rw [spec_allIn.s0, dlt hj, idx_nat hj, w1 (by omega), dropS hj]
    simp only [cond_true, Option.bind_some, getS hj, allB_cons]
    rw [ih n (j + 1) (by omega) (by omega) (by omega)]
    cases decide (lo ≤ xs[j]) && decide (xs[j] ≤ hi) <;> rfl

theorem spec_allIn.ok : CallSpec Try.prog spec_allIn.E := spec_allIn.ok_of (by simp [spec_allIn.X, spec_inRange.ok]) fun xs lo hi h => by
  simp only [decide_eq_true_eq] at h
  refine ⟨xs.length + 1, ?_⟩
  rw [spec_allIn.e]
  exact spec_allIn.loop (xs.length + 1) xs lo hi h xs.length (xs.length + 1) 0 (by omega) (by omega) (by omega)

namespace spec_volume
noncomputable def E : Entry := ⟨55, true, false, fun | [.d (.ints .i64 xs)] => decide (xs.length < 9223372036854775808) | _ => false, fun | [.d (.ints .i64 xs)] => ([.one ((.int .i64 (volW xs)), false)], []) | _ => ([], []), fun _ => [], false, fun _ => none⟩
end spec_volume
namespace spec_volume
noncomputable def X : List Entry := []
noncomputable def I : List Inl := [⟨55, Try.f55, ⟨[], [(1000003, [1, 2, 5, 6, 7, 8, 9, 10, 11, 12, 13, 14, 15, 16, 17])], [], [], [], []⟩⟩]
theorem I_ok : ∀ i ∈ I, Try.prog.funcs[i.f]? = some i.fn ∧ (i.fn.name == "runtime.NumGoroutine") = false := by
  intro i hi
  simp only [I, List.mem_cons, List.not_mem_nil, or_false] at hi
  subst hi
  exact ⟨by kernel_rfl, by kernel_rfl⟩
noncomputable abbrev L0 (fuel n : Nat) (s : St) (k : Kont) := lAt Try.prog X I fuel true 0 false 55 (bodyOf Try.f55) [1, 1, 0, 1, 0] n s k
noncomputable abbrev k0  (fuel : Nat) : Kont := (kAt Try.prog X I fuel true 0 false 55 (bodyOf Try.f55) [1, 1, 0, 1, 0] [] (endK Try.prog Try.f55))
noncomputable def t0 (p0 : List Int) (x0q1 : Int) (x0q2 : Int) : St := ⟨[(.imm (.ints .i64 p0)), .dead, .dead, (.imm (.int .i64 x0q1)), (.imm (.int .i64 x0q2)), .dead, .dead, .dead, .dead, .dead, .dead, .dead, .dead, .dead, .dead, .dead, .dead, .dead], hOf [], [], []⟩
theorem e (fuel : Nat) (p0 : List Int) : runF Try.prog X I 0 fuel 55 Try.f55 [.d (.ints .i64 p0)] =
  L0 fuel fuel (t0 p0 1 0) (k0  fuel) := by kernel_rfl
theorem s0 (fuel n0 : Nat) (p0 : List Int) (x0q1 : Int) (x0q2 : Int) : L0 fuel (n0 + 1) (t0 p0 x0q1 x0q2) (k0  fuel) =
  (bif (decide ((x0q2 : Int) < ((p0.length : Nat) : Int))) then
  (idx x0q2 p0.length).bind fun j5 =>
  (p0[j5]?).bind fun v6 =>
  L0 fuel n0 (t0 p0 ((IntKind.wrap .i64 (x0q1 * v6))) ((IntKind.wrap .i64 (x0q2 + 1)))) (k0  fuel)
  else
  some ([.one ((.int .i64 x0q1), false)], [])) := by kernel_rfl
end spec_volume
theorem spec_volume.ok_of (hX : ∀ E ∈ spec_volume.X, CallSpec Try.prog E) (h : ∀ (xs : List Int), (decide (xs.length < 9223372036854775808)) = true → ∃ fuel, runF Try.prog spec_volume.X spec_volume.I 0 fuel 55 Try.f55 [.d (.ints .i64 xs)] = some ([.one ((.int .i64 (volW xs)), false)], [])) : CallSpec Try.prog spec_volume.E :=
  callSpec_of (d := 0) hX (by kernel_rfl) spec_volume.I_ok (by kernel_rfl) (by kernel_rfl) (by kernel_rfl) (fun _ _ _ _ h => by dsimp only [spec_volume.E] at h; cases h) (fun xs hp => by
    dsimp only [spec_volume.E] at hp ⊢
    split at hp
    · exact h _ hp
    · cases hp)
theorem spec_volume.loop (fuel : Nat) (xs : List Int) (hx : xs.length < 9223372036854775808) : ∀ (m n j : Nat) (a : Int), xs.length - j = m → m < n → j ≤ xs.length →
    spec_volume.L0 fuel n (spec_volume.t0 xs a (j : Int)) (spec_volume.k0 fuel) = some ([.one (.int .i64 (volFrom (xs.drop j) a), false)], []) := by
  intro m
  induction m with
  | zero =>
    intro n j a h1 h2 h3
    obtain ⟨n, rfl⟩ : ∃ n', n = n' + 1 := ⟨n - 1, by omega⟩
    have hj : ¬ j < xs.length := by omega
    rw [spec_volume.s0, dge hj, dropE hj]
    rfl
  | succ m ih =>
    intro n j a h1 h2 h3
    obtain ⟨n, rfl⟩ : ∃ n', n = n' + 1 := ⟨n - 1, by omega⟩
    have hj : j < xs.length := by omega
    rw [spec_volume.s0, dlt hj, idx_nat hj, w1 (by omega), dropS hj]
    simp only [cond_true, Option.bind_some, getS hj, volFrom]
    exact ih n (j + 1) _ (by omega) (by omega) (by omega)

theorem spec_volume.ok : CallSpec Try.prog spec_volume.E := spec_volume.ok_of (by simp [spec_volume.X]) fun xs h => by
  simp only [decide_eq_true_eq] at h
  refine ⟨xs.length + 1, ?_⟩
  rw [spec_volume.e]
  exact spec_volume.loop (xs.length + 1) xs h xs.length (xs.length + 1) 0 1 (by omega) (by omega) (by omega)

namespace spec_validShape
noncomputable def E : Entry := ⟨34, true, false, fun | [.d (.ints .i64 sh)] => decide (sh.length < 9223372036854775808) | _ => false, fun | [.d (.ints .i64 sh)] => ([.one ((.bool (validS sh)), false)], []) | _ => ([], []), fun _ => [], false, fun _ => none⟩
end spec_validShape
namespace spec_validShape
noncomputable def X : List Entry := [spec_allIn.E, spec_volume.E]
noncomputable def I : List Inl := [⟨34, Try.f34, ⟨[], [], [], [], [], []⟩⟩]
theorem I_ok : ∀ i ∈ I, Try.prog.funcs[i.f]? = some i.fn ∧ (i.fn.name == "runtime.NumGoroutine") = false := by
  intro i hi
  simp only [I, List.mem_cons, List.not_mem_nil, or_false] at hi
  subst hi
  exact ⟨by kernel_rfl, by kernel_rfl⟩
theorem e (fuel : Nat) (p0 : List Int) : runF Try.prog X I 0 fuel 34 Try.f34 [.d (.ints .i64 p0)] =
  (bif (decide ((((p0.length : Nat) : Int) : Int) ≤ 3)) then
  (bif decide (p0.length < 9223372036854775808) then
  (bif (allB p0 0 60) then
  (bif decide (p0.length < 9223372036854775808) then
  some ([.one ((.bool (decide (((volW p0) : Int) ≤ 60))), false)], [])
  else
  none)
  else
  some ([.one ((.bool false), false)], []))
  else
  none)
  else
  some ([.one ((.bool false), false)], [])) := by kernel_rfl
end spec_validShape
theorem spec_validShape.ok_of (hX : ∀ E ∈ spec_validShape.X, CallSpec Try.prog E) (h : ∀ (sh : List Int), (decide (sh.length < 9223372036854775808)) = true → ∃ fuel, runF Try.prog spec_validShape.X spec_validShape.I 0 fuel 34 Try.f34 [.d (.ints .i64 sh)] = some ([.one ((.bool (validS sh)), false)], [])) : CallSpec Try.prog spec_validShape.E :=
  callSpec_of (d := 0) hX (by kernel_rfl) spec_validShape.I_ok (by kernel_rfl) (by kernel_rfl) (by kernel_rfl) (fun _ _ _ _ h => by dsimp only [spec_validShape.E] at h; cases h) (fun xs hp => by
    dsimp only [spec_validShape.E] at hp ⊢
    split at hp
    · exact h _ hp
    · cases hp)
theorem spec_validShape.ok : CallSpec Try.prog spec_validShape.E := spec_validShape.ok_of (by simp [spec_validShape.X, spec_allIn.ok, spec_volume.ok]) fun sh h => ⟨0, by
  rw [spec_validShape.e, h]
  unfold validS
  cases decide (((sh.length : Nat) : Int) ≤ 3) <;> cases allB sh 0 60 <;> rfl⟩

namespace spec_valid
noncomputable def E : Entry := ⟨42, true, false, fun | [.d (.agg [(.ints .i64 sh), (.ints .i64 da)])] => decide (sh.length < 9223372036854775808) && decide (da.length < 9223372036854775808) | _ => false, fun | [.d (.agg [(.ints .i64 sh), (.ints .i64 da)])] => ([.one ((.bool (validA sh da)), false)], []) | _ => ([], []), fun _ => [], false, fun _ => none⟩
end spec_valid
namespace spec_valid
noncomputable def X : List Entry := [spec_validShape.E, spec_volume.E, spec_allIn.E]
noncomputable def I : List Inl := [⟨42, Try.f42, ⟨[], [], [], [(1, [0, 1, 2, 3, 4, 7, 5, 6, 8, 9, 10, 11, 12, 13, 14, 15, 16, 17])], [], []⟩⟩]
theorem I_ok : ∀ i ∈ I, Try.prog.funcs[i.f]? = some i.fn ∧ (i.fn.name == "runtime.NumGoroutine") = false := by
  intro i hi
  simp only [I, List.mem_cons, List.not_mem_nil, or_false] at hi
  subst hi
  exact ⟨by kernel_rfl, by kernel_rfl⟩
theorem e (fuel : Nat) (p0q0 : List Int) (p0q1 : List Int) : runF Try.prog X I 0 fuel 42 Try.f42 [.d (.agg [(.ints .i64 p0q0), (.ints .i64 p0q1)])] =
  (bif decide (p0q0.length < 9223372036854775808) then
  (bif (validS p0q0) then
  (bif decide (p0q0.length < 9223372036854775808) then
  (bif ((((p0q1.length : Nat) : Int) : Int) == (volW p0q0)) then
  (bif decide (p0q1.length < 9223372036854775808) then
  some ([.one ((.bool (allB p0q1 ((-1000000)) 1000000)), false)], [])
  else
  none)
  else
  some ([.one ((.bool false), false)], []))
  else
  none)
  else
  some ([.one ((.bool false), false)], []))
  else
  none) := by kernel_rfl
end spec_valid
theorem spec_valid.ok_of (hX : ∀ E ∈ spec_valid.X, CallSpec Try.prog E) (h : ∀ (sh : List Int) (da : List Int), (decide (sh.length < 9223372036854775808) && decide (da.length < 9223372036854775808)) = true → ∃ fuel, runF Try.prog spec_valid.X spec_valid.I 0 fuel 42 Try.f42 [.d (.agg [(.ints .i64 sh), (.ints .i64 da)])] = some ([.one ((.bool (validA sh da)), false)], [])) : CallSpec Try.prog spec_valid.E :=
  callSpec_of (d := 0) hX (by kernel_rfl) spec_valid.I_ok (by kernel_rfl) (by kernel_rfl) (by kernel_rfl) (fun _ _ _ _ h => by dsimp only [spec_valid.E] at h; cases h) (fun xs hp => by
    dsimp only [spec_valid.E] at hp ⊢
    split at hp
    · exact h _ _ hp
    · cases hp)
theorem spec_valid.ok : CallSpec Try.prog spec_valid.E := spec_valid.ok_of (by simp [spec_valid.X, spec_validShape.ok, spec_volume.ok, spec_allIn.ok]) fun sh da h => ⟨0, by
  simp only [Bool.and_eq_true] at h
  rw [spec_valid.e, h.1, h.2]
  unfold validA
  cases validS sh <;> cases (((da.length : Nat) : Int) == volW sh) <;> rfl⟩

namespace spec_isAxis
noncomputable def E : Entry := ⟨30, true, false, fun | [.d (.agg [(.ints .i64 sh), (.ints .i64 da)]), .d (.int .i64 k)] => decide (sh.length < 9223372036854775808) && decide (da.length < 9223372036854775808) | _ => false, fun | [.d (.agg [(.ints .i64 sh), (.ints .i64 da)]), .d (.int .i64 k)] => ([.one ((.bool (axB sh da k)), false)], []) | _ => ([], []), fun _ => [], false, fun _ => none⟩
end spec_isAxis
namespace spec_isAxis
noncomputable def X : List Entry := [spec_valid.E, spec_inRange.E]
noncomputable def I : List Inl := [⟨30, Try.f30, ⟨[], [], [], [], [], []⟩⟩]
theorem I_ok : ∀ i ∈ I, Try.prog.funcs[i.f]? = some i.fn ∧ (i.fn.name == "runtime.NumGoroutine") = false := by
  intro i hi
  simp only [I, List.mem_cons, List.not_mem_nil, or_false] at hi
  subst hi
  exact ⟨by kernel_rfl, by kernel_rfl⟩
theorem e (fuel : Nat) (p0q0 : List Int) (p0q1 : List Int) (p1 : Int) : runF Try.prog X I 0 fuel 30 Try.f30 [.d (.agg [(.ints .i64 p0q0), (.ints .i64 p0q1)]), .d (.int .i64 p1)] =
  (bif decide (p0q0.length < 9223372036854775808) && decide (p0q1.length < 9223372036854775808) then
  (bif (validA p0q0 p0q1) then
  some ([.one ((.bool (decide (0 ≤ p1) && decide (p1 ≤ ((IntKind.wrap .i64 (((p0q0.length : Nat) : Int) - 1)))))), false)], [])
  else
  some ([.one ((.bool false), false)], []))
  else
  none) := by kernel_rfl
end spec_isAxis
theorem spec_isAxis.ok_of (hX : ∀ E ∈ spec_isAxis.X, CallSpec Try.prog E) (h : ∀ (sh : List Int) (da : List Int) (k : Int), (decide (sh.length < 9223372036854775808) && decide (da.length < 9223372036854775808)) = true → ∃ fuel, runF Try.prog spec_isAxis.X spec_isAxis.I 0 fuel 30 Try.f30 [.d (.agg [(.ints .i64 sh), (.ints .i64 da)]), .d (.int .i64 k)] = some ([.one ((.bool (axB sh da k)), false)], [])) : CallSpec Try.prog spec_isAxis.E :=
  callSpec_of (d := 0) hX (by kernel_rfl) spec_isAxis.I_ok (by kernel_rfl) (by kernel_rfl) (by kernel_rfl) (fun _ _ _ _ h => by dsimp only [spec_isAxis.E] at h; cases h) (fun xs hp => by
    dsimp only [spec_isAxis.E] at hp ⊢
    split at hp
    · exact h _ _ _ hp
    · cases hp)
theorem spec_isAxis.ok : CallSpec Try.prog spec_isAxis.E := spec_isAxis.ok_of (by simp [spec_isAxis.X, spec_valid.ok, spec_inRange.ok]) fun sh da k h => ⟨0, by
  rw [spec_isAxis.e, h]
  simp only [Bool.and_eq_true, decide_eq_true_eq] at h
  unfold axB axOk
  rw [wS (by omega) (by omega)]
  cases hv : validA sh da with
  | false => rfl
  | true =>
    have : decide (k ≤ ((sh.length : Nat) : Int) - 1) = decide (k < ((sh.length : Nat) : Int)) := decide_eq_decide.2 (by omega)
    simp only [this, Bool.true_and, cond_true]⟩

namespace spec_without
noncomputable def E : Entry := ⟨32, false, false, fun | [.d (.ints .i64 sh), .d (.int .i64 k)] => axOk sh k && validS sh | _ => false, fun | [.d (.ints .i64 sh), .d (.int .i64 k)] => ([.one ((.ints .i64 (sh.eraseIdx k.toNat)), true)], []) | _ => ([], []), fun _ => [], true, fun _ => none⟩
end spec_without
namespace spec_without
noncomputable def X : List Entry := []
noncomputable def I : List Inl := [⟨32, Try.f32, ⟨[], [], [], [(1, [1, 2, 5, 6, 7, 8, 3, 0, 4, 9, 10])], [13], []⟩⟩]
theorem I_ok : ∀ i ∈ I, Try.prog.funcs[i.f]? = some i.fn ∧ (i.fn.name == "runtime.NumGoroutine") = false := by
  intro i hi
  simp only [I, List.mem_cons, List.not_mem_nil, or_false] at hi
  subst hi
  exact ⟨by kernel_rfl, by kernel_rfl⟩
theorem e (fuel : Nat) (p0 : List Int) (p1 : Int) : runF Try.prog X I 0 fuel 32 Try.f32 [.d (.ints .i64 p0), .d (.int .i64 p1)] =
  (cutEnds p0.length (some (.imm (.int .i64 (IntKind.wrap .i64 (p1 + 1))))) (none)).bind fun cq1 =>
  (cutEnds p0.length (none) (some (.imm (.int .i64 p1)))).bind fun cq2 =>
  (bif fits (([] : List Int).length + ((p0.drop cq2.1).take (cq2.2 - cq2.1)).length) 8 then
  (bif fits ((([] : List Int) ++ ((p0.drop cq2.1).take (cq2.2 - cq2.1))).length + ((p0.drop cq1.1).take (cq1.2 - cq1.1)).length) 8 then
  some ([.one ((.ints .i64 ((([] : List Int) ++ ((p0.drop cq2.1).take (cq2.2 - cq2.1))) ++ ((p0.drop cq1.1).take (cq1.2 - cq1.1)))), true)], [])
  else
  none)
  else
  none) := by kernel_rfl
end spec_without
theorem spec_without.ok_of (hX : ∀ E ∈ spec_without.X, CallSpec Try.prog E) (h : ∀ (sh : List Int) (k : Int), (axOk sh k && validS sh) = true → ∃ fuel, runF Try.prog spec_without.X spec_without.I 0 fuel 32 Try.f32 [.d (.ints .i64 sh), .d (.int .i64 k)] = some ([.one ((.ints .i64 (sh.eraseIdx k.toNat)), true)], [])) : CallSpec Try.prog spec_without.E :=
  callSpec_of (d := 0) hX (by kernel_rfl) spec_without.I_ok (by kernel_rfl) (by kernel_rfl) (by kernel_rfl) (fun _ _ _ _ h => by dsimp only [spec_without.E] at h; cases h) (fun xs hp => by
    dsimp only [spec_without.E] at hp ⊢
    split at hp
    · exact h _ _ hp
    · cases hp)
theorem spec_without.ok : CallSpec Try.prog spec_without.E := spec_without.ok_of (by simp [spec_without.X]) fun sh k h => ⟨0, by
  rw [spec_without.e]
  simp only [Bool.and_eq_true] at h
  obtain ⟨e1, e2⟩ := axOk_nat h.1
  have hr := (validS_inv h.2).1
  generalize k.toNat = j at *
  subst e1
  rw [w1 (by omega), cut_lo (by omega), cut_hi (by omega)]
  simp only [Option.bind_some]
  rw [fitsOk (by simp; omega), cond_true, fitsOk (by simp; omega), cond_true, drop_take, List.drop_zero, Nat.sub_zero, List.nil_append, erase_eq]⟩

namespace spec_sameInts
noncomputable def E : Entry := ⟨31, true, false, fun | [.d (.ints .i64 xs), .d (.ints .i64 ys)] => decide (xs.length < 9223372036854775808) && decide (ys.length < 9223372036854775808) | _ => false, fun | [.d (.ints .i64 xs), .d (.ints .i64 ys)] => ([.one ((.bool (decide (xs = ys))), false)], []) | _ => ([], []), fun _ => [], false, fun _ => none⟩
end spec_sameInts
namespace spec_sameInts
noncomputable def X : List Entry := []
noncomputable def I : List Inl := [⟨31, Try.f31, ⟨[], [(1000004, [2, 3, 4, 6, 7, 8, 9, 10, 11, 12, 13, 14, 15, 16, 17, 18, 19, 20, 21, 22, 23, 24, 25])], [], [(6, [0, 1, 4, 5, 2, 3, 6, 7, 8])], [], []⟩⟩]
theorem I_ok : ∀ i ∈ I, Try.prog.funcs[i.f]? = some i.fn ∧ (i.fn.name == "runtime.NumGoroutine") = false := by
  intro i hi
  simp only [I, List.mem_cons, List.not_mem_nil, or_false] at hi
  subst hi
  exact ⟨by kernel_rfl, by kernel_rfl⟩
noncomputable abbrev L0 (fuel n : Nat) (s : St) (k : Kont) := lAt Try.prog X I fuel true 0 false 31 (bodyOf Try.f31) [1, 1, 0, 1, 0] n s k
noncomputable abbrev k0  (fuel : Nat) : Kont := (kAt Try.prog X I fuel true 0 false 31 (bodyOf Try.f31) [1, 1, 0, 1, 0] [] (endK Try.prog Try.f31))
noncomputable def t0 (p0 : List Int) (p1 : List Int) (x0q2 : Int) : St := ⟨[(.imm (.ints .i64 p0)), (.imm (.ints .i64 p1)), .dead, .dead, .dead, (.imm (.int .i64 x0q2)), .dead, .dead, .dead, .dead, .dead, .dead, .dead, .dead, .dead, .dead, .dead, .dead, .dead, .dead, .dead, .dead, .dead, .dead, .dead, .dead], hOf [], [], []⟩
theorem e (fuel : Nat) (p0 : List Int) (p1 : List Int) : runF Try.prog X I 0 fuel 31 Try.f31 [.d (.ints .i64 p0), .d (.ints .i64 p1)] =
  (bif ((((p0.length : Nat) : Int) : Int) != ((p1.length : Nat) : Int)) then
  some ([.one ((.bool false), false)], [])
  else
  L0 fuel fuel (t0 p0 p1 0) (k0  fuel)) := by kernel_rfl
theorem s0 (fuel n0 : Nat) (p0 : List Int) (p1 : List Int) (x0q2 : Int) : L0 fuel (n0 + 1) (t0 p0 p1 x0q2) (k0  fuel) =
  (bif (decide ((x0q2 : Int) < ((p0.length : Nat) : Int))) then
  (idx x0q2 p0.length).bind fun j9 =>
  (p0[j9]?).bind fun v10 =>
  (idx x0q2 p1.length).bind fun j11 =>
  (p1[j11]?).bind fun v12 =>
  (bif ((v10 : Int) != v12) then
  some ([.one ((.bool false), false)], [])
  else
  L0 fuel n0 (t0 p0 p1 ((IntKind.wrap .i64 (x0q2 + 1)))) (k0  fuel))
  else
  some ([.one ((.bool true), false)], [])) := by kernel_rfl
end spec_sameInts
theorem spec_sameInts.ok_of (hX : ∀ E ∈ spec_sameInts.X, CallSpec Try.prog E) (h : ∀ (xs : List Int) (ys : List Int), (decide (xs.length < 9223372036854775808) && decide (ys.length < 9223372036854775808)) = true → ∃ fuel, runF Try.prog spec_sameInts.X spec_sameInts.I 0 fuel 31 Try.f31 [.d (.ints .i64 xs), .d (.ints .i64 ys)] = some ([.one ((.bool (decide (xs = ys))), false)], [])) : CallSpec Try.prog spec_sameInts.E :=
  callSpec_of (d := 0) hX (by kernel_rfl) spec_sameInts.I_ok (by kernel_rfl) (by kernel_rfl) (by kernel_rfl) (fun _ _ _ _ h => by dsimp only [spec_sameInts.E] at h; cases h) (fun xs hp => by
    dsimp only [spec_sameInts.E] at hp ⊢
    split at hp
    · exact h _ _ hp
    · cases hp)
theorem spec_sameInts.loop (fuel : Nat) (xs ys : List Int) (hl : xs.length = ys.length) (hx : xs.length < 9223372036854775808) : ∀ (m n j : Nat), xs.length - j = m → m < n → j ≤ xs.length →
    spec_sameInts.L0 fuel n (spec_sameInts.t0 xs ys (j : Int)) (spec_sameInts.k0 fuel) = some ([.one (.bool (decide (xs.drop j = ys.drop j)), false)], []) := by
  intro m
  induction m with
  | zero =>
    intro n j h1 h2 h3
    obtain ⟨n, rfl⟩ : ∃ n', n = n' + 1 := ⟨n - 1, by omega⟩
    have hj : ¬ j < xs.length := by omega
    rw [spec_sameInts.s0, dge hj, dropE hj, dropE (xs := ys) (by omega)]
    rfl
  | succ m ih =>
    intro n j h1 h2 h3
    obtain ⟨n, rfl⟩ : ∃ n', n = n' + 1 := ⟨n - 1, by omega⟩
    have hj : j < xs.length := by omega
    have hj2 : j < ys.length := by omega
    rw [spec_sameInts.s0, dlt hj, idx_nat hj, idx_nat hj2, w1 (by omega), dropS hj, dropS hj2]
    simp only [cond_true, Option.bind_some, getS hj, getS hj2]
    rw [ih n (j + 1) (by omega) (by omega) (by omega)]
    by_cases hv : xs[j] = ys[j]
    · rw [hv]
      simp only [bne_self_eq_false, cond_false, List.cons.injEq, true_and]
    · have : (xs[j] != ys[j]) = true := by simp [hv]
      rw [this]
      simp only [cond_true, List.cons.injEq, hv, false_and, decide_false]

theorem spec_sameInts.ok : CallSpec Try.prog spec_sameInts.E := spec_sameInts.ok_of (by simp [spec_sameInts.X]) fun xs ys h => by
  simp only [Bool.and_eq_true, decide_eq_true_eq] at h
  refine ⟨xs.length + 1, ?_⟩
  rw [spec_sameInts.e]
  by_cases hl : xs.length = ys.length
  · have := spec_sameInts.loop (xs.length + 1) xs ys hl h.1 xs.length (xs.length + 1) 0 (by omega) (by omega) (by omega)
    simp only [List.drop_zero] at this
    simp only [hl, bne_self_eq_false, cond_false]
    rw [← hl]
    exact this
  · have hne : xs ≠ ys := fun e => hl (e ▸ rfl)
    have : (((xs.length : Nat) : Int) != ((ys.length : Nat) : Int)) = true := by simp; omega
    rw [this]
    simp [hne]

namespace spec_copyInts
noncomputable def E : Entry := ⟨33, false, false, fun | [.d (.ints .i64 xs)] => szB xs | _ => false, fun | [.d (.ints .i64 xs)] => ([.one ((.ints .i64 xs), true)], []) | _ => ([], []), fun _ => [], true, fun _ => none⟩
end spec_copyInts
namespace spec_copyInts
noncomputable def X : List Entry := []
noncomputable def I : List Inl := [⟨33, Try.f33, ⟨[], [], [], [], [], []⟩⟩]
theorem I_ok : ∀ i ∈ I, Try.prog.funcs[i.f]? = some i.fn ∧ (i.fn.name == "runtime.NumGoroutine") = false := by
  intro i hi
  simp only [I, List.mem_cons, List.not_mem_nil, or_false] at hi
  subst hi
  exact ⟨by kernel_rfl, by kernel_rfl⟩
theorem e (fuel : Nat) (p0 : List Int) : runF Try.prog X I 0 fuel 33 Try.f33 [.d (.ints .i64 p0)] =
  (bif fits (([] : List Int).length + p0.length) 8 then
  some ([.one ((.ints .i64 (([] : List Int) ++ p0)), true)], [])
  else
  none) := by kernel_rfl
end spec_copyInts
theorem spec_copyInts.ok_of (hX : ∀ E ∈ spec_copyInts.X, CallSpec Try.prog E) (h : ∀ (xs : List Int), (szB xs) = true → ∃ fuel, runF Try.prog spec_copyInts.X spec_copyInts.I 0 fuel 33 Try.f33 [.d (.ints .i64 xs)] = some ([.one ((.ints .i64 xs), true)], [])) : CallSpec Try.prog spec_copyInts.E :=
  callSpec_of (d := 0) hX (by kernel_rfl) spec_copyInts.I_ok (by kernel_rfl) (by kernel_rfl) (by kernel_rfl) (fun _ _ _ _ h => by dsimp only [spec_copyInts.E] at h; cases h) (fun xs hp => by
    dsimp only [spec_copyInts.E] at hp ⊢
    split at hp
    · exact h _ hp
    · cases hp)
theorem spec_copyInts.ok : CallSpec Try.prog spec_copyInts.E := spec_copyInts.ok_of (by simp [spec_copyInts.X]) fun xs h => ⟨0, by
  have hx := szB_le h
  rw [spec_copyInts.e, fitsOk (by simp; omega)]
  rfl⟩

namespace spec_around
noncomputable def E : Entry := ⟨35, true, false, fun | [.d (.ints .i64 sh), .d (.int .i64 k)] => validS sh && axOk sh k | _ => false, fun | [.d (.ints .i64 sh), .d (.int .i64 k)] => ([.one ((.int .i64 ((befN sh k.toNat : Nat) : Int)), false), .one ((.int .i64 ((behN sh k.toNat : Nat) : Int)), false)], []) | _ => ([], []), fun _ => [], false, fun _ => none⟩
end spec_around
namespace spec_around
noncomputable def X : List Entry := [spec_volume.E]
noncomputable def I : List Inl := [⟨35, Try.f35, ⟨[], [], [], [(1, [0, 1, 4, 5, 6, 2, 3, 7, 8, 9, 10])], [], []⟩⟩]
theorem I_ok : ∀ i ∈ I, Try.prog.funcs[i.f]? = some i.fn ∧ (i.fn.name == "runtime.NumGoroutine") = false := by
  intro i hi
  simp only [I, List.mem_cons, List.not_mem_nil, or_false] at hi
  subst hi
  exact ⟨by kernel_rfl, by kernel_rfl⟩
theorem e (fuel : Nat) (p0 : List Int) (p1 : Int) : runF Try.prog X I 0 fuel 35 Try.f35 [.d (.ints .i64 p0), .d (.int .i64 p1)] =
  (cutEnds p0.length (none) (some (.imm (.int .i64 p1)))).bind fun cq1 =>
  (bif decide ((((p0.drop cq1.1).take (cq1.2 - cq1.1))).length < 9223372036854775808) then
  (cutEnds p0.length (some (.imm (.int .i64 (IntKind.wrap .i64 (p1 + 1))))) (none)).bind fun cq2 =>
  (bif decide ((((p0.drop cq2.1).take (cq2.2 - cq2.1))).length < 9223372036854775808) then
  some ([.one ((.int .i64 (volW (((p0.drop cq1.1).take (cq1.2 - cq1.1))))), false), .one ((.int .i64 (volW (((p0.drop cq2.1).take (cq2.2 - cq2.1))))), false)], [])
  else
  none)
  else
  none) := by kernel_rfl
end spec_around
theorem spec_around.ok_of (hX : ∀ E ∈ spec_around.X, CallSpec Try.prog E) (h : ∀ (sh : List Int) (k : Int), (validS sh && axOk sh k) = true → ∃ fuel, runF Try.prog spec_around.X spec_around.I 0 fuel 35 Try.f35 [.d (.ints .i64 sh), .d (.int .i64 k)] = some ([.one ((.int .i64 ((befN sh k.toNat : Nat) : Int)), false), .one ((.int .i64 ((behN sh k.toNat : Nat) : Int)), false)], [])) : CallSpec Try.prog spec_around.E :=
  callSpec_of (d := 0) hX (by kernel_rfl) spec_around.I_ok (by kernel_rfl) (by kernel_rfl) (by kernel_rfl) (fun _ _ _ _ h => by dsimp only [spec_around.E] at h; cases h) (fun xs hp => by
    dsimp only [spec_around.E] at hp ⊢
    split at hp
    · exact h _ _ hp
    · cases hp)
theorem spec_around.ok : CallSpec Try.prog spec_around.E := spec_around.ok_of (by simp [spec_around.X, spec_volume.ok]) fun sh k h => ⟨0, by
  rw [spec_around.e]
  simp only [Bool.and_eq_true] at h
  obtain ⟨e1, e2⟩ := axOk_nat h.2
  have ax := ax_of h.1 e2
  have hr := ax.rank
  generalize k.toNat = j at *
  subst e1
  rw [cut_hi (by omega), w1 (by omega), cut_lo (by omega)]
  simp only [Option.bind_some, List.drop_zero, Nat.sub_zero, drop_take]
  rw [lt_of (by simp; omega), lt_of (by simp; omega), ax.bef, ax.beh]
  rfl⟩

namespace spec_make1
noncomputable def E : Entry := ⟨36, false, false, fun | [.d (.ints .i64 sh), .d (.ints .i64 da)] => szB sh && szB da | _ => false, fun | [.d (.ints .i64 sh), .d (.ints .i64 da)] => ([.agg [((.ints .i64 sh), true), ((.ints .i64 da), true)]], []) | _ => ([], []), fun _ => [], true, fun _ => none⟩
end spec_make1
namespace spec_make1
noncomputable def X : List Entry := [spec_copyInts.E]
noncomputable def I : List Inl := [⟨36, Try.f36, ⟨[6, 8], [], [], [], [], []⟩⟩]
theorem I_ok : ∀ i ∈ I, Try.prog.funcs[i.f]? = some i.fn ∧ (i.fn.name == "runtime.NumGoroutine") = false := by
  intro i hi
  simp only [I, List.mem_cons, List.not_mem_nil, or_false] at hi
  subst hi
  exact ⟨by kernel_rfl, by kernel_rfl⟩
theorem e (fuel : Nat) (p0 : List Int) (p1 : List Int) : runF Try.prog X I 0 fuel 36 Try.f36 [.d (.ints .i64 p0), .d (.ints .i64 p1)] =
  (bif szB p0 then
  (bif szB p1 then
  some ([.agg [((.ints .i64 p0), true), ((.ints .i64 p1), true)]], [])
  else
  none)
  else
  none) := by kernel_rfl
end spec_make1
theorem spec_make1.ok_of (hX : ∀ E ∈ spec_make1.X, CallSpec Try.prog E) (h : ∀ (sh : List Int) (da : List Int), (szB sh && szB da) = true → ∃ fuel, runF Try.prog spec_make1.X spec_make1.I 0 fuel 36 Try.f36 [.d (.ints .i64 sh), .d (.ints .i64 da)] = some ([.agg [((.ints .i64 sh), true), ((.ints .i64 da), true)]], [])) : CallSpec Try.prog spec_make1.E :=
  callSpec_of (d := 0) hX (by kernel_rfl) spec_make1.I_ok (by kernel_rfl) (by kernel_rfl) (by kernel_rfl) (fun _ _ _ _ h => by dsimp only [spec_make1.E] at h; cases h) (fun xs hp => by
    dsimp only [spec_make1.E] at hp ⊢
    split at hp
    · exact h _ _ hp
    · cases hp)
theorem spec_make1.ok : CallSpec Try.prog spec_make1.E := spec_make1.ok_of (by simp [spec_make1.X, spec_copyInts.ok]) fun sh da h => ⟨0, by
  simp only [Bool.and_eq_true] at h
  rw [spec_make1.e, h.1, h.2]
  rfl⟩

namespace impl_layoutOf
noncomputable def E : Entry := ⟨40, false, false, fun | [.d (.ints .i64 sh)] => decide (sh.length < 9223372036854775808) | _ => false, fun | [.d (.ints .i64 sh)] => ([.agg [((.ints .i64 nilI), true), ((.int .i64 0), false), ((.int .i64 0), false), ((.int .i64 0), false), ((.int .i64 0), false)], .one ((.bool false), false)], []) | _ => ([], []), fun | [.d (.ints .i64 sh)] => [(validS sh, ([.agg [((.ints .i64 sh), false), ((.int .i64 (strd sh 0)), false), ((.int .i64 (strd sh 1)), false), ((.int .i64 (strd sh 2)), false), ((.int .i64 (volW sh)), false)], .one ((.bool true), false)], []))] | _ => [], true, fun _ => none⟩
end impl_layoutOf
namespace impl_layoutOf
noncomputable def X : List Entry := []
noncomputable def I : List Inl := [⟨40, Try.f40, ⟨[], [(1000005, [1, 3, 6, 7, 8, 9, 10, 11, 12, 13, 14, 15, 16, 17, 18, 19, 20, 21, 22, 23, 24, 25, 26, 27, 28, 29, 30, 31, 32, 33, 34, 35, 36, 37, 38, 39, 40, 41, 42, 43, 44, 45, 46, 47, 48, 49])], [], [(10, [0, 2, 3, 1, 4, 5, 6, 7, 8])], [], []⟩⟩]
theorem I_ok : ∀ i ∈ I, Try.prog.funcs[i.f]? = some i.fn ∧ (i.fn.name == "runtime.NumGoroutine") = false := by
  intro i hi
  simp only [I, List.mem_cons, List.not_mem_nil, or_false] at hi
  subst hi
  exact ⟨by kernel_rfl, by kernel_rfl⟩
noncomputable abbrev L0 (fuel n : Nat) (s : St) (k : Kont) := lAt Try.prog X I fuel true 0 false 40 (bodyOf Try.f40) [1, 1, 1, 0, 1, 0] n s k
noncomputable abbrev k0  (fuel : Nat) : Kont := (kAt Try.prog X I fuel true 0 false 40 (bodyOf Try.f40) [1, 1, 1, 0, 1, 0] [] (endK Try.prog Try.f40))
noncomputable def t0 (p0 : List Int) (x0q1 : Int) (x0q7 : Int) (x0q8 : Int) (x0q9 : Int) (x0q10 : Int) : St := ⟨[(.imm (.ints .i64 p0)), .dead, (.ptr 1000000000 0 0), .dead, (.ptr 1000000001 0 0), (.imm (.int .i64 x0q1)), .dead, .dead, .dead, .dead, .dead, .dead, .dead, .dead, .dead, .dead, .dead, .dead, .dead, .dead, .dead, .dead, .dead, .dead, .dead, .dead, .dead, .dead, .dead, .dead, .dead, .dead, .dead, .dead, .dead, .dead, .dead, .dead, .dead, .dead, .dead, .dead, .dead, .dead, .dead, .dead, .dead, .dead, .dead, .dead], hOf [(1000000000, (.box [(.imm .nils), (.imm (.int .i64 0)), (.imm (.int .i64 0)), (.imm (.int .i64 0)), (.imm (.int .i64 0))])), (1000000001, (.box [(.imm (.ints .i64 p0)), (.imm (.int .i64 x0q7)), (.imm (.int .i64 x0q8)), (.imm (.int .i64 x0q9)), (.imm (.int .i64 x0q10))]))], [], []⟩
theorem e (fuel : Nat) (p0 : List Int) : runF Try.prog X I 0 fuel 40 Try.f40 [.d (.ints .i64 p0)] =
  (bif (decide ((((p0.length : Nat) : Int) : Int) > 3)) then
  some ([.agg [((.ints .i64 []), true), ((.int .i64 0), false), ((.int .i64 0), false), ((.int .i64 0), false), ((.int .i64 0), false)], .one ((.bool false), false)], [])
  else
  L0 fuel fuel (t0 p0 ((IntKind.wrap .i64 (((p0.length : Nat) : Int) - 1))) 0 0 0 1) (k0  fuel)) := by kernel_rfl
theorem s0 (fuel n0 : Nat) (p0 : List Int) (x0q1 : Int) (x0q7 : Int) (x0q8 : Int) (x0q9 : Int) (x0q10 : Int) : L0 fuel (n0 + 1) (t0 p0 x0q1 x0q7 x0q8 x0q9 x0q10) (k0  fuel) =
  (bif (decide ((x0q1 : Int) ≥ 0)) then
  (idx x0q1 p0.length).bind fun j21 =>
  (p0[j21]?).bind fun v22 =>
  (bif (decide ((v22 : Int) < 0)) then
  some ([.agg [((.ints .i64 []), true), ((.int .i64 0), false), ((.int .i64 0), false), ((.int .i64 0), false), ((.int .i64 0), false)], .one ((.bool false), false)], [])
  else
  (idx x0q1 p0.length).bind fun j23 =>
  (p0[j23]?).bind fun v24 =>
  (bif (decide ((v24 : Int) > 60)) then
  some ([.agg [((.ints .i64 []), true), ((.int .i64 0), false), ((.int .i64 0), false), ((.int .i64 0), false), ((.int .i64 0), false)], .one ((.bool false), false)], [])
  else
  (bif decide (x0q1 = ((0 : Nat) : Int)) then
  (idx x0q1 p0.length).bind fun j29 =>
  (p0[j29]?).bind fun v30 =>
  L0 fuel n0 (t0 p0 ((IntKind.wrap .i64 (x0q1 - 1))) x0q10 x0q8 x0q9 ((IntKind.wrap .i64 (x0q10 * v30)))) (k0  fuel)
  else
  (bif decide (x0q1 = ((1 : Nat) : Int)) then
  (idx x0q1 p0.length).bind fun j27 =>
  (p0[j27]?).bind fun v28 =>
  L0 fuel n0 (t0 p0 ((IntKind.wrap .i64 (x0q1 - 1))) x0q7 x0q10 x0q9 ((IntKind.wrap .i64 (x0q10 * v28)))) (k0  fuel)
  else
  (bif decide (x0q1 = ((2 : Nat) : Int)) then
  (idx x0q1 p0.length).bind fun j25 =>
  (p0[j25]?).bind fun v26 =>
  L0 fuel n0 (t0 p0 ((IntKind.wrap .i64 (x0q1 - 1))) x0q7 x0q8 x0q10 ((IntKind.wrap .i64 (x0q10 * v26)))) (k0  fuel)
  else
  none)))))
  else
  (bif (decide ((x0q10 : Int) > 60)) then
  some ([.agg [((.ints .i64 []), true), ((.int .i64 0), false), ((.int .i64 0), false), ((.int .i64 0), false), ((.int .i64 0), false)], .one ((.bool false), false)], [])
  else
  some ([.agg [((.ints .i64 p0), false), ((.int .i64 x0q7), false), ((.int .i64 x0q8), false), ((.int .i64 x0q9), false), ((.int .i64 x0q10), false)], .one ((.bool true), false)], []))) := by kernel_rfl
end impl_layoutOf
theorem impl_layoutOf.ok_of (hX : ∀ E ∈ impl_layoutOf.X, CallSpec Try.prog E) (h : ∀ (sh : List Int), (decide (sh.length < 9223372036854775808)) = true → ∃ fuel, runF Try.prog impl_layoutOf.X impl_layoutOf.I 0 fuel 40 Try.f40 [.d (.ints .i64 sh)] = some (bif validS sh then ([.agg [((.ints .i64 sh), false), ((.int .i64 (strd sh 0)), false), ((.int .i64 (strd sh 1)), false), ((.int .i64 (strd sh 2)), false), ((.int .i64 (volW sh)), false)], .one ((.bool true), false)], []) else ([.agg [((.ints .i64 nilI), true), ((.int .i64 0), false), ((.int .i64 0), false), ((.int .i64 0), false), ((.int .i64 0), false)], .one ((.bool false), false)], []))) : CallSpec Try.prog impl_layoutOf.E :=
  callSpec_of (d := 0) hX (by kernel_rfl) impl_layoutOf.I_ok (by kernel_rfl) (by kernel_rfl) (by kernel_rfl) (fun _ _ _ _ h => by dsimp only [impl_layoutOf.E] at h; cases h) (fun xs hp => by
    dsimp only [impl_layoutOf.E] at hp ⊢
    split at hp
    · exact h _ hp
    · cases hp)
theorem impl_layoutOf.bad (fuel n : Nat) (sh : List Int) (k : Nat) (v : Int) (s0 s1 s2 z : Int) (hk : k < sh.length) (hv : sh[k]? = some v) (h : ¬ (0 ≤ v ∧ v ≤ 60)) :
    impl_layoutOf.L0 fuel (n + 1) (impl_layoutOf.t0 sh (k : Int) s0 s1 s2 z) (impl_layoutOf.k0 fuel) = some ([.agg [(.ints .i64 [], true), (.int .i64 0, false), (.int .i64 0, false), (.int .i64 0, false), (.int .i64 0, false)], .one (.bool false, false)], []) := by
  rw [impl_layoutOf.s0, decide_eq_true (by omega), idx_nat hk]
  simp only [cond_true, Option.bind_some, hv]
  by_cases h0 : v < 0
  · rw [decide_eq_true h0]; rfl
  · rw [decide_eq_false h0, decide_eq_true (by omega)]; rfl
theorem impl_layoutOf.good (fuel n : Nat) (sh : List Int) (k : Nat) (v : Int) (s0 s1 s2 z : Int) (hk : k < sh.length) (hv : sh[k]? = some v) (h : 0 ≤ v ∧ v ≤ 60) (hk3 : k < 3) :
    impl_layoutOf.L0 fuel (n + 1) (impl_layoutOf.t0 sh (k : Int) s0 s1 s2 z) (impl_layoutOf.k0 fuel) =
      impl_layoutOf.L0 fuel n (impl_layoutOf.t0 sh ((k : Int) - 1) (bif k == 0 then z else s0) (bif k == 1 then z else s1) (bif k == 2 then z else s2) (IntKind.wrap .i64 (z * v))) (impl_layoutOf.k0 fuel) := by
  rw [impl_layoutOf.s0, decide_eq_true (by omega), idx_nat hk]
  simp only [cond_true, Option.bind_some, hv]
  rw [decide_eq_false (p := v < 0) (by omega), decide_eq_false (p := v > 60) (by omega), wS (x := (k : Int) - 1) (by omega) (by omega)]
  simp only [cond_false]
  match k, hk3 with
  | 0, _ => rfl
  | 1, _ => rfl
  | 2, _ => rfl
theorem impl_layoutOf.last (fuel n : Nat) (sh : List Int) (i : Int) (s0 s1 s2 z : Int) (hi : i < 0) :
    impl_layoutOf.L0 fuel (n + 1) (impl_layoutOf.t0 sh i s0 s1 s2 z) (impl_layoutOf.k0 fuel) = 
      bif decide (z ≤ 60) then some ([.agg [(.ints .i64 sh, false), (.int .i64 s0, false), (.int .i64 s1, false), (.int .i64 s2, false), (.int .i64 z, false)], .one (.bool true, false)], [])
      else some ([.agg [(.ints .i64 [], true), (.int .i64 0, false), (.int .i64 0, false), (.int .i64 0, false), (.int .i64 0, false)], .one (.bool false, false)], []) := by
  rw [impl_layoutOf.s0, decide_eq_false (by omega)]
  simp only [cond_false]
  by_cases hz : z ≤ 60
  · rw [decide_eq_true hz, decide_eq_false (by omega)]; rfl
  · rw [decide_eq_false hz, decide_eq_true (by omega)]; rfl
theorem rng_dec {v : Int} (h : 0 ≤ v ∧ v ≤ 60) : (decide (0 ≤ v) && decide (v ≤ 60)) = true := by simp [h.1, h.2]
theorem rng_bad {v : Int} (h : ¬ (0 ≤ v ∧ v ≤ 60)) : (decide (0 ≤ v) && decide (v ≤ 60)) = false := by
  cases hb : (decide (0 ≤ v) && decide (v ≤ 60)) with
  | false => rfl
  | true => simp at hb; exact absurd hb h
theorem validS1 (a : Int) : validS [a] = ((decide (0 ≤ a) && decide (a ≤ 60)) && decide (IntKind.wrap .i64 (1 * a) ≤ 60)) := by
  simp only [validS, allB_cons, allB_nil, Bool.and_true, volW, volFrom]; rfl
theorem validS2 (a b : Int) : validS [a, b] = ((decide (0 ≤ a) && decide (a ≤ 60)) && (decide (0 ≤ b) && decide (b ≤ 60)) && decide (IntKind.wrap .i64 (IntKind.wrap .i64 (1 * a) * b) ≤ 60)) := by
  simp only [validS, allB_cons, allB_nil, Bool.and_true, volW, volFrom]; rfl
theorem validS3 (a b c : Int) : validS [a, b, c] = ((decide (0 ≤ a) && decide (a ≤ 60)) && ((decide (0 ≤ b) && decide (b ≤ 60)) && (decide (0 ≤ c) && decide (c ≤ 60))) && decide (IntKind.wrap .i64 (IntKind.wrap .i64 (IntKind.wrap .i64 (1 * a) * b) * c) ≤ 60)) := by
  simp only [validS, allB_cons, allB_nil, Bool.and_true, volW, volFrom]; rfl
theorem impl_layoutOf.ok : CallSpec Try.prog impl_layoutOf.E := impl_layoutOf.ok_of (by simp [impl_layoutOf.X]) fun sh h => by
  refine ⟨5, ?_⟩
  rw [impl_layoutOf.e]
  match sh with
  | [] => rw [show decide (((([] : List Int).length : Nat) : Int) > 3) = false from rfl, cond_false, impl_layoutOf.last _ _ _ _ _ _ _ _ (by decide)]; rfl
  | [a] =>
    rw [show decide (((([a] : List Int).length : Nat) : Int) > 3) = false from rfl, cond_false, show IntKind.wrap .i64 ((([a] : List Int).length : Nat) - 1) = ((0 : Nat) : Int) from rfl, validS1]
    by_cases h1 : 0 ≤ a ∧ a ≤ 60
    · rw [impl_layoutOf.good _ _ _ _ a _ _ _ _ (by simp) rfl h1 (by omega), impl_layoutOf.last _ _ _ _ _ _ _ _ (by decide), rng_dec h1, Int.one_mul, wS (x := a) (by omega) (by omega)]
      simp only [strd, volW, volFrom, Int.one_mul, wS (x := a) (by omega) (by omega)]
      cases decide (a ≤ 60) <;> rfl
    · rw [impl_layoutOf.bad _ _ _ _ a _ _ _ _ (by simp) rfl h1, rng_bad h1]; rfl
  | [a, b] =>
    rw [show decide (((([a, b] : List Int).length : Nat) : Int) > 3) = false from rfl, cond_false, show IntKind.wrap .i64 ((([a, b] : List Int).length : Nat) - 1) = ((1 : Nat) : Int) from rfl, validS2]
    by_cases h1 : 0 ≤ b ∧ b ≤ 60
    case neg => rw [impl_layoutOf.bad _ _ _ _ b _ _ _ _ (by simp) rfl h1, rng_bad h1, Bool.and_false]; rfl
    rw [impl_layoutOf.good _ _ _ _ b _ _ _ _ (by simp) rfl h1 (by omega), show (((1 : Nat) : Int) - 1) = ((0 : Nat) : Int) from rfl]
    by_cases h2 : 0 ≤ a ∧ a ≤ 60
    case neg => rw [impl_layoutOf.bad _ _ _ _ a _ _ _ _ (by simp) rfl h2, rng_bad h2]; rfl
    have hm := mul60 h2.1 h2.2 h1.1 h1.2
    rw [impl_layoutOf.good _ _ _ _ a _ _ _ _ (by simp) rfl h2 (by omega), impl_layoutOf.last _ _ _ _ _ _ _ _ (by decide), rng_dec h1, rng_dec h2, Int.one_mul, Int.one_mul, wS (x := a) (by omega) (by omega), wS (x := b) (by omega) (by omega), Int.mul_comm b a, wS (x := a * b) (by omega) (by omega)]
    simp only [strd, volW, volFrom, Int.one_mul, wS (x := a) (by omega) (by omega), wS (x := b) (by omega) (by omega), wS (x := a * b) (by omega) (by omega), List.drop_succ_cons, List.drop_zero]
    cases decide (a * b ≤ 60) <;> rfl
  | [a, b, c] =>
    rw [show decide (((([a, b, c] : List Int).length : Nat) : Int) > 3) = false from rfl, cond_false, show IntKind.wrap .i64 ((([a, b, c] : List Int).length : Nat) - 1) = ((2 : Nat) : Int) from rfl, validS3]
    by_cases h0 : 0 ≤ c ∧ c ≤ 60
    case neg => rw [impl_layoutOf.bad _ _ _ _ c _ _ _ _ (by simp) rfl h0, rng_bad h0, Bool.and_false, Bool.and_false]; rfl
    rw [impl_layoutOf.good _ _ _ _ c _ _ _ _ (by simp) rfl h0 (by omega), show (((2 : Nat) : Int) - 1) = ((1 : Nat) : Int) from rfl]
    by_cases h1 : 0 ≤ b ∧ b ≤ 60
    case neg => rw [impl_layoutOf.bad _ _ _ _ b _ _ _ _ (by simp) rfl h1, rng_bad h1, Bool.false_and, Bool.and_false]; rfl
    rw [impl_layoutOf.good _ _ _ _ b _ _ _ _ (by simp) rfl h1 (by omega), show (((1 : Nat) : Int) - 1) = ((0 : Nat) : Int) from rfl]
    by_cases h2 : 0 ≤ a ∧ a ≤ 60
    case neg => rw [impl_layoutOf.bad _ _ _ _ a _ _ _ _ (by simp) rfl h2, rng_bad h2]; rfl
    have hm := mul60 h2.1 h2.2 h1.1 h1.2
    have hm1 := mul60 h1.1 h1.2 h0.1 h0.2
    have hm3 := mul3600 hm.1 hm.2 h0.1 h0.2
    have hc : b * c * a = a * b * c := by rw [Int.mul_comm (b * c) a, Int.mul_assoc]
    rw [impl_layoutOf.good _ _ _ _ a _ _ _ _ (by simp) rfl h2 (by omega), impl_layoutOf.last _ _ _ _ _ _ _ _ (by decide), rng_dec h0, rng_dec h1, rng_dec h2, Int.one_mul, Int.one_mul, wS (x := a) (by omega) (by omega), wS (x := c) (by omega) (by omega), Int.mul_comm c b, wS (x := a * b) (by omega) (by omega), wS (x := b * c) (by omega) (by omega), hc, wS (x := a * b * c) (by omega) (by omega)]
    simp only [strd, volW, volFrom, Int.one_mul, wS (x := a) (by omega) (by omega), wS (x := b) (by omega) (by omega), wS (x := c) (by omega) (by omega), wS (x := a * b) (by omega) (by omega), wS (x := b * c) (by omega) (by omega), wS (x := a * b * c) (by omega) (by omega), List.drop_succ_cons, List.drop_zero]
    cases decide (a * b * c ≤ 60) <;> rfl
  | a :: b :: c :: d :: t =>
    have h1 : ((((a :: b :: c :: d :: t).length : Nat) : Int) > 3) := by simp; omega
    have h2 : ¬ ((((a :: b :: c :: d :: t).length : Nat) : Int) ≤ 3) := by omega
    have h3 : validS (a :: b :: c :: d :: t) = false := by unfold validS; rw [decide_eq_false h2]; rfl
    rw [decide_eq_true h1, h3]
    rfl

namespace impl_layoutOf_j
noncomputable def E : Entry := ⟨40, false, false, fun | [.d (.ints .i64 sh)] => decide (sh.length < 9223372036854775808) | _ => false, fun | [.d (.ints .i64 sh)] => ([.agg [(.junk, false), ((.int .i64 0), false), ((.int .i64 0), false), ((.int .i64 0), false), ((.int .i64 0), false)], .one ((.bool false), false)], []) | _ => ([], []), fun | [.d (.ints .i64 sh)] => [(validS sh, ([.agg [(.junk, false), ((.int .i64 (strd sh 0)), false), ((.int .i64 (strd sh 1)), false), ((.int .i64 (strd sh 2)), false), ((.int .i64 (volW sh)), false)], .one ((.bool true), false)], []))] | _ => [], true, fun _ => none⟩
end impl_layoutOf_j
theorem impl_layoutOf_j.ok : CallSpec Try.prog impl_layoutOf_j.E := CallSpec.le impl_layoutOf.ok rfl (fun _ _ _ _ h => by dsimp only [impl_layoutOf_j.E] at h; cases h) fun xs h => by
  dsimp only [impl_layoutOf_j.E] at h
  split at h
  case h_2 => simp at h
  rename_i sh
  refine ⟨h, ?_⟩
  simp only [Entry.r, impl_layoutOf_j.E, impl_layoutOf.E, pickR]
  cases hv : validS sh
  · refine ⟨.agg rfl (fun i h1 h2 => ?_) (.same .nil), rfl⟩
    match i, h1 with
    | 0, _ => exact .inr (.inr (.inl ⟨rfl, _, _, rfl⟩))
    | 1, _ | 2, _ | 3, _ | 4, _ => exact .inl rfl
  · refine ⟨.agg rfl (fun i h1 h2 => ?_) (.same .nil), rfl⟩
    match i, h1 with
    | 0, _ => exact .inr (.inl ⟨rfl, rfl, rfl, rfl⟩)
    | 1, _ | 2, _ | 3, _ | 4, _ => exact .inl rfl

namespace spec_JoinAxis
noncomputable def E : Entry := ⟨10, false, false, fun | [.d (.agg [(.ints .i64 sa), (.ints .i64 da)]), .d (.agg [(.ints .i64 sb), (.ints .i64 db)]), .d (.int .i64 k)] => decide (sa.length < 9223372036854775808) && decide (da.length < 9223372036854775808) && decide (sb.length < 9223372036854775808) && decide (db.length < 9223372036854775808) | _ => false, fun | [.d (.agg [(.ints .i64 sa), (.ints .i64 da)]), .d (.agg [(.ints .i64 sb), (.ints .i64 db)]), .d (.int .i64 k)] => ([.agg [((.ints .i64 (joS sa da sb db k)), true), ((.ints .i64 (joD sa da sb db k)), true)], .one ((.bool (joB sa da sb db k)), false)], []) | _ => ([], []), fun _ => [], true, fun _ => none⟩
end spec_JoinAxis
namespace spec_JoinAxis
noncomputable def X : List Entry := [spec_isAxis.E, spec_without.E, spec_sameInts.E, spec_copyInts.E, spec_validShape.E, spec_around.E, spec_make1.E]
noncomputable def I : List Inl := [⟨10, Try.f10, ⟨[29, 33, 49, 121], [(1000012, [0, 1, 2, 5, 7, 11, 15, 16, 17, 18, 19, 20, 21, 22, 23, 24, 25, 26, 27, 28, 29, 30, 31, 32, 33, 34, 35, 36, 37, 38, 39, 40, 41, 42, 43, 44, 45, 46, 47, 48, 49, 50, 51, 52, 53, 54, 55, 56, 57, 58, 59, 60, 61, 62, 63, 64, 65, 66, 67, 68, 69, 70, 71, 72, 73, 74, 75, 76, 77, 78, 79, 80, 81, 82, 83, 84, 85, 86, 87, 88, 89, 90, 91, 92, 93, 94, 95, 96, 97, 98, 99, 100, 101, 102, 103, 104, 105, 106, 107, 108, 109, 110, 111, 112, 113, 114, 115, 116, 117, 118, 119, 120, 121])], [], [(1, [1, 0, 2, 3, 4, 6, 5, 7, 8, 9, 10, 11, 13, 15, 17, 12, 16, 14, 18, 19, 20, 21, 22, 23, 26, 24, 25, 27, 28, 29, 30]), (4, [0, 1, 2, 4, 7, 9, 3, 5, 6, 8, 10, 11, 12, 13, 14])], [], []⟩⟩]
theorem I_ok : ∀ i ∈ I, Try.prog.funcs[i.f]? = some i.fn ∧ (i.fn.name == "runtime.NumGoroutine") = false := by
  intro i hi
  simp only [I, List.mem_cons, List.not_mem_nil, or_false] at hi
  subst hi
  exact ⟨by kernel_rfl, by kernel_rfl⟩
noncomputable abbrev L0 (fuel n : Nat) (s : St) (k : Kont) := lAt Try.prog X I fuel true 0 false 10 (bodyOf Try.f10) [1, 1, 1, 1, 1, 1, 1, 1, 1, 0, 1, 0] n s k
noncomputable abbrev k0  (fuel : Nat) : Kont := (kAt Try.prog X I fuel true 0 false 10 (bodyOf Try.f10) [1, 1, 1, 1, 1, 1, 1, 1, 1, 0, 1, 0] [] (endK Try.prog Try.f10))
noncomputable def t0 (p0q0 : List Int) (p2 : Int) (v7 : Int) (v9 : Int) (p0q1 : List Int) (p1q0 : List Int) (p1q1 : List Int) (j5 : Nat) (v2 : Int) (v4 : Int) (x0q3 : Int) (x0q9 : List Int) : St := ⟨[.dead, .dead, .dead, (.ptr 1000000000 0 0), (.ptr 1000000001 0 0), .dead, (.ptr 1000000002 0 0), .dead, (.all 1000000003 1), (.all 1000000004 1), (.imm (.int .i64 ((befN p0q0 p2.toNat : Nat) : Int))), .dead, (.imm (.int .i64 (IntKind.wrap .i64 (v7 * ((behN p0q0 p2.toNat : Nat) : Int))))), (.imm (.int .i64 (IntKind.wrap .i64 (v9 * ((behN p0q0 p2.toNat : Nat) : Int))))), (.imm (.int .i64 x0q3)), .dead, .dead, .dead, .dead, .dead, .dead, .dead, .dead, .dead, .dead, .dead, .dead, .dead, .dead, .dead, .dead, .dead, .dead, .dead, .dead, .dead, .dead, .dead, .dead, .dead, .dead, .dead, .dead, .dead, .dead, .dead, .dead, .dead, .dead, .dead, .dead, .dead, .dead, .dead, .dead, .dead, .dead, .dead, .dead, .dead, .dead, .dead, .dead, .dead, .dead, .dead, .dead, .dead, .dead, .dead, .dead, .dead, .dead, .dead, .dead, .dead, .dead, .dead, .dead, .dead, .dead, .dead, .dead, .dead, .dead, .dead, .dead, .dead, .dead, .dead, .dead, .dead, .dead, .dead, .dead, .dead, .dead, .dead, .dead, .dead, .dead, .dead, .dead, .dead, .dead, .dead, .dead, .dead, .dead, .dead, .dead, .dead, .dead, .dead, .dead, .dead, .dead, .dead, .dead, .dead, .dead, .dead], hOf [(1000000000, (.box [(.imm (.ints .i64 p0q0)), (.imm (.ints .i64 p0q1))])), (1000000001, (.box [(.imm (.ints .i64 p1q0)), (.imm (.ints .i64 p1q1))])), (1000000002, (.box [(.imm .nils), (.imm .nils)])), (1000000003, (.ints .i64 (p0q0.set j5 (IntKind.wrap .i64 (v2 + v4))))), (1000000004, (.ints .i64 x0q9))], [], []⟩
theorem e (fuel : Nat) (p0q0 : List Int) (p0q1 : List Int) (p1q0 : List Int) (p1q1 : List Int) (p2 : Int) : runF Try.prog X I 0 fuel 10 Try.f10 [.d (.agg [(.ints .i64 p0q0), (.ints .i64 p0q1)]), .d (.agg [(.ints .i64 p1q0), (.ints .i64 p1q1)]), .d (.int .i64 p2)] =
  (bif decide (p0q0.length < 9223372036854775808) && decide (p0q1.length < 9223372036854775808) then
  (bif (!(axB p0q0 p0q1 p2)) then
  some ([.agg [((.ints .i64 []), true), ((.ints .i64 []), true)], .one ((.bool false), false)], [])
  else
  (bif decide (p1q0.length < 9223372036854775808) && decide (p1q1.length < 9223372036854775808) then
  (bif (!(axB p1q0 p1q1 p2)) then
  some ([.agg [((.ints .i64 []), true), ((.ints .i64 []), true)], .one ((.bool false), false)], [])
  else
  (bif axOk p0q0 p2 && validS p0q0 then
  (bif axOk p1q0 p2 && validS p1q0 then
  (bif decide (((p0q0.eraseIdx p2.toNat)).length < 9223372036854775808) && decide (((p1q0.eraseIdx p2.toNat)).length < 9223372036854775808) then
  (bif (!(decide (((p0q0.eraseIdx p2.toNat)) = ((p1q0.eraseIdx p2.toNat))))) then
  some ([.agg [((.ints .i64 []), true), ((.ints .i64 []), true)], .one ((.bool false), false)], [])
  else
  (bif ((((p0q0.length : Nat) : Int) : Int) != ((p1q0.length : Nat) : Int)) then
  some ([.agg [((.ints .i64 []), true), ((.ints .i64 []), true)], .one ((.bool false), false)], [])
  else
  (bif szB p0q0 then
  (idx p2 p0q0.length).bind fun j1 =>
  (p0q0[j1]?).bind fun v2 =>
  (idx p2 p1q0.length).bind fun j3 =>
  (p1q0[j3]?).bind fun v4 =>
  (idx p2 p0q0.length).bind fun j5 =>
  (bif decide (j5 < p0q0.length) then
  (bif decide (((p0q0.set j5 (IntKind.wrap .i64 (v2 + v4)))).length < 9223372036854775808) then
  (bif (!(validS ((p0q0.set j5 (IntKind.wrap .i64 (v2 + v4)))))) then
  some ([.agg [((.ints .i64 []), true), ((.ints .i64 []), true)], .one ((.bool false), false)], [])
  else
  (bif validS p0q0 && axOk p0q0 p2 then
  (idx p2 p0q0.length).bind fun j6 =>
  (p0q0[j6]?).bind fun v7 =>
  (idx p2 p1q0.length).bind fun j8 =>
  (p1q0[j8]?).bind fun v9 =>
  L0 fuel fuel (t0 p0q0 p2 v7 v9 p0q1 p1q0 p1q1 j5 v2 v4 0 ([])) (k0  fuel)
  else
  none))
  else
  none)
  else
  none)
  else
  none)))
  else
  none)
  else
  none)
  else
  none))
  else
  none))
  else
  none) := by kernel_rfl
theorem s0 (fuel n0 : Nat) (p0q0 : List Int) (p2 : Int) (v7 : Int) (v9 : Int) (p0q1 : List Int) (p1q0 : List Int) (p1q1 : List Int) (j5 : Nat) (v2 : Int) (v4 : Int) (x0q3 : Int) (x0q9 : List Int) : L0 fuel (n0 + 1) (t0 p0q0 p2 v7 v9 p0q1 p1q0 p1q1 j5 v2 v4 x0q3 x0q9) (k0  fuel) =
  (bif (decide ((x0q3 : Int) < ((befN p0q0 p2.toNat : Nat) : Int))) then
  (cutEnds p0q1.length (some (.imm (.int .i64 (IntKind.wrap .i64 (x0q3 * (IntKind.wrap .i64 (v7 * ((behN p0q0 p2.toNat : Nat) : Int)))))))) (some (.imm (.int .i64 (IntKind.wrap .i64 ((IntKind.wrap .i64 (x0q3 + 1)) * (IntKind.wrap .i64 (v7 * ((behN p0q0 p2.toNat : Nat) : Int))))))))).bind fun cq14 =>
  (bif fits (x0q9.length + ((p0q1.drop cq14.1).take (cq14.2 - cq14.1)).length) 8 then
  (cutEnds p1q1.length (some (.imm (.int .i64 (IntKind.wrap .i64 (x0q3 * (IntKind.wrap .i64 (v9 * ((behN p0q0 p2.toNat : Nat) : Int)))))))) (some (.imm (.int .i64 (IntKind.wrap .i64 ((IntKind.wrap .i64 (x0q3 + 1)) * (IntKind.wrap .i64 (v9 * ((behN p0q0 p2.toNat : Nat) : Int))))))))).bind fun cq15 =>
  (bif fits ((x0q9 ++ ((p0q1.drop cq14.1).take (cq14.2 - cq14.1))).length + ((p1q1.drop cq15.1).take (cq15.2 - cq15.1)).length) 8 then
  L0 fuel n0 (t0 p0q0 p2 v7 v9 p0q1 p1q0 p1q1 j5 v2 v4 ((IntKind.wrap .i64 (x0q3 + 1))) (((x0q9 ++ ((p0q1.drop cq14.1).take (cq14.2 - cq14.1))) ++ ((p1q1.drop cq15.1).take (cq15.2 - cq15.1))))) (k0  fuel)
  else
  none)
  else
  none)
  else
  (bif szB ((p0q0.set j5 (IntKind.wrap .i64 (v2 + v4)))) && szB x0q9 then
  some ([.agg [((.ints .i64 ((p0q0.set j5 (IntKind.wrap .i64 (v2 + v4))))), true), ((.ints .i64 x0q9), true)], .one ((.bool true), false)], [])
  else
  none)) := by kernel_rfl
end spec_JoinAxis
theorem spec_JoinAxis.ok_of (hX : ∀ E ∈ spec_JoinAxis.X, CallSpec Try.prog E) (h : ∀ (sa : List Int) (da : List Int) (sb : List Int) (db : List Int) (k : Int), (decide (sa.length < 9223372036854775808) && decide (da.length < 9223372036854775808) && decide (sb.length < 9223372036854775808) && decide (db.length < 9223372036854775808)) = true → ∃ fuel, runF Try.prog spec_JoinAxis.X spec_JoinAxis.I 0 fuel 10 Try.f10 [.d (.agg [(.ints .i64 sa), (.ints .i64 da)]), .d (.agg [(.ints .i64 sb), (.ints .i64 db)]), .d (.int .i64 k)] = some ([.agg [((.ints .i64 (joS sa da sb db k)), true), ((.ints .i64 (joD sa da sb db k)), true)], .one ((.bool (joB sa da sb db k)), false)], [])) : CallSpec Try.prog spec_JoinAxis.E :=
  callSpec_of (d := 0) hX (by kernel_rfl) spec_JoinAxis.I_ok (by kernel_rfl) (by kernel_rfl) (by kernel_rfl) (fun _ _ _ _ h => by dsimp only [spec_JoinAxis.E] at h; cases h) (fun xs hp => by
    dsimp only [spec_JoinAxis.E] at hp ⊢
    split at hp
    · exact h _ _ _ _ _ hp
    · cases hp)
theorem spec_JoinAxis.loop (fuel : Nat) (sa da sb db : List Int) (j : Nat) (o : JoOk sa da sb db j) (hf : 3600 < fuel) :
    spec_JoinAxis.L0 fuel fuel (spec_JoinAxis.t0 sa (j : Int) ((lenN sa j : Nat) : Int) ((lenN sb j : Nat) : Int) da sb db j ((lenN sa j : Nat) : Int) ((lenN sb j : Nat) : Int) 0 []) (spec_JoinAxis.k0 fuel) = some ([.agg [((.ints .i64 (joSh sa sb j)), true), ((.ints .i64 (joN sa da sb db j)), true)], .one ((.bool true), false)], []) := by
  have hda := o.da
  have hdb := o.db
  have hle := o.le
  have hB := o.xa.bef_le
  have hr := o.xa.rank
  have hLa := o.xa.len_le
  have hLb := o.xb.len_le
  have hla := validA_len o.va
  have hlb := validA_len o.vb
  have hx : lenN sa j * behN sa j ≤ 60 * 3600 := Nat.mul_le_mul hLa o.xa.beh_le
  have hy : lenN sb j * behN sa j ≤ 60 * 3600 := Nat.mul_le_mul hLb o.xa.beh_le
  have es : sa.set j (IntKind.wrap .i64 (((lenN sa j : Nat) : Int) + ((lenN sb j : Nat) : Int))) = joSh sa sb j := by rw [wAdd (by omega), o.sh]
  refine run_loop (N := befN sa j) (fun n i out => spec_JoinAxis.L0 fuel n (spec_JoinAxis.t0 sa (j : Int) ((lenN sa j : Nat) : Int) ((lenN sb j : Nat) : Int) da sb db j ((lenN sa j : Nat) : Int) ((lenN sb j : Nat) : Int) (i : Int) out) (spec_JoinAxis.k0 fuel)) (fun i out => out = joC (lenN sa j * behN sa j) (lenN sb j * behN sa j) da db i) ?_ ?_ fuel 0 [] (by omega) (by omega) rfl
  · rintro n out rfl
    have hl := joC_len (x := lenN sa j * behN sa j) (y := lenN sb j * behN sa j) (da := da) (db := db) (befN sa j) (by omega) (by omega)
    rw [spec_JoinAxis.s0, Int.toNat_natCast, dge (by omega), cond_false, es, szB_of (by rw [o.sh, List.length_set]; omega), szB_of (by omega)]
    rfl
  · rintro n i out hi rfl
    have h1 : (i + 1) * (lenN sa j * behN sa j) ≤ befN sa j * (lenN sa j * behN sa j) := Nat.mul_le_mul_right _ hi
    have h2 : (i + 1) * (lenN sb j * behN sa j) ≤ befN sa j * (lenN sb j * behN sa j) := Nat.mul_le_mul_right _ hi
    have h3 : i * (lenN sa j * behN sa j) ≤ (i + 1) * (lenN sa j * behN sa j) := Nat.mul_le_mul_right _ (by omega)
    have h4 : i * (lenN sb j * behN sa j) ≤ (i + 1) * (lenN sb j * behN sa j) := Nat.mul_le_mul_right _ (by omega)
    have hl := joC_len (x := lenN sa j * behN sa j) (y := lenN sb j * behN sa j) (da := da) (db := db) i (by omega) (by omega)
    have h5 : i * (lenN sa j * behN sa j + lenN sb j * behN sa j) ≤ befN sa j * (lenN sa j * behN sa j + lenN sb j * behN sa j) := Nat.mul_le_mul_right _ (by omega)
    rw [spec_JoinAxis.s0, Int.toNat_natCast, dlt hi, cond_true, wMul (by omega), wMul (by omega), w1 (by omega), wMul (by omega), wMul (by omega), wMul (by omega), wMul (by omega), cut_both h3 (by omega), cut_both h4 (by omega)]
    simp only [Option.bind_some, ce_cut]
    rw [fitsOk (by simp only [List.length_take, List.length_drop]; omega), cond_true, fitsOk (by simp only [List.length_append, List.length_take, List.length_drop]; omega), cond_true]
    exact ⟨_, rfl, rfl⟩
theorem spec_JoinAxis.ok : CallSpec Try.prog spec_JoinAxis.E := spec_JoinAxis.ok_of (by simp [spec_JoinAxis.X, spec_isAxis.ok, spec_without.ok, spec_sameInts.ok, spec_copyInts.ok, spec_validShape.ok, spec_around.ok, spec_make1.ok]) fun sa da sb db k h => by
  obtain ⟨F, hF⟩ : ∃ F : Nat, 3600 < F := ⟨3601, by omega⟩
  refine ⟨F, ?_⟩
  simp only [Bool.and_eq_true] at h
  obtain ⟨⟨⟨h1, h2⟩, h3⟩, h4⟩ := h
  rw [spec_JoinAxis.e, h1, h2, h3, h4]
  unfold joS joD
  cases ha : axB sa da k with
  | false =>
    have : joB sa da sb db k = false := by simp only [joB, ha, Bool.false_and]
    rw [this]; rfl
  | true =>
    cases hb : axB sb db k with
    | false =>
      have : joB sa da sb db k = false := by simp only [joB, hb, Bool.false_and, Bool.and_false]
      rw [this]; rfl
    | true =>
      obtain ⟨j, rfl, hj, hv, ax, hd, hl⟩ := axB_inv ha
      obtain ⟨j2, e2, hj2, hv2, ax2, hd2, hl2⟩ := axB_inv hb
      obtain rfl : j = j2 := by omega
      have hr := ax.rank
      have hr2 := ax2.rank
      have hLa := ax.len_le
      have hLb := ax2.len_le
      have vs := (validA_inv hv).1
      have vs2 := (validA_inv hv2).1
      have hiff := set_iff (sa := sa) (sb := sb) hj hj2
      rw [axOk_of hj, axOk_of hj2, vs, vs2, Int.toNat_natCast]
      simp only [cond_true, Bool.and_self, Bool.not_true, cond_false]
      rw [lt_of (by rw [set_eraseIdx_len hj]; omega), lt_of (by rw [set_eraseIdx_len hj2]; omega)]
      by_cases c1 : sa.eraseIdx j = sb.eraseIdx j
      · by_cases c2 : sa.length = sb.length
        · have hs := hiff.2 ⟨c1, c2⟩
          have e2 : (((sa.length : Nat) : Int) != ((sb.length : Nat) : Int)) = false := by simp [c2]
          rw [decide_eq_true c1, e2, szB_of (xs := sa) (by omega), idx_nat hj, idx_nat hj2]
          simp only [cond_true, Bool.and_self, Bool.not_true, cond_false, Option.bind_some, getD_get hj, getD_get hj2, ax.len, ax2.len]
          have es : sa.set j (IntKind.wrap .i64 (((lenN sa j : Nat) : Int) + ((lenN sb j : Nat) : Int))) = joSh sa sb j := by
            unfold joSh
            rw [ax.len, ax2.len, wS (by omega) (by omega)]
          have hjo : joB sa da sb db (j : Int) = validS (joSh sa sb j) := by
            simp only [joB, ha, hb, Int.toNat_natCast, decide_eq_true hs, Bool.true_and]
          rw [es, decide_eq_true hj, lt_of (by unfold joSh; rw [List.length_set]; omega)]
          simp only [cond_true]
          cases hvs : validS (joSh sa sb j) with
          | false => rw [hjo, hvs]; rfl
          | true =>
            rw [hvs] at hjo
            obtain ⟨j3, e3, o⟩ := joB_inv hjo
            obtain rfl : j = j3 := by omega
            simp only [Bool.not_true, cond_false]
            rw [spec_JoinAxis.loop F sa da sb db j o hF, hjo]
            rfl
        · have : joB sa da sb db (j : Int) = false := by
            simp only [joB, Int.toNat_natCast, decide_eq_false (fun e => c2 (hiff.1 e).2), Bool.and_false, Bool.false_and]
          have e2 : (((sa.length : Nat) : Int) != ((sb.length : Nat) : Int)) = true := by simp; omega
          rw [this, e2, decide_eq_true c1]; rfl
      · have : joB sa da sb db (j : Int) = false := by
          simp only [joB, Int.toNat_natCast, decide_eq_false (fun e => c1 (hiff.1 e).1), Bool.and_false, Bool.false_and]
        rw [this, decide_eq_false c1]; rfl

namespace impl_isNumber
noncomputable def E : Entry := ⟨60, true, false, fun | [.d (.int .i64 v)] => true | _ => false, fun | [.d (.int .i64 v)] => ([.one ((.bool (numB v)), false)], []) | _ => ([], []), fun _ => [], false, fun _ => none⟩
end impl_isNumber
namespace impl_isNumber
noncomputable def X : List Entry := []
noncomputable def I : List Inl := [⟨60, Try.f60, ⟨[], [], [], [], [], []⟩⟩]
theorem I_ok : ∀ i ∈ I, Try.prog.funcs[i.f]? = some i.fn ∧ (i.fn.name == "runtime.NumGoroutine") = false := by
  intro i hi
  simp only [I, List.mem_cons, List.not_mem_nil, or_false] at hi
  subst hi
  exact ⟨by kernel_rfl, by kernel_rfl⟩
theorem e (fuel : Nat) (p0 : Int) : runF Try.prog X I 0 fuel 60 Try.f60 [.d (.int .i64 p0)] =
  (bif (decide (((-1000000) : Int) ≤ p0)) then
  some ([.one ((.bool (decide ((p0 : Int) ≤ 1000000))), false)], [])
  else
  some ([.one ((.bool false), false)], [])) := by kernel_rfl
end impl_isNumber
theorem impl_isNumber.ok_of (hX : ∀ E ∈ impl_isNumber.X, CallSpec Try.prog E) (h : ∀ (v : Int), (true) = true → ∃ fuel, runF Try.prog impl_isNumber.X impl_isNumber.I 0 fuel 60 Try.f60 [.d (.int .i64 v)] = some ([.one ((.bool (numB v)), false)], [])) : CallSpec Try.prog impl_isNumber.E :=
  callSpec_of (d := 0) hX (by kernel_rfl) impl_isNumber.I_ok (by kernel_rfl) (by kernel_rfl) (by kernel_rfl) (fun _ _ _ _ h => by dsimp only [impl_isNumber.E] at h; cases h) (fun xs hp => by
    dsimp only [impl_isNumber.E] at hp ⊢
    split at hp
    · exact h _ hp
    · cases hp)
theorem impl_isNumber.ok : CallSpec Try.prog impl_isNumber.E := impl_isNumber.ok_of (by simp [impl_isNumber.X]) fun v _ => ⟨0, by
  rw [impl_isNumber.e]
  unfold numB
  cases decide (-1000000 ≤ v) <;> rfl⟩

namespace impl_ValidArray
noncomputable def E : Entry := ⟨51, true, false, fun | [.d (.agg [(.ints .i64 sh), (.ints .i64 da)])] => decide (sh.length < 9223372036854775808) && decide (da.length < 9223372036854775808) | _ => false, fun | [.d (.agg [(.ints .i64 sh), (.ints .i64 da)])] => ([.one ((.bool (validA sh da)), false)], []) | _ => ([], []), fun _ => [], false, fun _ => none⟩
end impl_ValidArray
namespace impl_ValidArray
noncomputable def X : List Entry := [impl_layoutOf.E, impl_isNumber.E]
noncomputable def I : List Inl := [⟨51, Try.f51, ⟨[10], [(1000005, [0, 1, 2, 3, 4, 5, 6, 7, 8, 9, 10, 11, 12, 13, 14, 15, 16, 17, 18, 19, 20, 21, 22, 23, 27, 28, 29, 30, 31, 32, 33])], [], [], [], []⟩⟩]
theorem I_ok : ∀ i ∈ I, Try.prog.funcs[i.f]? = some i.fn ∧ (i.fn.name == "runtime.NumGoroutine") = false := by
  intro i hi
  simp only [I, List.mem_cons, List.not_mem_nil, or_false] at hi
  subst hi
  exact ⟨by kernel_rfl, by kernel_rfl⟩
noncomputable abbrev L0 (fuel n : Nat) (s : St) (k : Kont) := lAt Try.prog X I fuel true 0 false 51 (bodyOf Try.f51) [1, 1, 1, 0, 1, 0] n s k
noncomputable abbrev k0  (fuel : Nat) : Kont := (kAt Try.prog X I fuel true 0 false 51 (bodyOf Try.f51) [1, 1, 1, 0, 1, 0] [] (endK Try.prog Try.f51))
noncomputable def t0 (p0q1 : List Int) (x0q2 : Int) : St := ⟨[.dead, .dead, .dead, .dead, .dead, .dead, .dead, .dead, .dead, .dead, .dead, .dead, .dead, .dead, .dead, .dead, .dead, .dead, .dead, .dead, .dead, .dead, .dead, .dead, (.imm (.ints .i64 p0q1)), (.imm (.int .i64 ((p0q1.length : Nat) : Int))), (.imm (.int .i64 x0q2)), .dead, .dead, .dead, .dead, .dead, .dead, .dead], hOf [], [], []⟩
theorem e (fuel : Nat) (p0q0 : List Int) (p0q1 : List Int) : runF Try.prog X I 0 fuel 51 Try.f51 [.d (.agg [(.ints .i64 p0q0), (.ints .i64 p0q1)])] =
  (bif decide (p0q0.length < 9223372036854775808) then
  (bif validS p0q0 then
  (bif ((((p0q1.length : Nat) : Int) : Int) != (volW p0q0)) then
  some ([.one ((.bool false), false)], [])
  else
  L0 fuel fuel (t0 p0q1 0) (k0  fuel))
  else
  some ([.one ((.bool false), false)], []))
  else
  none) := by kernel_rfl
theorem s0 (fuel n0 : Nat) (p0q1 : List Int) (x0q2 : Int) : L0 fuel (n0 + 1) (t0 p0q1 x0q2) (k0  fuel) =
  (bif (decide ((x0q2 : Int) < ((p0q1.length : Nat) : Int))) then
  (idx x0q2 p0q1.length).bind fun j5 =>
  (p0q1[j5]?).bind fun v6 =>
  (bif (!(numB v6)) then
  some ([.one ((.bool false), false)], [])
  else
  L0 fuel n0 (t0 p0q1 ((IntKind.wrap .i64 (x0q2 + 1)))) (k0  fuel))
  else
  some ([.one ((.bool true), false)], [])) := by kernel_rfl
end impl_ValidArray
theorem impl_ValidArray.ok_of (hX : ∀ E ∈ impl_ValidArray.X, CallSpec Try.prog E) (h : ∀ (sh : List Int) (da : List Int), (decide (sh.length < 9223372036854775808) && decide (da.length < 9223372036854775808)) = true → ∃ fuel, runF Try.prog impl_ValidArray.X impl_ValidArray.I 0 fuel 51 Try.f51 [.d (.agg [(.ints .i64 sh), (.ints .i64 da)])] = some ([.one ((.bool (validA sh da)), false)], [])) : CallSpec Try.prog impl_ValidArray.E :=
  callSpec_of (d := 0) hX (by kernel_rfl) impl_ValidArray.I_ok (by kernel_rfl) (by kernel_rfl) (by kernel_rfl) (fun _ _ _ _ h => by dsimp only [impl_ValidArray.E] at h; cases h) (fun xs hp => by
    dsimp only [impl_ValidArray.E] at hp ⊢
    split at hp
    · exact h _ _ hp
    · cases hp)
theorem impl_ValidArray.loop (fuel : Nat) (xs : List Int) (hx : xs.length < 9223372036854775808) : ∀ (m n j : Nat), xs.length - j = m → m < n → j ≤ xs.length →
    impl_ValidArray.L0 fuel n (impl_ValidArray.t0 xs (j : Int)) (impl_ValidArray.k0 fuel) = some ([.one (.bool (allB (xs.drop j) (-1000000) 1000000), false)], []) := by
  intro m
  induction m with
  | zero =>
    intro n j h1 h2 h3
    obtain ⟨n, rfl⟩ : ∃ n', n = n' + 1 := ⟨n - 1, by omega⟩
    have hj : ¬ j < xs.length := by omega
    rw [impl_ValidArray.s0, dge hj, dropE hj]
    rfl
  | succ m ih =>
    intro n j h1 h2 h3
    obtain ⟨n, rfl⟩ : ∃ n', n = n' + 1 := ⟨n - 1, by omega⟩
    have hj : j < xs.length := by omega
    rw [impl_ValidArray.s0, dlt hj, idx_nat hj, w1 (by omega), dropS hj]
    simp only [cond_true, Option.bind_some, getS hj, allB_cons, numB_eq]
    rw [ih n (j + 1) (by omega) (by omega) (by omega)]
    cases decide (-1000000 ≤ xs[j]) && decide (xs[j] ≤ 1000000) <;> rfl

theorem impl_ValidArray.ok : CallSpec Try.prog impl_ValidArray.E := impl_ValidArray.ok_of (by simp [impl_ValidArray.X, impl_layoutOf.ok, impl_isNumber.ok]) fun sh da h => by
  simp only [Bool.and_eq_true, decide_eq_true_eq] at h
  refine ⟨da.length + 1, ?_⟩
  rw [impl_ValidArray.e, lt_of h.1]
  have := impl_ValidArray.loop (da.length + 1) da h.2 da.length (da.length + 1) 0 (by omega) (by omega) (by omega)
  simp only [cond_true, List.drop_zero] at this ⊢
  rw [show ((0 : Nat) : Int) = 0 from rfl] at this
  rw [this]
  unfold validA
  cases validS sh
  · rfl
  · cases hb : (((da.length : Nat) : Int) == volW sh) with
    | true => simp [bne, hb]
    | false => simp [bne, hb]

namespace impl_axisLength
noncomputable def E : Entry := ⟨37, true, false, fun | [.d (.agg [(.ints .i64 sh), (.ints .i64 da)]), .d (.int .i64 k)] => decide (sh.length < 9223372036854775808) && decide (da.length < 9223372036854775808) | _ => false, fun | [.d (.agg [(.ints .i64 sh), (.ints .i64 da)]), .d (.int .i64 k)] => ([.one ((.int .i64 (axL sh da k)), false), .one ((.bool (axB sh da k)), false)], []) | _ => ([], []), fun _ => [], false, fun _ => none⟩
end impl_axisLength
namespace impl_axisLength
noncomputable def X : List Entry := [impl_ValidArray.E]
noncomputable def I : List Inl := [⟨37, Try.f37, ⟨[], [], [], [], [], []⟩⟩]
theorem I_ok : ∀ i ∈ I, Try.prog.funcs[i.f]? = some i.fn ∧ (i.fn.name == "runtime.NumGoroutine") = false := by
  intro i hi
  simp only [I, List.mem_cons, List.not_mem_nil, or_false] at hi
  subst hi
  exact ⟨by kernel_rfl, by kernel_rfl⟩
theorem e (fuel : Nat) (p0q0 : List Int) (p0q1 : List Int) (p1 : Int) : runF Try.prog X I 0 fuel 37 Try.f37 [.d (.agg [(.ints .i64 p0q0), (.ints .i64 p0q1)]), .d (.int .i64 p1)] =
  (bif decide (p0q0.length < 9223372036854775808) && decide (p0q1.length < 9223372036854775808) then
  (bif (!(validA p0q0 p0q1)) then
  some ([.one ((.int .i64 0), false), .one ((.bool false), false)], [])
  else
  (bif (decide ((p1 : Int) < 0)) then
  some ([.one ((.int .i64 0), false), .one ((.bool false), false)], [])
  else
  (bif (decide ((p1 : Int) ≥ ((p0q0.length : Nat) : Int))) then
  some ([.one ((.int .i64 0), false), .one ((.bool false), false)], [])
  else
  (idx p1 p0q0.length).bind fun j1 =>
  (p0q0[j1]?).bind fun v2 =>
  some ([.one ((.int .i64 v2), false), .one ((.bool true), false)], []))))
  else
  none) := by kernel_rfl
end impl_axisLength
theorem impl_axisLength.ok_of (hX : ∀ E ∈ impl_axisLength.X, CallSpec Try.prog E) (h : ∀ (sh : List Int) (da : List Int) (k : Int), (decide (sh.length < 9223372036854775808) && decide (da.length < 9223372036854775808)) = true → ∃ fuel, runF Try.prog impl_axisLength.X impl_axisLength.I 0 fuel 37 Try.f37 [.d (.agg [(.ints .i64 sh), (.ints .i64 da)]), .d (.int .i64 k)] = some ([.one ((.int .i64 (axL sh da k)), false), .one ((.bool (axB sh da k)), false)], [])) : CallSpec Try.prog impl_axisLength.E :=
  callSpec_of (d := 0) hX (by kernel_rfl) impl_axisLength.I_ok (by kernel_rfl) (by kernel_rfl) (by kernel_rfl) (fun _ _ _ _ h => by dsimp only [impl_axisLength.E] at h; cases h) (fun xs hp => by
    dsimp only [impl_axisLength.E] at hp ⊢
    split at hp
    · exact h _ _ _ hp
    · cases hp)
theorem impl_axisLength.ok : CallSpec Try.prog impl_axisLength.E := impl_axisLength.ok_of (by simp [impl_axisLength.X, impl_ValidArray.ok]) fun sh da k h => ⟨0, by
  rw [impl_axisLength.e, h]
  unfold axL axB
  cases hv : validA sh da with
  | false => rfl
  | true =>
    by_cases h0 : k < 0
    · rw [decide_eq_true h0, show axOk sh k = false by simp [axOk]; omega]; rfl
    by_cases h1 : k ≥ ((sh.length : Nat) : Int)
    · rw [decide_eq_false h0, decide_eq_true h1, show axOk sh k = false by simp [axOk]; omega]; rfl
    obtain ⟨j, rfl⟩ : ∃ j : Nat, k = j := ⟨k.toNat, by omega⟩
    have hj : j < sh.length := by omega
    rw [decide_eq_false h0, decide_eq_false h1, show axOk sh j = true by simp [axOk]; omega, idx_nat hj]
    simp [hj]⟩

namespace impl_copyList
noncomputable def E : Entry := ⟨38, false, false, fun | [.d (.ints .i64 xs)] => szB xs | _ => false, fun | [.d (.ints .i64 xs)] => ([.one ((.ints .i64 xs), true)], []) | _ => ([], []), fun _ => [], true, fun _ => none⟩
end impl_copyList
namespace impl_copyList
noncomputable def X : List Entry := []
noncomputable def I : List Inl := [⟨38, Try.f38, ⟨[], [], [], [], [], []⟩⟩]
theorem I_ok : ∀ i ∈ I, Try.prog.funcs[i.f]? = some i.fn ∧ (i.fn.name == "runtime.NumGoroutine") = false := by
  intro i hi
  simp only [I, List.mem_cons, List.not_mem_nil, or_false] at hi
  subst hi
  exact ⟨by kernel_rfl, by kernel_rfl⟩
theorem e (fuel : Nat) (p0 : List Int) : runF Try.prog X I 0 fuel 38 Try.f38 [.d (.ints .i64 p0)] =
  (bif decide (0 ≤ (((p0.length : Nat) : Int) : Int)) && decide ((((p0.length : Nat) : Int) : Int) ≤ ((p0.length : Nat) : Int)) && decide ((((p0.length : Nat) : Int) : Int) ≤ 1152921504606846976) && decide (((8 : Nat) : Int) * ((p0.length : Nat) : Int) ≤ 281474976710656) then
  some ([.one ((.ints .i64 (copyL (List.replicate (((p0.length : Nat) : Int)).toNat (0 : Int)) 0 (List.replicate (((p0.length : Nat) : Int)).toNat (0 : Int)).length p0)), true)], [])
  else
  none) := by kernel_rfl
end impl_copyList
theorem impl_copyList.ok_of (hX : ∀ E ∈ impl_copyList.X, CallSpec Try.prog E) (h : ∀ (xs : List Int), (szB xs) = true → ∃ fuel, runF Try.prog impl_copyList.X impl_copyList.I 0 fuel 38 Try.f38 [.d (.ints .i64 xs)] = some ([.one ((.ints .i64 xs), true)], [])) : CallSpec Try.prog impl_copyList.E :=
  callSpec_of (d := 0) hX (by kernel_rfl) impl_copyList.I_ok (by kernel_rfl) (by kernel_rfl) (by kernel_rfl) (fun _ _ _ _ h => by dsimp only [impl_copyList.E] at h; cases h) (fun xs hp => by
    dsimp only [impl_copyList.E] at hp ⊢
    split at hp
    · exact h _ hp
    · cases hp)
theorem impl_copyList.ok : CallSpec Try.prog impl_copyList.E := impl_copyList.ok_of (by simp [impl_copyList.X]) fun xs h => ⟨0, by
  have hx := szB_le h
  rw [impl_copyList.e, mkOk (by omega) (by omega)]
  simp only [cond_true, Int.toNat_natCast, copyL_all]⟩

namespace slices_Equal_int_int
noncomputable def E : Entry := ⟨39, true, false, fun | [.d (.ints .i64 xs), .d (.ints .i64 ys)] => decide (xs.length < 9223372036854775808) && decide (ys.length < 9223372036854775808) | _ => false, fun | [.d (.ints .i64 xs), .d (.ints .i64 ys)] => ([.one ((.bool (decide (xs = ys))), false)], []) | _ => ([], []), fun _ => [], false, fun _ => none⟩
end slices_Equal_int_int
namespace slices_Equal_int_int
noncomputable def X : List Entry := []
noncomputable def I : List Inl := [⟨39, Try.f39, ⟨[], [(1000004, [2, 3, 4, 5, 6, 7, 8, 9, 10, 11, 14, 15, 16, 17, 18, 19, 20, 21, 22, 23, 24, 25])], [], [(6, [0, 1, 4, 5, 2, 3, 6, 7, 8])], [], []⟩⟩]
theorem I_ok : ∀ i ∈ I, Try.prog.funcs[i.f]? = some i.fn ∧ (i.fn.name == "runtime.NumGoroutine") = false := by
  intro i hi
  simp only [I, List.mem_cons, List.not_mem_nil, or_false] at hi
  subst hi
  exact ⟨by kernel_rfl, by kernel_rfl⟩
noncomputable abbrev L0 (fuel n : Nat) (s : St) (k : Kont) := lAt Try.prog X I fuel true 0 false 39 (bodyOf Try.f39) [1, 1, 0, 1, 0] n s k
noncomputable abbrev k0  (fuel : Nat) : Kont := (kAt Try.prog X I fuel true 0 false 39 (bodyOf Try.f39) [1, 1, 0, 1, 0] [] (endK Try.prog Try.f39))
noncomputable def t0 (p0 : List Int) (p1 : List Int) (x0q3 : Int) : St := ⟨[(.imm (.ints .i64 p0)), (.imm (.ints .i64 p1)), .dead, .dead, .dead, .dead, .dead, .dead, .dead, .dead, .dead, .dead, (.imm (.int .i64 ((p0.length : Nat) : Int))), (.imm (.int .i64 x0q3)), .dead, .dead, .dead, .dead, .dead, .dead, .dead, .dead, .dead, .dead, .dead, .dead], hOf [], [], []⟩
theorem e (fuel : Nat) (p0 : List Int) (p1 : List Int) : runF Try.prog X I 0 fuel 39 Try.f39 [.d (.ints .i64 p0), .d (.ints .i64 p1)] =
  (bif ((((p0.length : Nat) : Int) : Int) != ((p1.length : Nat) : Int)) then
  some ([.one ((.bool false), false)], [])
  else
  L0 fuel fuel (t0 p0 p1 0) (k0  fuel)) := by kernel_rfl
theorem s0 (fuel n0 : Nat) (p0 : List Int) (p1 : List Int) (x0q3 : Int) : L0 fuel (n0 + 1) (t0 p0 p1 x0q3) (k0  fuel) =
  (bif (decide ((x0q3 : Int) < ((p0.length : Nat) : Int))) then
  (idx x0q3 p0.length).bind fun j9 =>
  (p0[j9]?).bind fun v10 =>
  (idx x0q3 p1.length).bind fun j11 =>
  (p1[j11]?).bind fun v12 =>
  (bif ((v10 : Int) != v12) then
  some ([.one ((.bool false), false)], [])
  else
  L0 fuel n0 (t0 p0 p1 ((IntKind.wrap .i64 (x0q3 + 1)))) (k0  fuel))
  else
  some ([.one ((.bool true), false)], [])) := by kernel_rfl
end slices_Equal_int_int
theorem slices_Equal_int_int.ok_of (hX : ∀ E ∈ slices_Equal_int_int.X, CallSpec Try.prog E) (h : ∀ (xs : List Int) (ys : List Int), (decide (xs.length < 9223372036854775808) && decide (ys.length < 9223372036854775808)) = true → ∃ fuel, runF Try.prog slices_Equal_int_int.X slices_Equal_int_int.I 0 fuel 39 Try.f39 [.d (.ints .i64 xs), .d (.ints .i64 ys)] = some ([.one ((.bool (decide (xs = ys))), false)], [])) : CallSpec Try.prog slices_Equal_int_int.E :=
  callSpec_of (d := 0) hX (by kernel_rfl) slices_Equal_int_int.I_ok (by kernel_rfl) (by kernel_rfl) (by kernel_rfl) (fun _ _ _ _ h => by dsimp only [slices_Equal_int_int.E] at h; cases h) (fun xs hp => by
    dsimp only [slices_Equal_int_int.E] at hp ⊢
    split at hp
    · exact h _ _ hp
    · cases hp)
theorem slices_Equal_int_int.loop (fuel : Nat) (xs ys : List Int) (hl : xs.length = ys.length) (hx : xs.length < 9223372036854775808) : ∀ (m n j : Nat), xs.length - j = m → m < n → j ≤ xs.length →
    slices_Equal_int_int.L0 fuel n (slices_Equal_int_int.t0 xs ys (j : Int)) (slices_Equal_int_int.k0 fuel) = some ([.one (.bool (decide (xs.drop j = ys.drop j)), false)], []) := by
  intro m
  induction m with
  | zero =>
    intro n j h1 h2 h3
    obtain ⟨n, rfl⟩ : ∃ n', n = n' + 1 := ⟨n - 1, by omega⟩
    have hj : ¬ j < xs.length := by omega
    rw [slices_Equal_int_int.s0, dge hj, dropE hj, dropE (xs := ys) (by omega)]
    rfl
  | succ m ih =>
    intro n j h1 h2 h3
    obtain ⟨n, rfl⟩ : ∃ n', n = n' + 1 := ⟨n - 1, by omega⟩
    have hj : j < xs.length := by omega
    have hj2 : j < ys.length := by omega
    rw [slices_Equal_int_int.s0, dlt hj, idx_nat hj, idx_nat hj2, w1 (by omega), dropS hj, dropS hj2]
    simp only [cond_true, Option.bind_some, getS hj, getS hj2]
    rw [ih n (j + 1) (by omega) (by omega) (by omega)]
    by_cases hv : xs[j] = ys[j]
    · rw [hv]
      simp only [bne_self_eq_false, cond_false, List.cons.injEq, true_and]
    · have : (xs[j] != ys[j]) = true := by simp [hv]
      rw [this]
      simp only [cond_true, List.cons.injEq, hv, false_and, decide_false]

theorem slices_Equal_int_int.ok : CallSpec Try.prog slices_Equal_int_int.E := slices_Equal_int_int.ok_of (by simp [slices_Equal_int_int.X]) fun xs ys h => by
  simp only [Bool.and_eq_true, decide_eq_true_eq] at h
  refine ⟨xs.length + 1, ?_⟩
  rw [slices_Equal_int_int.e]
  by_cases hl : xs.length = ys.length
  · have := slices_Equal_int_int.loop (xs.length + 1) xs ys hl h.1 xs.length (xs.length + 1) 0 (by omega) (by omega) (by omega)
    simp only [List.drop_zero] at this
    simp only [hl, bne_self_eq_false, cond_false]
    rw [← hl]
    exact this
  · have hne : xs ≠ ys := fun e => hl (e ▸ rfl)
    have : (((xs.length : Nat) : Int) != ((ys.length : Nat) : Int)) = true := by simp; omega
    rw [this]
    simp [hne]

namespace impl_JoinAxis
noncomputable def E : Entry := ⟨12, false, false, fun | [.d (.agg [(.ints .i64 sa), (.ints .i64 da)]), .d (.agg [(.ints .i64 sb), (.ints .i64 db)]), .d (.int .i64 k)] => decide (sa.length < 9223372036854775808) && decide (da.length < 9223372036854775808) && decide (sb.length < 9223372036854775808) && decide (db.length < 9223372036854775808) | _ => false, fun | [.d (.agg [(.ints .i64 sa), (.ints .i64 da)]), .d (.agg [(.ints .i64 sb), (.ints .i64 db)]), .d (.int .i64 k)] => ([.agg [((.ints .i64 (joS sa da sb db k)), true), ((.ints .i64 (joD sa da sb db k)), true)], .one ((.bool (joB sa da sb db k)), false)], []) | _ => ([], []), fun _ => [], true, fun _ => none⟩
end impl_JoinAxis
namespace impl_JoinAxis
noncomputable def X : List Entry := [impl_axisLength.E, impl_copyList.E, slices_Equal_int_int.E, impl_layoutOf_j.E]
noncomputable def I : List Inl := [⟨12, Try.f12, ⟨[40, 60], [(1000016, [0, 1, 2, 5, 7, 8, 9, 10, 11, 19, 20, 21, 22, 23, 24, 25, 26, 27, 28, 29, 30, 31, 32, 33, 34, 35, 36, 37, 38, 39, 40, 41, 42, 43, 44, 45, 46, 47, 48, 49, 50, 51, 52, 53, 54, 55, 56, 57, 58, 59, 60, 61, 62, 63, 64, 65, 66, 67, 68, 69, 70, 71, 72, 73, 74, 75, 76, 77, 78, 79, 80, 81, 82, 83, 84, 85, 86, 87, 88, 89, 90, 91, 92, 93, 94, 95, 96, 97, 98, 99, 100, 101, 102, 103, 104, 105, 106, 107, 108, 109, 110, 111, 112, 113, 114, 115, 116, 117, 118, 119, 120, 121])], [], [(13, [0, 1, 2, 6, 7, 8, 3, 4, 5, 12, 9, 10, 11, 13]), (18, [0, 1, 2, 4, 6, 7, 8, 9, 10, 11, 12, 3, 5, 13, 14, 15, 16]), (19, [0, 1, 2, 4, 6, 7, 8, 9, 10, 11, 12, 3, 5, 13, 14, 15, 16])], [], []⟩⟩]
theorem I_ok : ∀ i ∈ I, Try.prog.funcs[i.f]? = some i.fn ∧ (i.fn.name == "runtime.NumGoroutine") = false := by
  intro i hi
  simp only [I, List.mem_cons, List.not_mem_nil, or_false] at hi
  subst hi
  exact ⟨by kernel_rfl, by kernel_rfl⟩
noncomputable abbrev L0 (fuel n : Nat) (s : St) (k : Kont) := lAt Try.prog X I fuel true 0 false 12 (bodyOf Try.f12) [1, 1, 1, 1, 1, 1, 1, 1, 1, 1, 1, 1, 0, 1, 0] n s k
noncomputable abbrev k0  (fuel : Nat) : Kont := (kAt Try.prog X I fuel true 0 false 12 (bodyOf Try.f12) [1, 1, 1, 1, 1, 1, 1, 1, 1, 1, 1, 1, 0, 1, 0] [] (endK Try.prog Try.f12))
noncomputable def t0 (p0q0 : List Int) (p0q1 : List Int) (p1q0 : List Int) (p1q1 : List Int) (j1 : Nat) (p2 : Int) (j4 : Nat) (v3 : Int) (x0q0 : Int) (x0q1 : Int) (x0q2 : Int) (x0q3 : Int) (x0q13 : List Int) : St := ⟨[.dead, .dead, .dead, (.ptr 1000000000 0 0), (.ptr 1000000001 0 0), .dead, (.ptr 1000000002 0 0), .dead, .dead, .dead, .dead, .dead, (.all 1000000003 1), (.ptr 1000000004 0 0), (.imm (.int .i64 x0q0)), (.imm (.int .i64 x0q1)), (.all 1000000005 1), (.imm (.int .i64 x0q2)), (.imm (.int .i64 x0q3)), .dead, .dead, .dead, .dead, .dead, .dead, .dead, .dead, .dead, .dead, .dead, .dead, .dead, .dead, .dead, .dead, .dead, .dead, .dead, .dead, .dead, .dead, .dead, .dead, .dead, .dead, .dead, .dead, .dead, .dead, .dead, .dead, .dead, .dead, .dead, .dead, .dead, .dead, .dead, .dead, .dead, .dead, .dead, .dead, .dead, .dead, .dead, .dead, .dead, .dead, .dead, .dead, .dead, .dead, .dead, .dead, .dead, .dead, .dead, .dead, .dead, .dead, .dead, .dead, .dead, .dead, .dead, .dead, .dead, .dead, .dead, .dead, .dead, .dead, .dead, .dead, .dead, .dead, .dead, .dead, .dead, .dead, .dead, .dead, .dead, .dead, .dead, .dead, .dead, .dead, .dead, .dead, .dead, .dead, .dead, .dead, .dead, .dead, .dead, .dead, .dead, .dead, .dead], hOf [(1000000000, (.box [(.imm (.ints .i64 p0q0)), (.imm (.ints .i64 p0q1))])), (1000000001, (.box [(.imm (.ints .i64 p1q0)), (.imm (.ints .i64 p1q1))])), (1000000002, (.box [(.imm .nils), (.imm .nils)])), (1000000003, (.ints .i64 ((p0q0.set j1 (axL p1q0 p1q1 p2)).set j4 (IntKind.wrap .i64 (v3 + (axL p0q0 p0q1 p2)))))), (1000000004, (.box [(.imm .junk), (.imm (.int .i64 (strd (((p0q0.set j1 (axL p1q0 p1q1 p2)).set j4 (IntKind.wrap .i64 (v3 + (axL p0q0 p0q1 p2))))) 0))), (.imm (.int .i64 (strd (((p0q0.set j1 (axL p1q0 p1q1 p2)).set j4 (IntKind.wrap .i64 (v3 + (axL p0q0 p0q1 p2))))) 1))), (.imm (.int .i64 (strd (((p0q0.set j1 (axL p1q0 p1q1 p2)).set j4 (IntKind.wrap .i64 (v3 + (axL p0q0 p0q1 p2))))) 2))), (.imm (.int .i64 (volW (((p0q0.set j1 (axL p1q0 p1q1 p2)).set j4 (IntKind.wrap .i64 (v3 + (axL p0q0 p0q1 p2))))))))])), (1000000005, (.ints .i64 x0q13))], [], []⟩
theorem e (fuel : Nat) (p0q0 : List Int) (p0q1 : List Int) (p1q0 : List Int) (p1q1 : List Int) (p2 : Int) : runF Try.prog X I 0 fuel 12 Try.f12 [.d (.agg [(.ints .i64 p0q0), (.ints .i64 p0q1)]), .d (.agg [(.ints .i64 p1q0), (.ints .i64 p1q1)]), .d (.int .i64 p2)] =
  (bif decide (p0q0.length < 9223372036854775808) && decide (p0q1.length < 9223372036854775808) then
  (bif decide (p1q0.length < 9223372036854775808) && decide (p1q1.length < 9223372036854775808) then
  (bif (!(axB p0q0 p0q1 p2)) then
  some ([.agg [((.ints .i64 []), true), ((.ints .i64 []), true)], .one ((.bool false), false)], [])
  else
  (bif (!(axB p1q0 p1q1 p2)) then
  some ([.agg [((.ints .i64 []), true), ((.ints .i64 []), true)], .one ((.bool false), false)], [])
  else
  (bif szB p0q0 then
  (idx p2 p0q0.length).bind fun j1 =>
  (bif decide (j1 < p0q0.length) then
  (bif decide (((p0q0.set j1 (axL p1q0 p1q1 p2))).length < 9223372036854775808) && decide (p1q0.length < 9223372036854775808) then
  (bif (!(decide (((p0q0.set j1 (axL p1q0 p1q1 p2))) = p1q0))) then
  some ([.agg [((.ints .i64 []), true), ((.ints .i64 []), true)], .one ((.bool false), false)], [])
  else
  (idx p2 (p0q0.set j1 (axL p1q0 p1q1 p2)).length).bind fun j2 =>
  ((p0q0.set j1 (axL p1q0 p1q1 p2))[j2]?).bind fun v3 =>
  (idx p2 (p0q0.set j1 (axL p1q0 p1q1 p2)).length).bind fun j4 =>
  (bif decide (j4 < (p0q0.set j1 (axL p1q0 p1q1 p2)).length) then
  (bif decide ((((p0q0.set j1 (axL p1q0 p1q1 p2)).set j4 (IntKind.wrap .i64 (v3 + (axL p0q0 p0q1 p2))))).length < 9223372036854775808) then
  (bif validS (((p0q0.set j1 (axL p1q0 p1q1 p2)).set j4 (IntKind.wrap .i64 (v3 + (axL p0q0 p0q1 p2))))) then
  (bif decide (p2 = ((0 : Nat) : Int)) then
  (bif decide (p2 = ((0 : Nat) : Int)) then
  (bif decide (0 ≤ ((volW (((p0q0.set j1 (axL p1q0 p1q1 p2)).set j4 (IntKind.wrap .i64 (v3 + (axL p0q0 p0q1 p2)))))) : Int)) && decide (((volW (((p0q0.set j1 (axL p1q0 p1q1 p2)).set j4 (IntKind.wrap .i64 (v3 + (axL p0q0 p0q1 p2)))))) : Int) ≤ (volW (((p0q0.set j1 (axL p1q0 p1q1 p2)).set j4 (IntKind.wrap .i64 (v3 + (axL p0q0 p0q1 p2))))))) && decide (((volW (((p0q0.set j1 (axL p1q0 p1q1 p2)).set j4 (IntKind.wrap .i64 (v3 + (axL p0q0 p0q1 p2)))))) : Int) ≤ 1152921504606846976) && decide (((8 : Nat) : Int) * (volW (((p0q0.set j1 (axL p1q0 p1q1 p2)).set j4 (IntKind.wrap .i64 (v3 + (axL p0q0 p0q1 p2)))))) ≤ 281474976710656) then
  L0 fuel fuel (t0 p0q0 p0q1 p1q0 p1q1 j1 p2 j4 v3 ((IntKind.wrap .i64 ((axL p0q0 p0q1 p2) * (strd (((p0q0.set j1 (axL p1q0 p1q1 p2)).set j4 (IntKind.wrap .i64 (v3 + (axL p0q0 p0q1 p2))))) 0)))) ((IntKind.wrap .i64 ((axL p1q0 p1q1 p2) * (strd (((p0q0.set j1 (axL p1q0 p1q1 p2)).set j4 (IntKind.wrap .i64 (v3 + (axL p0q0 p0q1 p2))))) 0)))) 0 0 ((List.replicate ((volW (((p0q0.set j1 (axL p1q0 p1q1 p2)).set j4 (IntKind.wrap .i64 (v3 + (axL p0q0 p0q1 p2))))))).toNat (0 : Int)))) (k0  fuel)
  else
  none)
  else
  (bif decide (p2 = ((1 : Nat) : Int)) then
  (bif decide (0 ≤ ((volW (((p0q0.set j1 (axL p1q0 p1q1 p2)).set j4 (IntKind.wrap .i64 (v3 + (axL p0q0 p0q1 p2)))))) : Int)) && decide (((volW (((p0q0.set j1 (axL p1q0 p1q1 p2)).set j4 (IntKind.wrap .i64 (v3 + (axL p0q0 p0q1 p2)))))) : Int) ≤ (volW (((p0q0.set j1 (axL p1q0 p1q1 p2)).set j4 (IntKind.wrap .i64 (v3 + (axL p0q0 p0q1 p2))))))) && decide (((volW (((p0q0.set j1 (axL p1q0 p1q1 p2)).set j4 (IntKind.wrap .i64 (v3 + (axL p0q0 p0q1 p2)))))) : Int) ≤ 1152921504606846976) && decide (((8 : Nat) : Int) * (volW (((p0q0.set j1 (axL p1q0 p1q1 p2)).set j4 (IntKind.wrap .i64 (v3 + (axL p0q0 p0q1 p2)))))) ≤ 281474976710656) then
  L0 fuel fuel (t0 p0q0 p0q1 p1q0 p1q1 j1 p2 j4 v3 ((IntKind.wrap .i64 ((axL p0q0 p0q1 p2) * (strd (((p0q0.set j1 (axL p1q0 p1q1 p2)).set j4 (IntKind.wrap .i64 (v3 + (axL p0q0 p0q1 p2))))) 0)))) ((IntKind.wrap .i64 ((axL p1q0 p1q1 p2) * (strd (((p0q0.set j1 (axL p1q0 p1q1 p2)).set j4 (IntKind.wrap .i64 (v3 + (axL p0q0 p0q1 p2))))) 1)))) 0 0 ((List.replicate ((volW (((p0q0.set j1 (axL p1q0 p1q1 p2)).set j4 (IntKind.wrap .i64 (v3 + (axL p0q0 p0q1 p2))))))).toNat (0 : Int)))) (k0  fuel)
  else
  none)
  else
  (bif decide (p2 = ((2 : Nat) : Int)) then
  (bif decide (0 ≤ ((volW (((p0q0.set j1 (axL p1q0 p1q1 p2)).set j4 (IntKind.wrap .i64 (v3 + (axL p0q0 p0q1 p2)))))) : Int)) && decide (((volW (((p0q0.set j1 (axL p1q0 p1q1 p2)).set j4 (IntKind.wrap .i64 (v3 + (axL p0q0 p0q1 p2)))))) : Int) ≤ (volW (((p0q0.set j1 (axL p1q0 p1q1 p2)).set j4 (IntKind.wrap .i64 (v3 + (axL p0q0 p0q1 p2))))))) && decide (((volW (((p0q0.set j1 (axL p1q0 p1q1 p2)).set j4 (IntKind.wrap .i64 (v3 + (axL p0q0 p0q1 p2)))))) : Int) ≤ 1152921504606846976) && decide (((8 : Nat) : Int) * (volW (((p0q0.set j1 (axL p1q0 p1q1 p2)).set j4 (IntKind.wrap .i64 (v3 + (axL p0q0 p0q1 p2)))))) ≤ 281474976710656) then
  L0 fuel fuel (t0 p0q0 p0q1 p1q0 p1q1 j1 p2 j4 v3 ((IntKind.wrap .i64 ((axL p0q0 p0q1 p2) * (strd (((p0q0.set j1 (axL p1q0 p1q1 p2)).set j4 (IntKind.wrap .i64 (v3 + (axL p0q0 p0q1 p2))))) 0)))) ((IntKind.wrap .i64 ((axL p1q0 p1q1 p2) * (strd (((p0q0.set j1 (axL p1q0 p1q1 p2)).set j4 (IntKind.wrap .i64 (v3 + (axL p0q0 p0q1 p2))))) 2)))) 0 0 ((List.replicate ((volW (((p0q0.set j1 (axL p1q0 p1q1 p2)).set j4 (IntKind.wrap .i64 (v3 + (axL p0q0 p0q1 p2))))))).toNat (0 : Int)))) (k0  fuel)
  else
  none)
  else
  none)))
  else
  (bif decide (p2 = ((1 : Nat) : Int)) then
  (bif decide (p2 = ((0 : Nat) : Int)) then
  (bif decide (0 ≤ ((volW (((p0q0.set j1 (axL p1q0 p1q1 p2)).set j4 (IntKind.wrap .i64 (v3 + (axL p0q0 p0q1 p2)))))) : Int)) && decide (((volW (((p0q0.set j1 (axL p1q0 p1q1 p2)).set j4 (IntKind.wrap .i64 (v3 + (axL p0q0 p0q1 p2)))))) : Int) ≤ (volW (((p0q0.set j1 (axL p1q0 p1q1 p2)).set j4 (IntKind.wrap .i64 (v3 + (axL p0q0 p0q1 p2))))))) && decide (((volW (((p0q0.set j1 (axL p1q0 p1q1 p2)).set j4 (IntKind.wrap .i64 (v3 + (axL p0q0 p0q1 p2)))))) : Int) ≤ 1152921504606846976) && decide (((8 : Nat) : Int) * (volW (((p0q0.set j1 (axL p1q0 p1q1 p2)).set j4 (IntKind.wrap .i64 (v3 + (axL p0q0 p0q1 p2)))))) ≤ 281474976710656) then
  L0 fuel fuel (t0 p0q0 p0q1 p1q0 p1q1 j1 p2 j4 v3 ((IntKind.wrap .i64 ((axL p0q0 p0q1 p2) * (strd (((p0q0.set j1 (axL p1q0 p1q1 p2)).set j4 (IntKind.wrap .i64 (v3 + (axL p0q0 p0q1 p2))))) 1)))) ((IntKind.wrap .i64 ((axL p1q0 p1q1 p2) * (strd (((p0q0.set j1 (axL p1q0 p1q1 p2)).set j4 (IntKind.wrap .i64 (v3 + (axL p0q0 p0q1 p2))))) 0)))) 0 0 ((List.replicate ((volW (((p0q0.set j1 (axL p1q0 p1q1 p2)).set j4 (IntKind.wrap .i64 (v3 + (axL p0q0 p0q1 p2))))))).toNat (0 : Int)))) (k0  fuel)
  else
  none)
  else
  (bif decide (p2 = ((1 : Nat) : Int)) then
  (bif decide (0 ≤ ((volW (((p0q0.set j1 (axL p1q0 p1q1 p2)).set j4 (IntKind.wrap .i64 (v3 + (axL p0q0 p0q1 p2)))))) : Int)) && decide (((volW (((p0q0.set j1 (axL p1q0 p1q1 p2)).set j4 (IntKind.wrap .i64 (v3 + (axL p0q0 p0q1 p2)))))) : Int) ≤ (volW (((p0q0.set j1 (axL p1q0 p1q1 p2)).set j4 (IntKind.wrap .i64 (v3 + (axL p0q0 p0q1 p2))))))) && decide (((volW (((p0q0.set j1 (axL p1q0 p1q1 p2)).set j4 (IntKind.wrap .i64 (v3 + (axL p0q0 p0q1 p2)))))) : Int) ≤ 1152921504606846976) && decide (((8 : Nat) : Int) * (volW (((p0q0.set j1 (axL p1q0 p1q1 p2)).set j4 (IntKind.wrap .i64 (v3 + (axL p0q0 p0q1 p2)))))) ≤ 281474976710656) then
  L0 fuel fuel (t0 p0q0 p0q1 p1q0 p1q1 j1 p2 j4 v3 ((IntKind.wrap .i64 ((axL p0q0 p0q1 p2) * (strd (((p0q0.set j1 (axL p1q0 p1q1 p2)).set j4 (IntKind.wrap .i64 (v3 + (axL p0q0 p0q1 p2))))) 1)))) ((IntKind.wrap .i64 ((axL p1q0 p1q1 p2) * (strd (((p0q0.set j1 (axL p1q0 p1q1 p2)).set j4 (IntKind.wrap .i64 (v3 + (axL p0q0 p0q1 p2))))) 1)))) 0 0 ((List.replicate ((volW (((p0q0.set j1 (axL p1q0 p1q1 p2)).set j4 (IntKind.wrap .i64 (v3 + (axL p0q0 p0q1 p2))))))).toNat (0 : Int)))) (k0  fuel)
  else
  none)
  else
  (bif decide (p2 = ((2 : Nat) : Int)) then
  (bif decide (0 ≤ ((volW (((p0q0.set j1 (axL p1q0 p1q1 p2)).set j4 (IntKind.wrap .i64 (v3 + (axL p0q0 p0q1 p2)))))) : Int)) && decide (((volW (((p0q0.set j1 (axL p1q0 p1q1 p2)).set j4 (IntKind.wrap .i64 (v3 + (axL p0q0 p0q1 p2)))))) : Int) ≤ (volW (((p0q0.set j1 (axL p1q0 p1q1 p2)).set j4 (IntKind.wrap .i64 (v3 + (axL p0q0 p0q1 p2))))))) && decide (((volW (((p0q0.set j1 (axL p1q0 p1q1 p2)).set j4 (IntKind.wrap .i64 (v3 + (axL p0q0 p0q1 p2)))))) : Int) ≤ 1152921504606846976) && decide (((8 : Nat) : Int) * (volW (((p0q0.set j1 (axL p1q0 p1q1 p2)).set j4 (IntKind.wrap .i64 (v3 + (axL p0q0 p0q1 p2)))))) ≤ 281474976710656) then
  L0 fuel fuel (t0 p0q0 p0q1 p1q0 p1q1 j1 p2 j4 v3 ((IntKind.wrap .i64 ((axL p0q0 p0q1 p2) * (strd (((p0q0.set j1 (axL p1q0 p1q1 p2)).set j4 (IntKind.wrap .i64 (v3 + (axL p0q0 p0q1 p2))))) 1)))) ((IntKind.wrap .i64 ((axL p1q0 p1q1 p2) * (strd (((p0q0.set j1 (axL p1q0 p1q1 p2)).set j4 (IntKind.wrap .i64 (v3 + (axL p0q0 p0q1 p2))))) 2)))) 0 0 ((List.replicate ((volW (((p0q0.set j1 (axL p1q0 p1q1 p2)).set j4 (IntKind.wrap .i64 (v3 + (axL p0q0 p0q1 p2))))))).toNat (0 : Int)))) (k0  fuel)
  else
  none)
  else
  none)))
  else
  (bif decide (p2 = ((2 : Nat) : Int)) then
  (bif decide (p2 = ((0 : Nat) : Int)) then
  (bif decide (0 ≤ ((volW (((p0q0.set j1 (axL p1q0 p1q1 p2)).set j4 (IntKind.wrap .i64 (v3 + (axL p0q0 p0q1 p2)))))) : Int)) && decide (((volW (((p0q0.set j1 (axL p1q0 p1q1 p2)).set j4 (IntKind.wrap .i64 (v3 + (axL p0q0 p0q1 p2)))))) : Int) ≤ (volW (((p0q0.set j1 (axL p1q0 p1q1 p2)).set j4 (IntKind.wrap .i64 (v3 + (axL p0q0 p0q1 p2))))))) && decide (((volW (((p0q0.set j1 (axL p1q0 p1q1 p2)).set j4 (IntKind.wrap .i64 (v3 + (axL p0q0 p0q1 p2)))))) : Int) ≤ 1152921504606846976) && decide (((8 : Nat) : Int) * (volW (((p0q0.set j1 (axL p1q0 p1q1 p2)).set j4 (IntKind.wrap .i64 (v3 + (axL p0q0 p0q1 p2)))))) ≤ 281474976710656) then
  L0 fuel fuel (t0 p0q0 p0q1 p1q0 p1q1 j1 p2 j4 v3 ((IntKind.wrap .i64 ((axL p0q0 p0q1 p2) * (strd (((p0q0.set j1 (axL p1q0 p1q1 p2)).set j4 (IntKind.wrap .i64 (v3 + (axL p0q0 p0q1 p2))))) 2)))) ((IntKind.wrap .i64 ((axL p1q0 p1q1 p2) * (strd (((p0q0.set j1 (axL p1q0 p1q1 p2)).set j4 (IntKind.wrap .i64 (v3 + (axL p0q0 p0q1 p2))))) 0)))) 0 0 ((List.replicate ((volW (((p0q0.set j1 (axL p1q0 p1q1 p2)).set j4 (IntKind.wrap .i64 (v3 + (axL p0q0 p0q1 p2))))))).toNat (0 : Int)))) (k0  fuel)
  else
  none)
  else
  (bif decide (p2 = ((1 : Nat) : Int)) then
  (bif decide (0 ≤ ((volW (((p0q0.set j1 (axL p1q0 p1q1 p2)).set j4 (IntKind.wrap .i64 (v3 + (axL p0q0 p0q1 p2)))))) : Int)) && decide (((volW (((p0q0.set j1 (axL p1q0 p1q1 p2)).set j4 (IntKind.wrap .i64 (v3 + (axL p0q0 p0q1 p2)))))) : Int) ≤ (volW (((p0q0.set j1 (axL p1q0 p1q1 p2)).set j4 (IntKind.wrap .i64 (v3 + (axL p0q0 p0q1 p2))))))) && decide (((volW (((p0q0.set j1 (axL p1q0 p1q1 p2)).set j4 (IntKind.wrap .i64 (v3 + (axL p0q0 p0q1 p2)))))) : Int) ≤ 1152921504606846976) && decide (((8 : Nat) : Int) * (volW (((p0q0.set j1 (axL p1q0 p1q1 p2)).set j4 (IntKind.wrap .i64 (v3 + (axL p0q0 p0q1 p2)))))) ≤ 281474976710656) then
  L0 fuel fuel (t0 p0q0 p0q1 p1q0 p1q1 j1 p2 j4 v3 ((IntKind.wrap .i64 ((axL p0q0 p0q1 p2) * (strd (((p0q0.set j1 (axL p1q0 p1q1 p2)).set j4 (IntKind.wrap .i64 (v3 + (axL p0q0 p0q1 p2))))) 2)))) ((IntKind.wrap .i64 ((axL p1q0 p1q1 p2) * (strd (((p0q0.set j1 (axL p1q0 p1q1 p2)).set j4 (IntKind.wrap .i64 (v3 + (axL p0q0 p0q1 p2))))) 1)))) 0 0 ((List.replicate ((volW (((p0q0.set j1 (axL p1q0 p1q1 p2)).set j4 (IntKind.wrap .i64 (v3 + (axL p0q0 p0q1 p2))))))).toNat (0 : Int)))) (k0  fuel)
  else
  none)
  else
  (bif decide (p2 = ((2 : Nat) : Int)) then
  (bif decide (0 ≤ ((volW (((p0q0.set j1 (axL p1q0 p1q1 p2)).set j4 (IntKind.wrap .i64 (v3 + (axL p0q0 p0q1 p2)))))) : Int)) && decide (((volW (((p0q0.set j1 (axL p1q0 p1q1 p2)).set j4 (IntKind.wrap .i64 (v3 + (axL p0q0 p0q1 p2)))))) : Int) ≤ (volW (((p0q0.set j1 (axL p1q0 p1q1 p2)).set j4 (IntKind.wrap .i64 (v3 + (axL p0q0 p0q1 p2))))))) && decide (((volW (((p0q0.set j1 (axL p1q0 p1q1 p2)).set j4 (IntKind.wrap .i64 (v3 + (axL p0q0 p0q1 p2)))))) : Int) ≤ 1152921504606846976) && decide (((8 : Nat) : Int) * (volW (((p0q0.set j1 (axL p1q0 p1q1 p2)).set j4 (IntKind.wrap .i64 (v3 + (axL p0q0 p0q1 p2)))))) ≤ 281474976710656) then
  L0 fuel fuel (t0 p0q0 p0q1 p1q0 p1q1 j1 p2 j4 v3 ((IntKind.wrap .i64 ((axL p0q0 p0q1 p2) * (strd (((p0q0.set j1 (axL p1q0 p1q1 p2)).set j4 (IntKind.wrap .i64 (v3 + (axL p0q0 p0q1 p2))))) 2)))) ((IntKind.wrap .i64 ((axL p1q0 p1q1 p2) * (strd (((p0q0.set j1 (axL p1q0 p1q1 p2)).set j4 (IntKind.wrap .i64 (v3 + (axL p0q0 p0q1 p2))))) 2)))) 0 0 ((List.replicate ((volW (((p0q0.set j1 (axL p1q0 p1q1 p2)).set j4 (IntKind.wrap .i64 (v3 + (axL p0q0 p0q1 p2))))))).toNat (0 : Int)))) (k0  fuel)
  else
  none)
  else
  none)))
  else
  none)))
  else
  some ([.agg [((.ints .i64 []), true), ((.ints .i64 []), true)], .one ((.bool false), false)], []))
  else
  none)
  else
  none))
  else
  none)
  else
  none)
  else
  none)))
  else
  none)
  else
  none) := by kernel_rfl
theorem s0 (fuel n0 : Nat) (p0q0 : List Int) (p0q1 : List Int) (p1q0 : List Int) (p1q1 : List Int) (j1 : Nat) (p2 : Int) (j4 : Nat) (v3 : Int) (x0q0 : Int) (x0q1 : Int) (x0q2 : Int) (x0q3 : Int) (x0q13 : List Int) : L0 fuel (n0 + 1) (t0 p0q0 p0q1 p1q0 p1q1 j1 p2 j4 v3 x0q0 x0q1 x0q2 x0q3 x0q13) (k0  fuel) =
  (bif (decide ((x0q3 : Int) < (volW (((p0q0.set j1 (axL p1q0 p1q1 p2)).set j4 (IntKind.wrap .i64 (v3 + (axL p0q0 p0q1 p2)))))))) then
  (cutEnds x0q13.length (some (.imm (.int .i64 x0q3))) (none)).bind fun cq9 =>
  (cutEnds p0q1.length (some (.imm (.int .i64 (IntKind.wrap .i64 (x0q2 * x0q0))))) (some (.imm (.int .i64 (IntKind.wrap .i64 ((IntKind.wrap .i64 (x0q2 + 1)) * x0q0)))))).bind fun cq10 =>
  (bif decide (cq9.1 + (cq9.2 - cq9.1) ≤ x0q13.length) then
  (cutEnds (copyL x0q13 cq9.1 ((cq9.2 - cq9.1)) ((p0q1.drop cq10.1).take (cq10.2 - cq10.1))).length (some (.imm (.int .i64 (IntKind.wrap .i64 (x0q3 + ((min ((p0q1.drop cq10.1).take (cq10.2 - cq10.1)).length ((cq9.2 - cq9.1)) : Nat) : Int)))))) (none)).bind fun cq11 =>
  (cutEnds p1q1.length (some (.imm (.int .i64 (IntKind.wrap .i64 (x0q2 * x0q1))))) (some (.imm (.int .i64 (IntKind.wrap .i64 ((IntKind.wrap .i64 (x0q2 + 1)) * x0q1)))))).bind fun cq12 =>
  (bif decide (cq11.1 + (cq11.2 - cq11.1) ≤ (copyL x0q13 cq9.1 ((cq9.2 - cq9.1)) ((p0q1.drop cq10.1).take (cq10.2 - cq10.1))).length) then
  L0 fuel n0 (t0 p0q0 p0q1 p1q0 p1q1 j1 p2 j4 v3 x0q0 x0q1 ((IntKind.wrap .i64 (x0q2 + 1))) ((IntKind.wrap .i64 ((IntKind.wrap .i64 (x0q3 + ((min ((p0q1.drop cq10.1).take (cq10.2 - cq10.1)).length ((cq9.2 - cq9.1)) : Nat) : Int))) + ((min ((p1q1.drop cq12.1).take (cq12.2 - cq12.1)).length ((cq11.2 - cq11.1)) : Nat) : Int)))) ((copyL (copyL x0q13 cq9.1 ((cq9.2 - cq9.1)) ((p0q1.drop cq10.1).take (cq10.2 - cq10.1))) cq11.1 ((cq11.2 - cq11.1)) ((p1q1.drop cq12.1).take (cq12.2 - cq12.1))))) (k0  fuel)
  else
  none)
  else
  none)
  else
  some ([.agg [((.ints .i64 ((p0q0.set j1 (axL p1q0 p1q1 p2)).set j4 (IntKind.wrap .i64 (v3 + (axL p0q0 p0q1 p2))))), true), ((.ints .i64 x0q13), true)], .one ((.bool true), false)], [])) := by kernel_rfl
end impl_JoinAxis
theorem impl_JoinAxis.ok_of (hX : ∀ E ∈ impl_JoinAxis.X, CallSpec Try.prog E) (h : ∀ (sa : List Int) (da : List Int) (sb : List Int) (db : List Int) (k : Int), (decide (sa.length < 9223372036854775808) && decide (da.length < 9223372036854775808) && decide (sb.length < 9223372036854775808) && decide (db.length < 9223372036854775808)) = true → ∃ fuel, runF Try.prog impl_JoinAxis.X impl_JoinAxis.I 0 fuel 12 Try.f12 [.d (.agg [(.ints .i64 sa), (.ints .i64 da)]), .d (.agg [(.ints .i64 sb), (.ints .i64 db)]), .d (.int .i64 k)] = some ([.agg [((.ints .i64 (joS sa da sb db k)), true), ((.ints .i64 (joD sa da sb db k)), true)], .one ((.bool (joB sa da sb db k)), false)], [])) : CallSpec Try.prog impl_JoinAxis.E :=
  callSpec_of (d := 0) hX (by kernel_rfl) impl_JoinAxis.I_ok (by kernel_rfl) (by kernel_rfl) (by kernel_rfl) (fun _ _ _ _ h => by dsimp only [impl_JoinAxis.E] at h; cases h) (fun xs hp => by
    dsimp only [impl_JoinAxis.E] at hp ⊢
    split at hp
    · exact h _ _ _ _ _ hp
    · cases hp)
theorem impl_JoinAxis.loop (fuel : Nat) (sa da sb db : List Int) (j : Nat) (o : JoOk sa da sb db j) (hk : (sa.set j (axL sb db (j : Int))).set j (IntKind.wrap .i64 (((lenN sb j : Nat) : Int) + (axL sa da (j : Int)))) = joSh sa sb j) (hf : 3600 < fuel) :
    impl_JoinAxis.L0 fuel fuel (impl_JoinAxis.t0 sa da sb db j (j : Int) j ((lenN sb j : Nat) : Int) ((lenN sa j * behN sa j : Nat) : Int) ((lenN sb j * behN sa j : Nat) : Int) 0 0 (List.replicate (befN sa j * (lenN sa j * behN sa j + lenN sb j * behN sa j)) 0)) (impl_JoinAxis.k0 fuel) = some ([.agg [((.ints .i64 (joSh sa sb j)), true), ((.ints .i64 (joN sa da sb db j)), true)], .one ((.bool true), false)], []) := by
  have hda := o.da
  have hdb := o.db
  have hle := o.le
  have hvol := o.vol
  have hla := validA_len o.va
  have hlb := validA_len o.vb
  have hB := o.xa.bef_le
  unfold joN
  generalize hxe : lenN sa j * behN sa j = x at *
  generalize hye : lenN sb j * behN sa j = y at *
  generalize befN sa j = B at *
  by_cases hz : x + y = 0
  · obtain ⟨f, hf1⟩ : ∃ f, fuel = f + 1 := ⟨fuel - 1, by omega⟩
    have e0 : joC x y da db B = [] := by
      have := joC_len (x := x) (y := y) (da := da) (db := db) B (by omega) (by omega)
      rw [hz, Nat.mul_zero] at this
      exact List.length_eq_zero_iff.1 this
    rw [hz, Nat.mul_zero] at hvol ⊢
    conv => lhs; arg 2; rw [hf1]
    rw [impl_JoinAxis.s0, hk, hvol, e0]
    rfl
  · refine run_loop (N := B) (fun n i (s : Int × List Int) => impl_JoinAxis.L0 fuel n (impl_JoinAxis.t0 sa da sb db j (j : Int) j ((lenN sb j : Nat) : Int) (x : Int) (y : Int) (i : Int) s.1 s.2) (impl_JoinAxis.k0 fuel)) (fun i s => s.1 = ((i * (x + y) : Nat) : Int) ∧ s.2 = joC x y da db i ++ List.replicate (B * (x + y) - i * (x + y)) 0) ?_ ?_ fuel 0 (0, List.replicate (B * (x + y)) 0) (by omega) (by omega) ⟨by simp, by simp [joC]⟩
    · rintro n ⟨c, out⟩ ⟨hc, ho⟩
      simp only at hc ho
      subst hc
      dsimp only
      rw [Nat.sub_self, List.replicate_zero, List.append_nil] at ho
      rw [impl_JoinAxis.s0, hk, hvol, dge (by omega), cond_false, ho]
    · rintro n i ⟨c, out⟩ hi ⟨hc, ho⟩
      simp only at hc ho
      subst hc
      dsimp only
      have h1 : (i + 1) * x ≤ B * x := Nat.mul_le_mul_right _ hi
      have h2 : (i + 1) * y ≤ B * y := Nat.mul_le_mul_right _ hi
      have h3 : i * x ≤ (i + 1) * x := Nat.mul_le_mul_right _ (by omega)
      have h4 : i * y ≤ (i + 1) * y := Nat.mul_le_mul_right _ (by omega)
      have hl := joC_len (x := x) (y := y) (da := da) (db := db) i (by omega) (by omega)
      have h5 : (i + 1) * (x + y) ≤ B * (x + y) := Nat.mul_le_mul_right _ hi
      have h6 : (i + 1) * (x + y) = i * (x + y) + (x + y) := by rw [Nat.add_mul, Nat.one_mul]
      have q1 : ((da.drop (i * x)).take x).length = x := by simp only [List.length_take, List.length_drop]; rw [Nat.add_mul, Nat.one_mul] at h1; omega
      have q2 : ((db.drop (i * y)).take y).length = y := by simp only [List.length_take, List.length_drop]; rw [Nat.add_mul, Nat.one_mul] at h2; omega
      have hol : out.length = B * (x + y) := by rw [ho, List.length_append, hl, List.length_replicate]; omega
      have c1 : copyL out (i * (x + y)) (B * (x + y) - i * (x + y)) ((da.drop (i * x)).take x) = joC x y da db i ++ (da.drop (i * x)).take x ++ List.replicate (B * (x + y) - i * (x + y) - x) 0 := by
        have := copy_zero (A := joC x y da db i) (ys := (da.drop (i * x)).take x) (K := B * (x + y) - i * (x + y)) (by omega)
        rw [hl, q1] at this
        rw [ho, this]
      have hl2 : (joC x y da db i ++ (da.drop (i * x)).take x).length = i * (x + y) + x := by rw [List.length_append, hl, q1]
      have c2 : copyL (joC x y da db i ++ (da.drop (i * x)).take x ++ List.replicate (B * (x + y) - i * (x + y) - x) 0) (i * (x + y) + x) (B * (x + y) - (i * (x + y) + x)) ((db.drop (i * y)).take y) = joC x y da db (i + 1) ++ List.replicate (B * (x + y) - (i + 1) * (x + y)) 0 := by
        have := copy_zero (A := joC x y da db i ++ (da.drop (i * x)).take x) (ys := (db.drop (i * y)).take y) (K := B * (x + y) - i * (x + y) - x) (by omega)
        rw [hl2, q2] at this
        rw [show B * (x + y) - (i * (x + y) + x) = B * (x + y) - i * (x + y) - x by omega, this, show B * (x + y) - i * (x + y) - x - y = B * (x + y) - (i + 1) * (x + y) by omega]
        rfl
      rw [impl_JoinAxis.s0, hk, hvol, dlt (by omega), cond_true, hol, cut_lo (by omega), w1 (by omega), wMul (by omega), wMul (by omega), wMul (by omega), wMul (by omega), cut_both h3 (by omega), cut_both h4 (by omega)]
      simp only [Option.bind_some, ce_cut, c1]
      rw [decide_eq_true (by omega), cond_true, q1, show min x (B * (x + y) - i * (x + y)) = x by omega, wAdd (by omega)]
      have hl3 : (joC x y da db i ++ (da.drop (i * x)).take x ++ List.replicate (B * (x + y) - i * (x + y) - x) 0).length = B * (x + y) := by rw [List.length_append, hl2, List.length_replicate]; omega
      rw [hl3, cut_lo (by omega)]
      simp only [Option.bind_some, c2]
      rw [decide_eq_true (by omega), cond_true, q2, show min y (B * (x + y) - (i * (x + y) + x)) = y by omega, wAdd (by omega)]
      exact ⟨(((i + 1) * (x + y) : Nat), _), ⟨rfl, rfl⟩, by rw [show i * (x + y) + x + y = (i + 1) * (x + y) by omega]⟩
theorem impl_JoinAxis.ok : CallSpec Try.prog impl_JoinAxis.E := impl_JoinAxis.ok_of (by simp [impl_JoinAxis.X, impl_axisLength.ok, impl_copyList.ok, slices_Equal_int_int.ok, impl_layoutOf_j.ok]) fun sa da sb db k h => by
  obtain ⟨F, hF⟩ : ∃ F : Nat, 3600 < F := ⟨3601, by omega⟩
  refine ⟨F, ?_⟩
  simp only [Bool.and_eq_true] at h
  obtain ⟨⟨⟨h1, h2⟩, h3⟩, h4⟩ := h
  rw [impl_JoinAxis.e, h1, h2, h3, h4]
  unfold joS joD
  cases ha : axB sa da k with
  | false =>
    have : joB sa da sb db k = false := by simp only [joB, ha, Bool.false_and]
    rw [this]; rfl
  | true =>
    cases hb : axB sb db k with
    | false =>
      have : joB sa da sb db k = false := by simp only [joB, hb, Bool.false_and, Bool.and_false]
      rw [this]; rfl
    | true =>
      obtain ⟨j, rfl, hj, hv, ax, hd, hl⟩ := axB_inv ha
      obtain ⟨j2, e2, hj2, hv2, ax2, hd2, hl2⟩ := axB_inv hb
      obtain rfl : j = j2 := by omega
      have hr := ax.rank
      have hr2 := ax2.rank
      have hLa := ax.len_le
      have hLb := ax2.len_le
      have hset : sa.set j (axL sb db (j : Int)) = sa.set j (sb.getD j 0) := by rw [hl2, ax2.len]
      have hk : (sa.set j (axL sb db (j : Int))).set j (IntKind.wrap .i64 (((lenN sb j : Nat) : Int) + (axL sa da (j : Int)))) = joSh sa sb j := by
        rw [List.set_set, hl, wAdd (by omega)]
        unfold joSh
        rw [ax.len, ax2.len, ← Int.natCast_add, Nat.add_comm]
      rw [szB_of (xs := sa) (by omega), idx_nat hj]
      simp only [cond_true, Bool.not_true, cond_false, Option.bind_some]
      rw [decide_eq_true hj, cond_true, lt_of (by rw [List.length_set]; omega)]
      by_cases hs : sa.set j (sb.getD j 0) = sb
      · rw [hset] at hk ⊢
        rw [decide_eq_true hs, List.length_set, idx_nat hj]
        simp only [cond_true, Bool.and_self, Bool.not_true, cond_false, Option.bind_some]
        rw [List.getElem?_set_self hj]
        simp only [Option.bind_some]
        rw [decide_eq_true hj, cond_true, ax2.len]
        rw [ax2.len] at hk
        rw [hk, lt_of (by unfold joSh; rw [List.length_set]; omega), cond_true]
        have hjo : joB sa da sb db (j : Int) = validS (joSh sa sb j) := by
          simp only [joB, ha, hb, Int.toNat_natCast, decide_eq_true hs, Bool.true_and]
        cases hvs : validS (joSh sa sb j) with
        | false => rw [hjo, hvs]; rfl
        | true =>
          rw [hvs] at hjo
          obtain ⟨j3, e3, o⟩ := joB_inv hjo
          obtain rfl : j = j3 := by omega
          have hvol := o.vol
          have hle := o.le
          have hj5 : j < (joSh sa sb j).length := by unfold joSh; rw [List.length_set]; exact hj
          have hst : strd (joSh sa sb j) j = ((behN sa j : Nat) : Int) := by
            rw [strd_beh (ax_of hvs hj5), o.sh, beh_set]
          have hx : lenN sa j * behN sa j ≤ 60 * 3600 := Nat.mul_le_mul hLa ax.beh_le
          have hy : lenN sb j * behN sa j ≤ 60 * 3600 := Nat.mul_le_mul hLb ax.beh_le
          have hk2 : (sa.set j (axL sb db (j : Int))).set j (IntKind.wrap .i64 (((lenN sb j : Nat) : Int) + (axL sa da (j : Int)))) = joSh sa sb j := by rw [hset, ax2.len]; exact hk
          have lp := impl_JoinAxis.loop F sa da sb db j o hk2 hF
          rw [hvol, mkOk (by omega) (by omega), hl, hl2, Int.toNat_natCast]
          have fin : ∀ s : Int, s = ((behN sa j : Nat) : Int) → impl_JoinAxis.L0 F F (impl_JoinAxis.t0 sa da sb db j (j : Int) j ((lenN sb j : Nat) : Int) (IntKind.wrap .i64 (((lenN sa j : Nat) : Int) * s)) (IntKind.wrap .i64 (((lenN sb j : Nat) : Int) * s)) 0 0 (List.replicate (befN sa j * (lenN sa j * behN sa j + lenN sb j * behN sa j)) 0)) (impl_JoinAxis.k0 F) = some ([.agg [((.ints .i64 (bif joB sa da sb db (j : Int) then joSh sa sb (j : Int).toNat else [])), true), ((.ints .i64 (bif joB sa da sb db (j : Int) then joN sa da sb db (j : Int).toNat else [])), true)], .one ((.bool (joB sa da sb db (j : Int))), false)], []) := by
            rintro s rfl
            rw [wMul (by omega), wMul (by omega), lp, hjo, Int.toNat_natCast]
            rfl
          have hcase : j = 0 ∨ j = 1 ∨ j = 2 := by omega
          rcases hcase with rfl | rfl | rfl
          · exact fin _ hst
          · exact fin _ hst
          · exact fin _ hst
      · have : joB sa da sb db (j : Int) = false := by
          simp only [joB, Int.toNat_natCast, decide_eq_false hs, Bool.and_false, Bool.false_and]
        rw [hset, decide_eq_false hs, this]; rfl

namespace laws_eqIntS
noncomputable def E : Entry := ⟨21, true, false, fun | [.d (.ints .i64 xs), .d (.ints .i64 ys)] => decide (xs.length < 9223372036854775808) && decide (ys.length < 9223372036854775808) | _ => false, fun | [.d (.ints .i64 xs), .d (.ints .i64 ys)] => ([.one ((.bool (decide (xs = ys))), false)], []) | _ => ([], []), fun _ => [], false, fun _ => none⟩
end laws_eqIntS
namespace laws_eqIntS
noncomputable def X : List Entry := []
noncomputable def I : List Inl := [⟨21, Try.f21, ⟨[], [(1000004, [2, 3, 4, 6, 7, 8, 9, 10, 11, 12, 13, 14, 15, 16, 17, 18, 19, 20, 21, 22, 23, 24, 25])], [], [(6, [0, 1, 4, 5, 2, 3, 6, 7, 8])], [], []⟩⟩]
theorem I_ok : ∀ i ∈ I, Try.prog.funcs[i.f]? = some i.fn ∧ (i.fn.name == "runtime.NumGoroutine") = false := by
  intro i hi
  simp only [I, List.mem_cons, List.not_mem_nil, or_false] at hi
  subst hi
  exact ⟨by kernel_rfl, by kernel_rfl⟩
noncomputable abbrev L0 (fuel n : Nat) (s : St) (k : Kont) := lAt Try.prog X I fuel true 0 false 21 (bodyOf Try.f21) [1, 1, 0, 1, 0] n s k
noncomputable abbrev k0  (fuel : Nat) : Kont := (kAt Try.prog X I fuel true 0 false 21 (bodyOf Try.f21) [1, 1, 0, 1, 0] [] (endK Try.prog Try.f21))
noncomputable def t0 (p0 : List Int) (p1 : List Int) (x0q2 : Int) : St := ⟨[(.imm (.ints .i64 p0)), (.imm (.ints .i64 p1)), .dead, .dead, .dead, (.imm (.int .i64 x0q2)), .dead, .dead, .dead, .dead, .dead, .dead, .dead, .dead, .dead, .dead, .dead, .dead, .dead, .dead, .dead, .dead, .dead, .dead, .dead, .dead], hOf [], [], []⟩
theorem e (fuel : Nat) (p0 : List Int) (p1 : List Int) : runF Try.prog X I 0 fuel 21 Try.f21 [.d (.ints .i64 p0), .d (.ints .i64 p1)] =
  (bif ((((p0.length : Nat) : Int) : Int) != ((p1.length : Nat) : Int)) then
  some ([.one ((.bool false), false)], [])
  else
  L0 fuel fuel (t0 p0 p1 0) (k0  fuel)) := by kernel_rfl
theorem s0 (fuel n0 : Nat) (p0 : List Int) (p1 : List Int) (x0q2 : Int) : L0 fuel (n0 + 1) (t0 p0 p1 x0q2) (k0  fuel) =
  (bif (decide ((x0q2 : Int) < ((p0.length : Nat) : Int))) then
  (idx x0q2 p0.length).bind fun j9 =>
  (p0[j9]?).bind fun v10 =>
  (idx x0q2 p1.length).bind fun j11 =>
  (p1[j11]?).bind fun v12 =>
  (bif ((v10 : Int) != v12) then
  some ([.one ((.bool false), false)], [])
  else
  L0 fuel n0 (t0 p0 p1 ((IntKind.wrap .i64 (x0q2 + 1)))) (k0  fuel))
  else
  some ([.one ((.bool true), false)], [])) := by kernel_rfl
end laws_eqIntS
theorem laws_eqIntS.ok_of (hX : ∀ E ∈ laws_eqIntS.X, CallSpec Try.prog E) (h : ∀ (xs : List Int) (ys : List Int), (decide (xs.length < 9223372036854775808) && decide (ys.length < 9223372036854775808)) = true → ∃ fuel, runF Try.prog laws_eqIntS.X laws_eqIntS.I 0 fuel 21 Try.f21 [.d (.ints .i64 xs), .d (.ints .i64 ys)] = some ([.one ((.bool (decide (xs = ys))), false)], [])) : CallSpec Try.prog laws_eqIntS.E :=
  callSpec_of (d := 0) hX (by kernel_rfl) laws_eqIntS.I_ok (by kernel_rfl) (by kernel_rfl) (by kernel_rfl) (fun _ _ _ _ h => by dsimp only [laws_eqIntS.E] at h; cases h) (fun xs hp => by
    dsimp only [laws_eqIntS.E] at hp ⊢
    split at hp
    · exact h _ _ hp
    · cases hp)
theorem laws_eqIntS.loop (fuel : Nat) (xs ys : List Int) (hl : xs.length = ys.length) (hx : xs.length < 9223372036854775808) : ∀ (m n j : Nat), xs.length - j = m → m < n → j ≤ xs.length →
    laws_eqIntS.L0 fuel n (laws_eqIntS.t0 xs ys (j : Int)) (laws_eqIntS.k0 fuel) = some ([.one (.bool (decide (xs.drop j = ys.drop j)), false)], []) := by
  intro m
  induction m with
  | zero =>
    intro n j h1 h2 h3
    obtain ⟨n, rfl⟩ : ∃ n', n = n' + 1 := ⟨n - 1, by omega⟩
    have hj : ¬ j < xs.length := by omega
    rw [laws_eqIntS.s0, dge hj, dropE hj, dropE (xs := ys) (by omega)]
    rfl
  | succ m ih =>
    intro n j h1 h2 h3
    obtain ⟨n, rfl⟩ : ∃ n', n = n' + 1 := ⟨n - 1, by omega⟩
    have hj : j < xs.length := by omega
    have hj2 : j < ys.length := by omega
    rw [laws_eqIntS.s0, dlt hj, idx_nat hj, idx_nat hj2, w1 (by omega), dropS hj, dropS hj2]
    simp only [cond_true, Option.bind_some, getS hj, getS hj2]
    rw [ih n (j + 1) (by omega) (by omega) (by omega)]
    by_cases hv : xs[j] = ys[j]
    · rw [hv]
      simp only [bne_self_eq_false, cond_false, List.cons.injEq, true_and]
    · have : (xs[j] != ys[j]) = true := by simp [hv]
      rw [this]
      simp only [cond_true, List.cons.injEq, hv, false_and, decide_false]

theorem laws_eqIntS.ok : CallSpec Try.prog laws_eqIntS.E := laws_eqIntS.ok_of (by simp [laws_eqIntS.X]) fun xs ys h => by
  simp only [Bool.and_eq_true, decide_eq_true_eq] at h
  refine ⟨xs.length + 1, ?_⟩
  rw [laws_eqIntS.e]
  by_cases hl : xs.length = ys.length
  · have := laws_eqIntS.loop (xs.length + 1) xs ys hl h.1 xs.length (xs.length + 1) 0 (by omega) (by omega) (by omega)
    simp only [List.drop_zero] at this
    simp only [hl, bne_self_eq_false, cond_false]
    rw [← hl]
    exact this
  · have hne : xs ≠ ys := fun e => hl (e ▸ rfl)
    have : (((xs.length : Nat) : Int) != ((ys.length : Nat) : Int)) = true := by simp; omega
    rw [this]
    simp [hne]

namespace laws_eqArray
noncomputable def E : Entry := ⟨13, true, false, fun | [.d (.agg [(.ints .i64 sa), (.ints .i64 da)]), .d (.agg [(.ints .i64 sb), (.ints .i64 db)])] => decide (sa.length < 9223372036854775808) && decide (da.length < 9223372036854775808) && decide (sb.length < 9223372036854775808) && decide (db.length < 9223372036854775808) | _ => false, fun | [.d (.agg [(.ints .i64 sa), (.ints .i64 da)]), .d (.agg [(.ints .i64 sb), (.ints .i64 db)])] => ([.one ((.bool (decide (sa = sb) && decide (da = db))), false)], []) | _ => ([], []), fun _ => [], false, fun _ => none⟩
end laws_eqArray
namespace laws_eqArray
noncomputable def X : List Entry := [laws_eqIntS.E]
noncomputable def I : List Inl := [⟨13, Try.f13, ⟨[], [], [], [], [], []⟩⟩]
theorem I_ok : ∀ i ∈ I, Try.prog.funcs[i.f]? = some i.fn ∧ (i.fn.name == "runtime.NumGoroutine") = false := by
  intro i hi
  simp only [I, List.mem_cons, List.not_mem_nil, or_false] at hi
  subst hi
  exact ⟨by kernel_rfl, by kernel_rfl⟩
theorem e (fuel : Nat) (p0q0 : List Int) (p0q1 : List Int) (p1q0 : List Int) (p1q1 : List Int) : runF Try.prog X I 0 fuel 13 Try.f13 [.d (.agg [(.ints .i64 p0q0), (.ints .i64 p0q1)]), .d (.agg [(.ints .i64 p1q0), (.ints .i64 p1q1)])] =
  (bif decide (p0q0.length < 9223372036854775808) && decide (p1q0.length < 9223372036854775808) then
  (bif (!(decide (p0q0 = p1q0))) then
  some ([.one ((.bool false), false)], [])
  else
  (bif decide (p0q1.length < 9223372036854775808) && decide (p1q1.length < 9223372036854775808) then
  (bif (!(decide (p0q1 = p1q1))) then
  some ([.one ((.bool false), false)], [])
  else
  some ([.one ((.bool true), false)], []))
  else
  none))
  else
  none) := by kernel_rfl
end laws_eqArray
theorem laws_eqArray.ok_of (hX : ∀ E ∈ laws_eqArray.X, CallSpec Try.prog E) (h : ∀ (sa : List Int) (da : List Int) (sb : List Int) (db : List Int), (decide (sa.length < 9223372036854775808) && decide (da.length < 9223372036854775808) && decide (sb.length < 9223372036854775808) && decide (db.length < 9223372036854775808)) = true → ∃ fuel, runF Try.prog laws_eqArray.X laws_eqArray.I 0 fuel 13 Try.f13 [.d (.agg [(.ints .i64 sa), (.ints .i64 da)]), .d (.agg [(.ints .i64 sb), (.ints .i64 db)])] = some ([.one ((.bool (decide (sa = sb) && decide (da = db))), false)], [])) : CallSpec Try.prog laws_eqArray.E :=
  callSpec_of (d := 0) hX (by kernel_rfl) laws_eqArray.I_ok (by kernel_rfl) (by kernel_rfl) (by kernel_rfl) (fun _ _ _ _ h => by dsimp only [laws_eqArray.E] at h; cases h) (fun xs hp => by
    dsimp only [laws_eqArray.E] at hp ⊢
    split at hp
    · exact h _ _ _ _ hp
    · cases hp)
theorem laws_eqArray.ok : CallSpec Try.prog laws_eqArray.E := laws_eqArray.ok_of (by simp [laws_eqArray.X, laws_eqIntS.ok]) fun sa da sb db h => ⟨0, by
  simp only [Bool.and_eq_true, decide_eq_true_eq] at h
  obtain ⟨⟨⟨h1, h2⟩, h3⟩, h4⟩ := h
  rw [laws_eqArray.e]
  simp only [h1, h2, h3, h4, decide_true, Bool.and_self, cond_true]
  cases decide (sa = sb) <;> cases decide (da = db) <;> rfl⟩

namespace laws_markIntS
noncomputable def E : Entry := ⟨22, false, true, fun | [.rows true [(.i64, xs)], .d (.int .i64 k)] => decide (xs.length < 9223372036854775808) | _ => false, fun | [.rows true [(.i64, xs)], .d (.int .i64 k)] => ([.one ((.int .i64 (markK xs k)), false)], [[(.ints .i64 (markL xs k))]]) | _ => ([], []), fun _ => [], false, fun _ => none⟩
end laws_markIntS
namespace laws_markIntS
noncomputable def X : List Entry := []
noncomputable def I : List Inl := [⟨22, Try.f22, ⟨[], [(1000002, [2, 3, 4, 6, 7, 8, 9, 10, 11, 12, 13, 14, 15, 16, 17, 18])], [], [], [], []⟩⟩]
theorem I_ok : ∀ i ∈ I, Try.prog.funcs[i.f]? = some i.fn ∧ (i.fn.name == "runtime.NumGoroutine") = false := by
  intro i hi
  simp only [I, List.mem_cons, List.not_mem_nil, or_false] at hi
  subst hi
  exact ⟨by kernel_rfl, by kernel_rfl⟩
noncomputable abbrev L0 (fuel n : Nat) (s : St) (k : Kont) := lAt Try.prog X I fuel false 0 false 22 (bodyOf Try.f22) [1, 0, 1, 0] n s k
noncomputable abbrev k0  (fuel : Nat) : Kont := (kAt Try.prog X I fuel false 0 false 22 (bodyOf Try.f22) [1, 0, 1, 0] [] (endK Try.prog Try.f22))
noncomputable def t0 (x0q0 : Int) (x0q1 : Int) (x0q2 : List Int) : St := ⟨[(.all 1000000000 1), (.imm (.int .i64 x0q0)), .dead, .dead, .dead, (.imm (.int .i64 x0q1)), .dead, .dead, .dead, .dead, .dead, .dead, .dead, .dead, .dead, .dead, .dead, .dead, .dead], hOf [(1000000000, (.ints .i64 x0q2))], [(.all 1000000000 1)], []⟩
theorem e (fuel : Nat) (p0 : List Int) (p1 : Int) : runF Try.prog X I 0 fuel 22 Try.f22 [.rows true [(.i64, p0)], .d (.int .i64 p1)] =
  L0 fuel fuel (t0 p1 0 p0) (k0  fuel) := by kernel_rfl
theorem s0 (fuel n0 : Nat) (x0q0 : Int) (x0q1 : Int) (x0q2 : List Int) : L0 fuel (n0 + 1) (t0 x0q0 x0q1 x0q2) (k0  fuel) =
  (bif (decide ((x0q1 : Int) < ((x0q2.length : Nat) : Int))) then
  (idx x0q1 x0q2.length).bind fun j3 =>
  (bif decide (j3 < x0q2.length) then
  L0 fuel n0 (t0 ((IntKind.wrap .i64 (x0q0 + 1))) ((IntKind.wrap .i64 (x0q1 + 1))) ((x0q2.set j3 x0q0))) (k0  fuel)
  else
  none)
  else
  some ([.one ((.int .i64 x0q0), false)], [[(.ints .i64 x0q2)]])) := by kernel_rfl
end laws_markIntS
theorem laws_markIntS.ok_of (hX : ∀ E ∈ laws_markIntS.X, CallSpec Try.prog E) (h : ∀ (xs : List Int) (k : Int), (decide (xs.length < 9223372036854775808)) = true → ∃ fuel, runF Try.prog laws_markIntS.X laws_markIntS.I 0 fuel 22 Try.f22 [.rows true [(.i64, xs)], .d (.int .i64 k)] = some ([.one ((.int .i64 (markK xs k)), false)], [[(.ints .i64 (markL xs k))]])) : CallSpec Try.prog laws_markIntS.E :=
  callSpec_of (d := 0) hX (by kernel_rfl) laws_markIntS.I_ok (by kernel_rfl) (by kernel_rfl) (by kernel_rfl) (fun _ _ _ _ h => by dsimp only [laws_markIntS.E] at h; cases h) (fun xs hp => by
    dsimp only [laws_markIntS.E] at hp ⊢
    split at hp
    · exact h _ _ hp
    · cases hp)
theorem laws_markIntS.loop (fuel : Nat) : ∀ (m n j : Nat) (k : Int) (xs : List Int), xs.length < 9223372036854775808 → xs.length - j = m → m < n → j ≤ xs.length →
    laws_markIntS.L0 fuel n (laws_markIntS.t0 k (j : Int) xs) (laws_markIntS.k0 fuel) = some ([.one (.int .i64 (markK (xs.drop j) k), false)], [[.ints .i64 (xs.take j ++ markL (xs.drop j) k)]]) := by
  intro m
  induction m with
  | zero =>
    intro n j k xs hx h1 h2 h3
    obtain ⟨n, rfl⟩ : ∃ n', n = n' + 1 := ⟨n - 1, by omega⟩
    have hj : ¬ j < xs.length := by omega
    have : xs.take j = xs := List.take_of_length_le (by omega)
    rw [laws_markIntS.s0, dge hj, dropE hj, this]
    simp [markL, markK]
  | succ m ih =>
    intro n j k xs hx h1 h2 h3
    obtain ⟨n, rfl⟩ : ∃ n', n = n' + 1 := ⟨n - 1, by omega⟩
    have hj : j < xs.length := by omega
    rw [laws_markIntS.s0, dlt hj, idx_nat hj, w1 (by omega), dropS hj]
    simp only [cond_true, Option.bind_some, hj, decide_true]
    rw [ih n (j + 1) _ (xs.set j k) (by simpa using hx) (by simp; omega) (by omega) (by simp; omega)]
    have e1 : (xs.set j k).drop (j + 1) = xs.drop (j + 1) := by simp [List.drop_set]
    have e2 : (xs.set j k).take (j + 1) = xs.take j ++ [k] := by
      rw [List.take_add_one]
      simp [List.take_set, hj]
      exact List.set_eq_of_length_le (by simp; omega)
    rw [e1, e2]
    simp [markL, markK]

theorem laws_markIntS.ok : CallSpec Try.prog laws_markIntS.E := laws_markIntS.ok_of (by simp [laws_markIntS.X]) fun xs k h => by
  simp only [decide_eq_true_eq] at h
  refine ⟨xs.length + 1, ?_⟩
  rw [laws_markIntS.e]
  have := laws_markIntS.loop (xs.length + 1) xs.length (xs.length + 1) 0 k xs h (by omega) (by omega) (by omega)
  simpa using this

namespace laws_markArray
noncomputable def E : Entry := ⟨14, false, true, fun | [.rows false [(.i64, sh), (.i64, da)], .d (.int .i64 k)] => decide (sh.length < 9223372036854775808) && decide (da.length < 9223372036854775808) | _ => false, fun | [.rows false [(.i64, sh), (.i64, da)], .d (.int .i64 k)] => ([.one ((.int .i64 (markK da (markK sh k))), false)], [[(.ints .i64 (markL sh k))], [(.ints .i64 (markL da (markK sh k)))]]) | _ => ([], []), fun _ => [], false, fun _ => none⟩
end laws_markArray
namespace laws_markArray
noncomputable def X : List Entry := [laws_markIntS.E]
noncomputable def I : List Inl := [⟨14, Try.f14, ⟨[], [], [], [], [], []⟩⟩]
theorem I_ok : ∀ i ∈ I, Try.prog.funcs[i.f]? = some i.fn ∧ (i.fn.name == "runtime.NumGoroutine") = false := by
  intro i hi
  simp only [I, List.mem_cons, List.not_mem_nil, or_false] at hi
  subst hi
  exact ⟨by kernel_rfl, by kernel_rfl⟩
theorem e (fuel : Nat) (p0q0 : List Int) (p0q1 : List Int) (p1 : Int) : runF Try.prog X I 0 fuel 14 Try.f14 [.rows false [(.i64, p0q0), (.i64, p0q1)], .d (.int .i64 p1)] =
  (bif decide (p0q0.length < 9223372036854775808) then
  (bif decide (p0q1.length < 9223372036854775808) then
  some ([.one ((.int .i64 (markK p0q1 ((markK p0q0 p1)))), false)], [[(.ints .i64 (markL p0q0 p1))], [(.ints .i64 (markL p0q1 ((markK p0q0 p1))))]])
  else
  none)
  else
  none) := by kernel_rfl
end laws_markArray
theorem laws_markArray.ok_of (hX : ∀ E ∈ laws_markArray.X, CallSpec Try.prog E) (h : ∀ (sh : List Int) (da : List Int) (k : Int), (decide (sh.length < 9223372036854775808) && decide (da.length < 9223372036854775808)) = true → ∃ fuel, runF Try.prog laws_markArray.X laws_markArray.I 0 fuel 14 Try.f14 [.rows false [(.i64, sh), (.i64, da)], .d (.int .i64 k)] = some ([.one ((.int .i64 (markK da (markK sh k))), false)], [[(.ints .i64 (markL sh k))], [(.ints .i64 (markL da (markK sh k)))]])) : CallSpec Try.prog laws_markArray.E :=
  callSpec_of (d := 0) hX (by kernel_rfl) laws_markArray.I_ok (by kernel_rfl) (by kernel_rfl) (by kernel_rfl) (fun _ _ _ _ h => by dsimp only [laws_markArray.E] at h; cases h) (fun xs hp => by
    dsimp only [laws_markArray.E] at hp ⊢
    split at hp
    · exact h _ _ _ hp
    · cases hp)
theorem laws_markArray.ok : CallSpec Try.prog laws_markArray.E := laws_markArray.ok_of (by simp [laws_markArray.X, laws_markIntS.ok]) fun sh da k h => ⟨0, by
  simp only [Bool.and_eq_true, decide_eq_true_eq] at h
  rw [laws_markArray.e]
  simp only [h.1, h.2, decide_true, cond_true]⟩

namespace laws_heldIntS
noncomputable def E : Entry := ⟨41, true, false, fun | [.d (.ints .i64 xs), .d (.int .i64 k)] => decide (xs.length < 9223372036854775808) | _ => false, fun | [.d (.ints .i64 xs), .d (.int .i64 k)] => ([.one ((.int .i64 (heldL xs k)), false)], []) | _ => ([], []), fun _ => [], false, fun _ => none⟩
end laws_heldIntS
namespace laws_heldIntS
noncomputable def X : List Entry := []
noncomputable def I : List Inl := [⟨41, Try.f41, ⟨[], [(1000002, [2, 3, 4, 6, 7, 8, 9, 10, 11, 12, 13, 14, 15, 16, 17, 18, 19, 20])], [], [], [], []⟩⟩]
theorem I_ok : ∀ i ∈ I, Try.prog.funcs[i.f]? = some i.fn ∧ (i.fn.name == "runtime.NumGoroutine") = false := by
  intro i hi
  simp only [I, List.mem_cons, List.not_mem_nil, or_false] at hi
  subst hi
  exact ⟨by kernel_rfl, by kernel_rfl⟩
noncomputable abbrev L0 (fuel n : Nat) (s : St) (k : Kont) := lAt Try.prog X I fuel true 0 false 41 (bodyOf Try.f41) [1, 0, 1, 0] n s k
noncomputable abbrev k0  (fuel : Nat) : Kont := (kAt Try.prog X I fuel true 0 false 41 (bodyOf Try.f41) [1, 0, 1, 0] [] (endK Try.prog Try.f41))
noncomputable def t0 (p0 : List Int) (x0q1 : Int) (x0q2 : Int) : St := ⟨[(.imm (.ints .i64 p0)), (.imm (.int .i64 x0q1)), .dead, .dead, .dead, (.imm (.int .i64 x0q2)), .dead, .dead, .dead, .dead, .dead, .dead, .dead, .dead, .dead, .dead, .dead, .dead, .dead, .dead, .dead], hOf [], [], []⟩
theorem e (fuel : Nat) (p0 : List Int) (p1 : Int) : runF Try.prog X I 0 fuel 41 Try.f41 [.d (.ints .i64 p0), .d (.int .i64 p1)] =
  L0 fuel fuel (t0 p0 p1 0) (k0  fuel) := by kernel_rfl
theorem s0 (fuel n0 : Nat) (p0 : List Int) (x0q1 : Int) (x0q2 : Int) : L0 fuel (n0 + 1) (t0 p0 x0q1 x0q2) (k0  fuel) =
  (bif (decide ((x0q2 : Int) < ((p0.length : Nat) : Int))) then
  (idx x0q2 p0.length).bind fun j5 =>
  (p0[j5]?).bind fun v6 =>
  (bif ((v6 : Int) != x0q1) then
  some ([.one ((.int .i64 (-1)), false)], [])
  else
  L0 fuel n0 (t0 p0 ((IntKind.wrap .i64 (x0q1 + 1))) ((IntKind.wrap .i64 (x0q2 + 1)))) (k0  fuel))
  else
  some ([.one ((.int .i64 x0q1), false)], [])) := by kernel_rfl
end laws_heldIntS
theorem laws_heldIntS.ok_of (hX : ∀ E ∈ laws_heldIntS.X, CallSpec Try.prog E) (h : ∀ (xs : List Int) (k : Int), (decide (xs.length < 9223372036854775808)) = true → ∃ fuel, runF Try.prog laws_heldIntS.X laws_heldIntS.I 0 fuel 41 Try.f41 [.d (.ints .i64 xs), .d (.int .i64 k)] = some ([.one ((.int .i64 (heldL xs k)), false)], [])) : CallSpec Try.prog laws_heldIntS.E :=
  callSpec_of (d := 0) hX (by kernel_rfl) laws_heldIntS.I_ok (by kernel_rfl) (by kernel_rfl) (by kernel_rfl) (fun _ _ _ _ h => by dsimp only [laws_heldIntS.E] at h; cases h) (fun xs hp => by
    dsimp only [laws_heldIntS.E] at hp ⊢
    split at hp
    · exact h _ _ hp
    · cases hp)
theorem laws_heldIntS.loop (fuel : Nat) (xs : List Int) (hx : xs.length < 9223372036854775808) : ∀ (m n j : Nat) (k : Int), xs.length - j = m → m < n → j ≤ xs.length →
    laws_heldIntS.L0 fuel n (laws_heldIntS.t0 xs k (j : Int)) (laws_heldIntS.k0 fuel) = some ([.one (.int .i64 (heldL (xs.drop j) k), false)], []) := by
  intro m
  induction m with
  | zero =>
    intro n j k h1 h2 h3
    obtain ⟨n, rfl⟩ : ∃ n', n = n' + 1 := ⟨n - 1, by omega⟩
    have hj : ¬ j < xs.length := by omega
    rw [laws_heldIntS.s0, dge hj, dropE hj]
    rfl
  | succ m ih =>
    intro n j k h1 h2 h3
    obtain ⟨n, rfl⟩ : ∃ n', n = n' + 1 := ⟨n - 1, by omega⟩
    have hj : j < xs.length := by omega
    rw [laws_heldIntS.s0, dlt hj, idx_nat hj, w1 (by omega), dropS hj]
    simp only [cond_true, Option.bind_some, getS hj, heldL]
    rw [ih n (j + 1) _ (by omega) (by omega) (by omega)]
    cases (xs[j] != k) <;> rfl

theorem laws_heldIntS.ok : CallSpec Try.prog laws_heldIntS.E := laws_heldIntS.ok_of (by simp [laws_heldIntS.X]) fun xs k h => by
  simp only [decide_eq_true_eq] at h
  refine ⟨xs.length + 1, ?_⟩
  rw [laws_heldIntS.e]
  exact laws_heldIntS.loop (xs.length + 1) xs h xs.length (xs.length + 1) 0 k (by omega) (by omega) (by omega)

namespace laws_heldArray
noncomputable def E : Entry := ⟨15, true, false, fun | [.d (.agg [(.ints .i64 sh), (.ints .i64 da)]), .d (.int .i64 k)] => decide (sh.length < 9223372036854775808) && decide (da.length < 9223372036854775808) | _ => false, fun | [.d (.agg [(.ints .i64 sh), (.ints .i64 da)]), .d (.int .i64 k)] => ([.one ((.int .i64 (heldA sh da k)), false)], []) | _ => ([], []), fun _ => [], false, fun _ => none⟩
end laws_heldArray
namespace laws_heldArray
noncomputable def X : List Entry := [laws_heldIntS.E]
noncomputable def I : List Inl := [⟨15, Try.f15, ⟨[], [], [], [], [], []⟩⟩]
theorem I_ok : ∀ i ∈ I, Try.prog.funcs[i.f]? = some i.fn ∧ (i.fn.name == "runtime.NumGoroutine") = false := by
  intro i hi
  simp only [I, List.mem_cons, List.not_mem_nil, or_false] at hi
  subst hi
  exact ⟨by kernel_rfl, by kernel_rfl⟩
theorem e (fuel : Nat) (p0q0 : List Int) (p0q1 : List Int) (p1 : Int) : runF Try.prog X I 0 fuel 15 Try.f15 [.d (.agg [(.ints .i64 p0q0), (.ints .i64 p0q1)]), .d (.int .i64 p1)] =
  (bif decide (p0q0.length < 9223372036854775808) then
  (bif (decide (((heldL p0q0 p1) : Int) < 0)) then
  some ([.one ((.int .i64 (-1)), false)], [])
  else
  (bif decide (p0q1.length < 9223372036854775808) then
  (bif (decide (((heldL p0q1 ((heldL p0q0 p1))) : Int) < 0)) then
  some ([.one ((.int .i64 (-1)), false)], [])
  else
  some ([.one ((.int .i64 (heldL p0q1 ((heldL p0q0 p1)))), false)], []))
  else
  none))
  else
  none) := by kernel_rfl
end laws_heldArray
theorem laws_heldArray.ok_of (hX : ∀ E ∈ laws_heldArray.X, CallSpec Try.prog E) (h : ∀ (sh : List Int) (da : List Int) (k : Int), (decide (sh.length < 9223372036854775808) && decide (da.length < 9223372036854775808)) = true → ∃ fuel, runF Try.prog laws_heldArray.X laws_heldArray.I 0 fuel 15 Try.f15 [.d (.agg [(.ints .i64 sh), (.ints .i64 da)]), .d (.int .i64 k)] = some ([.one ((.int .i64 (heldA sh da k)), false)], [])) : CallSpec Try.prog laws_heldArray.E :=
  callSpec_of (d := 0) hX (by kernel_rfl) laws_heldArray.I_ok (by kernel_rfl) (by kernel_rfl) (by kernel_rfl) (fun _ _ _ _ h => by dsimp only [laws_heldArray.E] at h; cases h) (fun xs hp => by
    dsimp only [laws_heldArray.E] at hp ⊢
    split at hp
    · exact h _ _ _ hp
    · cases hp)
theorem laws_heldArray.ok : CallSpec Try.prog laws_heldArray.E := laws_heldArray.ok_of (by simp [laws_heldArray.X, laws_heldIntS.ok]) fun sh da k h => ⟨0, by
  simp only [Bool.and_eq_true, decide_eq_true_eq] at h
  rw [laws_heldArray.e]
  unfold heldA
  simp only [h.1, h.2, decide_true, cond_true]
  cases decide (heldL sh k < 0) <;> cases decide (heldL da (heldL sh k) < 0) <;> rfl⟩

namespace laws_FnExactJoinAxis
noncomputable def E : Entry := ⟨3, true, false, fun | [.d (.agg [(.ints .i64 sa), (.ints .i64 da)]), .d (.agg [(.ints .i64 sb), (.ints .i64 db)]), .d (.int .i64 k)] => decide (sa.length < 9223372036854775808) && decide (da.length < 9223372036854775808) && decide (sb.length < 9223372036854775808) && decide (db.length < 9223372036854775808) | _ => false, fun | [.d (.agg [(.ints .i64 sa), (.ints .i64 da)]), .d (.agg [(.ints .i64 sb), (.ints .i64 db)]), .d (.int .i64 k)] => ([.one ((.bool true), false)], []) | _ => ([], []), fun _ => [], false, fun _ => none⟩
end laws_FnExactJoinAxis
namespace laws_FnExactJoinAxis
noncomputable def X : List Entry := [laws_szArray.E, laws_toArray.E, spec_JoinAxis.E, impl_JoinAxis.E, laws_eqArray.E, laws_markArray.E, laws_heldArray.E]
noncomputable def I : List Inl := [⟨3, Try.f3, ⟨[31, 33, 35, 39, 41, 46, 60, 65, 100, 102, 104], [], [], [(8, [4, 0, 2, 1, 3, 5, 6, 7, 8, 9, 10, 11]), (31, [4, 0, 2, 1, 3, 5, 6, 7, 8, 9, 10, 11])], [], []⟩⟩]
theorem I_ok : ∀ i ∈ I, Try.prog.funcs[i.f]? = some i.fn ∧ (i.fn.name == "runtime.NumGoroutine") = false := by
  intro i hi
  simp only [I, List.mem_cons, List.not_mem_nil, or_false] at hi
  subst hi
  exact ⟨by kernel_rfl, by kernel_rfl⟩
theorem e (fuel : Nat) (p0q0 : List Int) (p0q1 : List Int) (p1q0 : List Int) (p1q1 : List Int) (p2 : Int) : runF Try.prog X I 0 fuel 3 Try.f3 [.d (.agg [(.ints .i64 p0q0), (.ints .i64 p0q1)]), .d (.agg [(.ints .i64 p1q0), (.ints .i64 p1q1)]), .d (.int .i64 p2)] =
  (bif (decide (((szA p0q0 p0q1 1048576) : Int) < 0)) then
  some ([.one ((.bool true), false)], [])
  else
  (bif (decide (((szA p1q0 p1q1 ((szA p0q0 p0q1 1048576))) : Int) < 0)) then
  some ([.one ((.bool true), false)], [])
  else
  (bif szB p0q0 && szB p0q1 then
  (bif szB p1q0 && szB p1q1 then
  (bif decide (p0q0.length < 9223372036854775808) && decide (p0q1.length < 9223372036854775808) && decide (p1q0.length < 9223372036854775808) && decide (p1q1.length < 9223372036854775808) then
  (bif szB p0q0 && szB p0q1 then
  (bif szB p1q0 && szB p1q1 then
  (bif decide (p0q0.length < 9223372036854775808) && decide (p0q1.length < 9223372036854775808) && decide (p1q0.length < 9223372036854775808) && decide (p1q1.length < 9223372036854775808) then
  (bif decide (((joS p0q0 p0q1 p1q0 p1q1 p2)).length < 9223372036854775808) && decide (((joD p0q0 p0q1 p1q0 p1q1 p2)).length < 9223372036854775808) && decide (((joS p0q0 p0q1 p1q0 p1q1 p2)).length < 9223372036854775808) && decide (((joD p0q0 p0q1 p1q0 p1q1 p2)).length < 9223372036854775808) then
  (bif (!(decide (((joS p0q0 p0q1 p1q0 p1q1 p2)) = ((joS p0q0 p0q1 p1q0 p1q1 p2))) && decide (((joD p0q0 p0q1 p1q0 p1q1 p2)) = ((joD p0q0 p0q1 p1q0 p1q1 p2))))) then
  some ([.one ((.bool false), false)], [])
  else
  (bif (!((joB p0q0 p0q1 p1q0 p1q1 p2) == (joB p0q0 p0q1 p1q0 p1q1 p2))) then
  some ([.one ((.bool false), false)], [])
  else
  (bif szB p0q0 && szB p0q1 then
  (bif decide (p0q0.length < 9223372036854775808) && decide (p0q1.length < 9223372036854775808) && decide (p0q0.length < 9223372036854775808) && decide (p0q1.length < 9223372036854775808) then
  (bif (!(decide (p0q0 = p0q0) && decide (p0q1 = p0q1))) then
  some ([.one ((.bool false), false)], [])
  else
  (bif szB p1q0 && szB p1q1 then
  (bif decide (p1q0.length < 9223372036854775808) && decide (p1q1.length < 9223372036854775808) && decide (p1q0.length < 9223372036854775808) && decide (p1q1.length < 9223372036854775808) then
  (bif (!(decide (p1q0 = p1q0) && decide (p1q1 = p1q1))) then
  some ([.one ((.bool false), false)], [])
  else
  (bif decide (p0q0.length < 9223372036854775808) && decide (p0q1.length < 9223372036854775808) then
  (bif decide (p1q0.length < 9223372036854775808) && decide (p1q1.length < 9223372036854775808) then
  (bif (decide (((markK p1q1 (markK p1q0 ((markK p0q1 (markK p0q0 1))))) : Int) < 0)) then
  some ([.one ((.bool false), false)], [])
  else
  (bif decide (((joS p0q0 p0q1 p1q0 p1q1 p2)).length < 9223372036854775808) && decide (((joD p0q0 p0q1 p1q0 p1q1 p2)).length < 9223372036854775808) && decide (((joS p0q0 p0q1 p1q0 p1q1 p2)).length < 9223372036854775808) && decide (((joD p0q0 p0q1 p1q0 p1q1 p2)).length < 9223372036854775808) then
  (bif (!(decide (((joS p0q0 p0q1 p1q0 p1q1 p2)) = ((joS p0q0 p0q1 p1q0 p1q1 p2))) && decide (((joD p0q0 p0q1 p1q0 p1q1 p2)) = ((joD p0q0 p0q1 p1q0 p1q1 p2))))) then
  some ([.one ((.bool false), false)], [])
  else
  (bif (!((joB p0q0 p0q1 p1q0 p1q1 p2) == (joB p0q0 p0q1 p1q0 p1q1 p2))) then
  some ([.one ((.bool false), false)], [])
  else
  (bif decide (((joS p0q0 p0q1 p1q0 p1q1 p2)).length < 9223372036854775808) && decide (((joD p0q0 p0q1 p1q0 p1q1 p2)).length < 9223372036854775808) then
  (bif decide (((markL ((joS p0q0 p0q1 p1q0 p1q1 p2)) 1)).length < 9223372036854775808) && decide (((markL ((joD p0q0 p0q1 p1q0 p1q1 p2)) (markK ((joS p0q0 p0q1 p1q0 p1q1 p2)) 1))).length < 9223372036854775808) then
  (bif (decide (((heldA ((markL ((joS p0q0 p0q1 p1q0 p1q1 p2)) 1)) ((markL ((joD p0q0 p0q1 p1q0 p1q1 p2)) (markK ((joS p0q0 p0q1 p1q0 p1q1 p2)) 1))) 1) : Int) < 0)) then
  some ([.one ((.bool false), false)], [])
  else
  (bif (((heldA ((markL ((joS p0q0 p0q1 p1q0 p1q1 p2)) 1)) ((markL ((joD p0q0 p0q1 p1q0 p1q1 p2)) (markK ((joS p0q0 p0q1 p1q0 p1q1 p2)) 1))) 1) : Int) != (markK ((joD p0q0 p0q1 p1q0 p1q1 p2)) (markK ((joS p0q0 p0q1 p1q0 p1q1 p2)) 1))) then
  some ([.one ((.bool false), false)], [])
  else
  (bif szB p0q0 && szB p0q1 then
  (bif szB p1q0 && szB p1q1 then
  (bif decide (p0q0.length < 9223372036854775808) && decide (p0q1.length < 9223372036854775808) && decide (p1q0.length < 9223372036854775808) && decide (p1q1.length < 9223372036854775808) then
  (bif decide (((joS p0q0 p0q1 p1q0 p1q1 p2)).length < 9223372036854775808) && decide (((joD p0q0 p0q1 p1q0 p1q1 p2)).length < 9223372036854775808) && decide (((joS p0q0 p0q1 p1q0 p1q1 p2)).length < 9223372036854775808) && decide (((joD p0q0 p0q1 p1q0 p1q1 p2)).length < 9223372036854775808) then
  (bif (!(decide (((joS p0q0 p0q1 p1q0 p1q1 p2)) = ((joS p0q0 p0q1 p1q0 p1q1 p2))) && decide (((joD p0q0 p0q1 p1q0 p1q1 p2)) = ((joD p0q0 p0q1 p1q0 p1q1 p2))))) then
  some ([.one ((.bool false), false)], [])
  else
  (bif (!((joB p0q0 p0q1 p1q0 p1q1 p2) == (joB p0q0 p0q1 p1q0 p1q1 p2))) then
  some ([.one ((.bool false), false)], [])
  else
  (bif decide (((markL ((joS p0q0 p0q1 p1q0 p1q1 p2)) 1)).length < 9223372036854775808) && decide (((markL ((joD p0q0 p0q1 p1q0 p1q1 p2)) (markK ((joS p0q0 p0q1 p1q0 p1q1 p2)) 1))).length < 9223372036854775808) then
  (bif (decide (((heldA ((markL ((joS p0q0 p0q1 p1q0 p1q1 p2)) 1)) ((markL ((joD p0q0 p0q1 p1q0 p1q1 p2)) (markK ((joS p0q0 p0q1 p1q0 p1q1 p2)) 1))) 1) : Int) < 0)) then
  some ([.one ((.bool false), false)], [])
  else
  (bif (((heldA ((markL ((joS p0q0 p0q1 p1q0 p1q1 p2)) 1)) ((markL ((joD p0q0 p0q1 p1q0 p1q1 p2)) (markK ((joS p0q0 p0q1 p1q0 p1q1 p2)) 1))) 1) : Int) != (markK ((joD p0q0 p0q1 p1q0 p1q1 p2)) (markK ((joS p0q0 p0q1 p1q0 p1q1 p2)) 1))) then
  some ([.one ((.bool false), false)], [])
  else
  some ([.one ((.bool true), false)], [])))
  else
  none)))
  else
  none)
  else
  none)
  else
  none)
  else
  none)))
  else
  none)
  else
  none)))
  else
  none))
  else
  none)
  else
  none))
  else
  none)
  else
  none))
  else
  none)
  else
  none)))
  else
  none)
  else
  none)
  else
  none)
  else
  none)
  else
  none)
  else
  none)
  else
  none))) := by kernel_rfl
end laws_FnExactJoinAxis
theorem laws_FnExactJoinAxis.ok_of (hX : ∀ E ∈ laws_FnExactJoinAxis.X, CallSpec Try.prog E) (h : ∀ (sa : List Int) (da : List Int) (sb : List Int) (db : List Int) (k : Int), (decide (sa.length < 9223372036854775808) && decide (da.length < 9223372036854775808) && decide (sb.length < 9223372036854775808) && decide (db.length < 9223372036854775808)) = true → ∃ fuel, runF Try.prog laws_FnExactJoinAxis.X laws_FnExactJoinAxis.I 0 fuel 3 Try.f3 [.d (.agg [(.ints .i64 sa), (.ints .i64 da)]), .d (.agg [(.ints .i64 sb), (.ints .i64 db)]), .d (.int .i64 k)] = some ([.one ((.bool true), false)], [])) : CallSpec Try.prog laws_FnExactJoinAxis.E :=
  callSpec_of (d := 0) hX (by kernel_rfl) laws_FnExactJoinAxis.I_ok (by kernel_rfl) (by kernel_rfl) (by kernel_rfl) (fun _ _ _ _ h => by dsimp only [laws_FnExactJoinAxis.E] at h; cases h) (fun xs hp => by
    dsimp only [laws_FnExactJoinAxis.E] at hp ⊢
    split at hp
    · exact h _ _ _ _ _ hp
    · cases hp)
theorem laws_FnExactJoinAxis.ok : CallSpec Try.prog laws_FnExactJoinAxis.E := laws_FnExactJoinAxis.ok_of (by simp [laws_FnExactJoinAxis.X, laws_szArray.ok, laws_toArray.ok, spec_JoinAxis.ok, impl_JoinAxis.ok, laws_eqArray.ok, laws_markArray.ok, laws_heldArray.ok]) fun sa da sb db k h => ⟨0, by
  rw [laws_FnExactJoinAxis.e]
  simp only [Bool.and_eq_true] at h
  obtain ⟨⟨⟨g0, g1⟩, g2⟩, g3⟩ := h
  by_cases a0 : szA sa da 1048576 < 0
  · rw [decide_eq_true a0]; rfl
  obtain ⟨q0, p0⟩ := szA_le (by omega) (by omega) (of_decide_eq_true g0) (of_decide_eq_true g1) a0
  by_cases a1 : szA sb db (szA sa da 1048576) < 0
  · rw [decide_eq_false a0, decide_eq_true a1]; rfl
  obtain ⟨q1, p1⟩ := szA_le (by omega) (by omega) (of_decide_eq_true g2) (of_decide_eq_true g3) a1
  have z0 := szB_of (xs := sa) (by omega)
  have z1 := szB_of (xs := da) (by omega)
  have z2 := szB_of (xs := sb) (by omega)
  have z3 := szB_of (xs := db) (by omega)
  have hl := jo_len sa da sb db k
  obtain ⟨r0a, r0b, r0c, r0d, r0e, r0f⟩ := marks_ok (sh := (joS sa da sb db k)) (da := (joD sa da sb db k)) (by omega) (by omega)
  have mk := mark4_ok (xs := sa) (ys := da) (zs := sb) (ws := db) (by omega) (by omega) (by omega) (by omega)
  simp only [decide_eq_false a0, decide_eq_false a1, g0, g1, g2, g3, z0, z1, z2, z3, r0a, r0b, r0c, r0d, r0e, r0f, mk, bne_self_eq_false, beq_self_eq_true, decide_true, Bool.and_self, Bool.not_true, cond_true, cond_false]⟩

namespace spec_StackArrays
noncomputable def E : Entry := ⟨16, false, false, fun | [.d (.agg [(.ints .i64 sa), (.ints .i64 da)]), .d (.agg [(.ints .i64 sb), (.ints .i64 db)])] => szB sa && szB sb && decide (da.length < 9223372036854775808) && decide (db.length < 9223372036854775808) | _ => false, fun | [.d (.agg [(.ints .i64 sa), (.ints .i64 da)]), .d (.agg [(.ints .i64 sb), (.ints .i64 db)])] => ([.agg [((.ints .i64 (stS sa da sb db)), true), ((.ints .i64 (stD sa da sb db)), true)], .one ((.bool (stB sa da sb db)), false)], []) | _ => ([], []), fun _ => [], true, fun _ => none⟩
end spec_StackArrays
namespace spec_StackArrays
noncomputable def X : List Entry := [spec_valid.E, spec_sameInts.E, spec_validShape.E, spec_make1.E]
noncomputable def I : List Inl := [⟨16, Try.f16, ⟨[41], [], [(4, [3])], [(4, [0, 2, 5, 6, 3, 1, 4, 7, 8, 9, 10])], [39], []⟩⟩]
theorem I_ok : ∀ i ∈ I, Try.prog.funcs[i.f]? = some i.fn ∧ (i.fn.name == "runtime.NumGoroutine") = false := by
  intro i hi
  simp only [I, List.mem_cons, List.not_mem_nil, or_false] at hi
  subst hi
  exact ⟨by kernel_rfl, by kernel_rfl⟩
theorem e (fuel : Nat) (p0q0 : List Int) (p0q1 : List Int) (p1q0 : List Int) (p1q1 : List Int) : runF Try.prog X I 0 fuel 16 Try.f16 [.d (.agg [(.ints .i64 p0q0), (.ints .i64 p0q1)]), .d (.agg [(.ints .i64 p1q0), (.ints .i64 p1q1)])] =
  (bif fits (([2] : List Int).length + p0q0.length) 8 then
  (bif decide (p0q0.length < 9223372036854775808) && decide (p0q1.length < 9223372036854775808) then
  (bif (!(validA p0q0 p0q1)) then
  some ([.agg [((.ints .i64 []), true), ((.ints .i64 []), true)], .one ((.bool false), false)], [])
  else
  (bif decide (p1q0.length < 9223372036854775808) && decide (p1q1.length < 9223372036854775808) then
  (bif (!(validA p1q0 p1q1)) then
  some ([.agg [((.ints .i64 []), true), ((.ints .i64 []), true)], .one ((.bool false), false)], [])
  else
  (bif decide (p0q0.length < 9223372036854775808) && decide (p1q0.length < 9223372036854775808) then
  (bif (!(decide (p0q0 = p1q0))) then
  some ([.agg [((.ints .i64 []), true), ((.ints .i64 []), true)], .one ((.bool false), false)], [])
  else
  (bif decide (((([2] : List Int) ++ p0q0)).length < 9223372036854775808) then
  (bif (!(validS ((([2] : List Int) ++ p0q0)))) then
  some ([.agg [((.ints .i64 []), true), ((.ints .i64 []), true)], .one ((.bool false), false)], [])
  else
  (bif fits (([] : List Int).length + p0q1.length) 8 then
  (bif fits ((([] : List Int) ++ p0q1).length + p1q1.length) 8 then
  (bif szB ((([2] : List Int) ++ p0q0)) && szB (((([] : List Int) ++ p0q1) ++ p1q1)) then
  some ([.agg [((.ints .i64 ((([2] : List Int) ++ p0q0))), true), ((.ints .i64 (((([] : List Int) ++ p0q1) ++ p1q1))), true)], .one ((.bool true), false)], [])
  else
  none)
  else
  none)
  else
  none))
  else
  none))
  else
  none))
  else
  none))
  else
  none)
  else
  none) := by kernel_rfl
end spec_StackArrays
theorem spec_StackArrays.ok_of (hX : ∀ E ∈ spec_StackArrays.X, CallSpec Try.prog E) (h : ∀ (sa : List Int) (da : List Int) (sb : List Int) (db : List Int), (szB sa && szB sb && decide (da.length < 9223372036854775808) && decide (db.length < 9223372036854775808)) = true → ∃ fuel, runF Try.prog spec_StackArrays.X spec_StackArrays.I 0 fuel 16 Try.f16 [.d (.agg [(.ints .i64 sa), (.ints .i64 da)]), .d (.agg [(.ints .i64 sb), (.ints .i64 db)])] = some ([.agg [((.ints .i64 (stS sa da sb db)), true), ((.ints .i64 (stD sa da sb db)), true)], .one ((.bool (stB sa da sb db)), false)], [])) : CallSpec Try.prog spec_StackArrays.E :=
  callSpec_of (d := 0) hX (by kernel_rfl) spec_StackArrays.I_ok (by kernel_rfl) (by kernel_rfl) (by kernel_rfl) (fun _ _ _ _ h => by dsimp only [spec_StackArrays.E] at h; cases h) (fun xs hp => by
    dsimp only [spec_StackArrays.E] at hp ⊢
    split at hp
    · exact h _ _ _ _ hp
    · cases hp)
theorem spec_StackArrays.ok : CallSpec Try.prog spec_StackArrays.E := spec_StackArrays.ok_of (by simp [spec_StackArrays.X, spec_valid.ok, spec_sameInts.ok, spec_validShape.ok, spec_make1.ok]) fun sa da sb db h => ⟨0, by
  simp only [Bool.and_eq_true] at h
  obtain ⟨⟨⟨h1, h2⟩, h3⟩, h4⟩ := h
  have z1 := szB_le h1
  have z2 := szB_le h2
  rw [spec_StackArrays.e, fitsOk (by simp only [List.length_cons, List.length_nil]; omega), lt_of (xs := sa) (by omega), lt_of (xs := sb) (by omega), h3, h4]
  unfold stS stD stB
  cases va : validA sa da with
  | false => rfl
  | true =>
    cases vb : validA sb db with
    | false => rfl
    | true =>
      have l1 := validA_len va
      have l2 := validA_len vb
      rw [lt_of (xs := ([2] : List Int) ++ sa) (by simp only [List.length_append, List.length_singleton]; omega)]
      cases hs : decide (sa = sb) with
      | false => rfl
      | true =>
        rw [show ([2] : List Int) ++ sa = 2 :: sa from rfl]
        cases hv : validS (2 :: sa) with
        | false => rfl
        | true =>
          rw [fitsOk (by simp only [List.length_nil]; omega), fitsOk (by simp only [List.nil_append]; omega), szB_of (xs := 2 :: sa) (by simp only [List.length_cons]; omega), List.nil_append, szB_of (xs := da ++ db) (by simp only [List.length_append]; omega)]
          rfl⟩

namespace slices_Concat_int_int
noncomputable def E : Entry := ⟨56, false, false, fun | [.d (.seq 1 [(.ints .i64 xs), (.ints .i64 ys)])] => szB xs && szB ys | _ => false, fun | [.d (.seq 1 [(.ints .i64 xs), (.ints .i64 ys)])] => ([.one ((.ints .i64 (xs ++ ys)), true)], []) | _ => ([], []), fun _ => [], true, fun _ => none⟩
end slices_Concat_int_int
namespace slices_Concat_int_int
noncomputable def X : List Entry := []
noncomputable def I : List Inl := [⟨56, Try.f56, ⟨[24], [(9, [1, 2, 4, 5, 6, 7, 8, 9, 10, 11, 12, 13, 14, 15, 16, 17, 18, 19, 20, 21, 22, 23, 24, 25, 26, 27, 28, 29, 30, 31, 32, 33, 34, 35]), (1000003, [1, 2, 4, 5, 6, 7, 8, 12, 13, 14, 15, 16, 17, 18, 19, 20, 21, 22, 23, 24, 25, 26, 27, 28, 29, 30, 31, 32, 33, 34, 35]), (1000011, [0, 1, 2, 3, 4, 5, 7, 8, 9, 10, 11, 12, 13, 14, 15, 16, 17, 18, 19, 20, 21, 22, 23, 24, 28, 29, 30, 31, 32, 33, 34, 35])], [], [], [], []⟩⟩, ⟨61, Try.f61, ⟨[], [], [], [], [], []⟩⟩]
theorem I_ok : ∀ i ∈ I, Try.prog.funcs[i.f]? = some i.fn ∧ (i.fn.name == "runtime.NumGoroutine") = false := by
  intro i hi
  simp only [I, List.mem_cons, List.not_mem_nil, or_false] at hi
  rcases hi with rfl | rfl
  all_goals exact ⟨by kernel_rfl, by kernel_rfl⟩
theorem e (p0e0 : List Int) (p0e1 : List Int) : runF Try.prog X I 4 8 56 Try.f56 [.d (.seq 1 [(.ints .i64 p0e0), (.ints .i64 p0e1)])] =
  (bif (decide (((IntKind.wrap .i64 (0 + ((p0e0.length : Nat) : Int))) : Int) < 0)) then
  none
  else
  (bif (decide (((IntKind.wrap .i64 ((IntKind.wrap .i64 (0 + ((p0e0.length : Nat) : Int))) + ((p0e1.length : Nat) : Int))) : Int) < 0)) then
  none
  else
  (bif (decide (((IntKind.wrap .i64 ((IntKind.wrap .i64 (0 + ((p0e0.length : Nat) : Int))) + ((p0e1.length : Nat) : Int))) : Int) < 0)) then
  none
  else
  (bif (decide (((IntKind.wrap .i64 ((IntKind.wrap .i64 ((IntKind.wrap .i64 (0 + ((p0e0.length : Nat) : Int))) + ((p0e1.length : Nat) : Int))) - 0)) : Int) > 0)) then
  (cutEnds 0 (none) (some (.imm (.int .i64 0)))).bind fun cq3 =>
  (bif decide (0 ≤ ((IntKind.wrap .i64 ((IntKind.wrap .i64 ((IntKind.wrap .i64 (0 + ((p0e0.length : Nat) : Int))) + ((p0e1.length : Nat) : Int))) - 0)) : Int)) && fits ((IntKind.wrap .i64 ((IntKind.wrap .i64 ((IntKind.wrap .i64 (0 + ((p0e0.length : Nat) : Int))) + ((p0e1.length : Nat) : Int))) - 0))).toNat 8 then
  (cutEnds (List.replicate ((IntKind.wrap .i64 ((IntKind.wrap .i64 ((IntKind.wrap .i64 (0 + ((p0e0.length : Nat) : Int))) + ((p0e1.length : Nat) : Int))) - 0))).toNat (0 : Int)).length (none) (some (.imm (.int .i64 0)))).bind fun cq4 =>
  (bif decide (cq4.1 = 0) && decide ((cq4.2 - cq4.1) ≤ (List.replicate ((IntKind.wrap .i64 ((IntKind.wrap .i64 ((IntKind.wrap .i64 (0 + ((p0e0.length : Nat) : Int))) + ((p0e1.length : Nat) : Int))) - 0))).toNat (0 : Int)).length) && fits ((cq4.2 - cq4.1) + p0e0.length) 8 then
  (bif fits (((List.replicate ((IntKind.wrap .i64 ((IntKind.wrap .i64 ((IntKind.wrap .i64 (0 + ((p0e0.length : Nat) : Int))) + ((p0e1.length : Nat) : Int))) - 0))).toNat (0 : Int)).take ((cq4.2 - cq4.1)) ++ p0e0).length + p0e1.length) 8 then
  some ([.one ((.ints .i64 (((List.replicate ((IntKind.wrap .i64 ((IntKind.wrap .i64 ((IntKind.wrap .i64 (0 + ((p0e0.length : Nat) : Int))) + ((p0e1.length : Nat) : Int))) - 0))).toNat (0 : Int)).take ((cq4.2 - cq4.1)) ++ p0e0) ++ p0e1)), true)], [])
  else
  none)
  else
  none)
  else
  none)
  else
  (bif fits p0e0.length 8 then
  (bif fits (p0e0.length + p0e1.length) 8 then
  some ([.one ((.ints .i64 (p0e0 ++ p0e1)), true)], [])
  else
  none)
  else
  none))))) := by kernel_rfl
end slices_Concat_int_int
theorem slices_Concat_int_int.ok_of (hX : ∀ E ∈ slices_Concat_int_int.X, CallSpec Try.prog E) (h : ∀ (xs : List Int) (ys : List Int), (szB xs && szB ys) = true → ∃ fuel, runF Try.prog slices_Concat_int_int.X slices_Concat_int_int.I 4 fuel 56 Try.f56 [.d (.seq 1 [(.ints .i64 xs), (.ints .i64 ys)])] = some ([.one ((.ints .i64 (xs ++ ys)), true)], [])) : CallSpec Try.prog slices_Concat_int_int.E :=
  callSpec_of (d := 4) hX (by kernel_rfl) slices_Concat_int_int.I_ok (by kernel_rfl) (by kernel_rfl) (by kernel_rfl) (fun _ _ _ _ h => by dsimp only [slices_Concat_int_int.E] at h; cases h) (fun xs hp => by
    dsimp only [slices_Concat_int_int.E] at hp ⊢
    split at hp
    · exact h _ _ hp
    · cases hp)
theorem slices_Concat_int_int.ok : CallSpec Try.prog slices_Concat_int_int.E := slices_Concat_int_int.ok_of (by simp [slices_Concat_int_int.X]) fun xs ys h => ⟨8, by
  simp only [Bool.and_eq_true] at h
  have h1 := szB_le h.1
  have h2 := szB_le h.2
  have e0 : IntKind.wrap .i64 (0 + ((xs.length : Nat) : Int)) = ((xs.length : Nat) : Int) := by rw [Int.zero_add, wN (by omega)]
  have e1 : IntKind.wrap .i64 (((xs.length : Nat) : Int) + ((ys.length : Nat) : Int)) = ((xs.length + ys.length : Nat) : Int) := wAdd (by omega)
  have e2 : IntKind.wrap .i64 (((xs.length + ys.length : Nat) : Int) - 0) = ((xs.length + ys.length : Nat) : Int) := by rw [Int.sub_zero, wN (by omega)]
  rw [slices_Concat_int_int.e, e0, e1, e2, decide_eq_false (p := ((xs.length : Nat) : Int) < 0) (by omega), decide_eq_false (p := ((xs.length + ys.length : Nat) : Int) < 0) (by omega), cond_false, cond_false, cond_false]
  by_cases h0 : ((xs.length + ys.length : Nat) : Int) > 0
  · rw [decide_eq_true h0, cond_true, Int.toNat_natCast, show (some (AV.imm (.int .i64 0)) : Option AV) = some (.imm (.int .i64 ((0 : Nat) : Int))) from rfl, cut_hi (Nat.le_refl 0), cut_hi (Nat.zero_le _)]
    simp only [Option.bind_some]
    rw [decide_eq_true (p := (0 : Int) ≤ ((xs.length + ys.length : Nat) : Int)) (by omega), fitsOk (by omega)]
    simp only [Nat.sub_self, List.take_zero, List.nil_append, Nat.zero_le, decide_true, Bool.and_self, Bool.true_and, cond_true, Nat.zero_add]
    rw [fitsOk (by omega), cond_true, fitsOk (by omega), cond_true]
  · rw [decide_eq_false h0, cond_false, fitsOk (by omega), cond_true, fitsOk (by omega), cond_true]⟩

namespace impl_asOneCell
noncomputable def E : Entry := ⟨43, false, false, fun | [.d (.agg [(.ints .i64 sh), (.ints .i64 da)])] => szB sh && decide (da.length < 9223372036854775808) | _ => false, fun | [.d (.agg [(.ints .i64 sh), (.ints .i64 da)])] => ([.agg [((.ints .i64 (1 :: sh)), true), ((.ints .i64 da), false)]], []) | _ => ([], []), fun _ => [], true, fun _ => none⟩
end impl_asOneCell
namespace impl_asOneCell
noncomputable def X : List Entry := [slices_Concat_int_int.E]
noncomputable def I : List Inl := [⟨43, Try.f43, ⟨[7], [], [], [(1, [1, 5, 2, 6, 0, 3, 4, 7, 8])], [3, 6], []⟩⟩]
theorem I_ok : ∀ i ∈ I, Try.prog.funcs[i.f]? = some i.fn ∧ (i.fn.name == "runtime.NumGoroutine") = false := by
  intro i hi
  simp only [I, List.mem_cons, List.not_mem_nil, or_false] at hi
  subst hi
  exact ⟨by kernel_rfl, by kernel_rfl⟩
theorem e (fuel : Nat) (p0q0 : List Int) (p0q1 : List Int) : runF Try.prog X I 0 fuel 43 Try.f43 [.d (.agg [(.ints .i64 p0q0), (.ints .i64 p0q1)])] =
  (bif szB (([1] : List Int)) && szB p0q0 then
  some ([.agg [((.ints .i64 ((([1] : List Int)) ++ p0q0)), true), ((.ints .i64 p0q1), false)]], [])
  else
  none) := by kernel_rfl
end impl_asOneCell
theorem impl_asOneCell.ok_of (hX : ∀ E ∈ impl_asOneCell.X, CallSpec Try.prog E) (h : ∀ (sh : List Int) (da : List Int), (szB sh && decide (da.length < 9223372036854775808)) = true → ∃ fuel, runF Try.prog impl_asOneCell.X impl_asOneCell.I 0 fuel 43 Try.f43 [.d (.agg [(.ints .i64 sh), (.ints .i64 da)])] = some ([.agg [((.ints .i64 (1 :: sh)), true), ((.ints .i64 da), false)]], [])) : CallSpec Try.prog impl_asOneCell.E :=
  callSpec_of (d := 0) hX (by kernel_rfl) impl_asOneCell.I_ok (by kernel_rfl) (by kernel_rfl) (by kernel_rfl) (fun _ _ _ _ h => by dsimp only [impl_asOneCell.E] at h; cases h) (fun xs hp => by
    dsimp only [impl_asOneCell.E] at hp ⊢
    split at hp
    · exact h _ _ hp
    · cases hp)
theorem impl_asOneCell.ok : CallSpec Try.prog impl_asOneCell.E := impl_asOneCell.ok_of (by simp [impl_asOneCell.X, slices_Concat_int_int.ok]) fun sh da h => ⟨0, by
  simp only [Bool.and_eq_true] at h
  rw [impl_asOneCell.e, h.1]
  rfl⟩

namespace impl_StackArrays
noncomputable def E : Entry := ⟨17, false, false, fun | [.d (.agg [(.ints .i64 sa), (.ints .i64 da)]), .d (.agg [(.ints .i64 sb), (.ints .i64 db)])] => szB sa && szB sb && decide (da.length < 9223372036854775808) && decide (db.length < 9223372036854775808) | _ => false, fun | [.d (.agg [(.ints .i64 sa), (.ints .i64 da)]), .d (.agg [(.ints .i64 sb), (.ints .i64 db)])] => ([.agg [((.ints .i64 (stS sa da sb db)), true), ((.ints .i64 (stD sa da sb db)), true)], .one ((.bool (stB sa da sb db)), false)], []) | _ => ([], []), fun _ => [], true, fun _ => none⟩
end impl_StackArrays
namespace impl_StackArrays
noncomputable def X : List Entry := [impl_asOneCell.E, impl_JoinAxis.E]
noncomputable def I : List Inl := [⟨17, Try.f17, ⟨[7, 9, 10], [], [], [(1, [0, 2, 1, 3, 4, 5, 6, 7, 8])], [], []⟩⟩]
theorem I_ok : ∀ i ∈ I, Try.prog.funcs[i.f]? = some i.fn ∧ (i.fn.name == "runtime.NumGoroutine") = false := by
  intro i hi
  simp only [I, List.mem_cons, List.not_mem_nil, or_false] at hi
  subst hi
  exact ⟨by kernel_rfl, by kernel_rfl⟩
theorem e (fuel : Nat) (p0q0 : List Int) (p0q1 : List Int) (p1q0 : List Int) (p1q1 : List Int) : runF Try.prog X I 0 fuel 17 Try.f17 [.d (.agg [(.ints .i64 p0q0), (.ints .i64 p0q1)]), .d (.agg [(.ints .i64 p1q0), (.ints .i64 p1q1)])] =
  (bif szB p0q0 && decide (p0q1.length < 9223372036854775808) then
  (bif szB p1q0 && decide (p1q1.length < 9223372036854775808) then
  (bif decide (((1 :: p0q0)).length < 9223372036854775808) && decide (p0q1.length < 9223372036854775808) && decide (((1 :: p1q0)).length < 9223372036854775808) && decide (p1q1.length < 9223372036854775808) then
  some ([.agg [((.ints .i64 (joS ((1 :: p0q0)) p0q1 ((1 :: p1q0)) p1q1 0)), true), ((.ints .i64 (joD ((1 :: p0q0)) p0q1 ((1 :: p1q0)) p1q1 0)), true)], .one ((.bool (joB ((1 :: p0q0)) p0q1 ((1 :: p1q0)) p1q1 0)), false)], [])
  else
  none)
  else
  none)
  else
  none) := by kernel_rfl
end impl_StackArrays
theorem impl_StackArrays.ok_of (hX : ∀ E ∈ impl_StackArrays.X, CallSpec Try.prog E) (h : ∀ (sa : List Int) (da : List Int) (sb : List Int) (db : List Int), (szB sa && szB sb && decide (da.length < 9223372036854775808) && decide (db.length < 9223372036854775808)) = true → ∃ fuel, runF Try.prog impl_StackArrays.X impl_StackArrays.I 0 fuel 17 Try.f17 [.d (.agg [(.ints .i64 sa), (.ints .i64 da)]), .d (.agg [(.ints .i64 sb), (.ints .i64 db)])] = some ([.agg [((.ints .i64 (stS sa da sb db)), true), ((.ints .i64 (stD sa da sb db)), true)], .one ((.bool (stB sa da sb db)), false)], [])) : CallSpec Try.prog impl_StackArrays.E :=
  callSpec_of (d := 0) hX (by kernel_rfl) impl_StackArrays.I_ok (by kernel_rfl) (by kernel_rfl) (by kernel_rfl) (fun _ _ _ _ h => by dsimp only [impl_StackArrays.E] at h; cases h) (fun xs hp => by
    dsimp only [impl_StackArrays.E] at hp ⊢
    split at hp
    · exact h _ _ _ _ hp
    · cases hp)
theorem impl_StackArrays.ok : CallSpec Try.prog impl_StackArrays.E := impl_StackArrays.ok_of (by simp [impl_StackArrays.X, impl_asOneCell.ok, impl_JoinAxis.ok]) fun sa da sb db h => ⟨0, by
  simp only [Bool.and_eq_true] at h
  obtain ⟨⟨⟨h1, h2⟩, h3⟩, h4⟩ := h
  have z1 := szB_le h1
  have z2 := szB_le h2
  obtain ⟨q1, q2, q3⟩ := st_jo sa da sb db
  rw [impl_StackArrays.e, h1, h2, h3, h4, lt_of (xs := 1 :: sa) (by simp only [List.length_cons]; omega), lt_of (xs := 1 :: sb) (by simp only [List.length_cons]; omega), q1, q2, q3]
  rfl⟩

namespace laws_FnExactStackArrays
noncomputable def E : Entry := ⟨4, true, false, fun | [.d (.agg [(.ints .i64 sa), (.ints .i64 da)]), .d (.agg [(.ints .i64 sb), (.ints .i64 db)])] => decide (sa.length < 9223372036854775808) && decide (da.length < 9223372036854775808) && decide (sb.length < 9223372036854775808) && decide (db.length < 9223372036854775808) | _ => false, fun | [.d (.agg [(.ints .i64 sa), (.ints .i64 da)]), .d (.agg [(.ints .i64 sb), (.ints .i64 db)])] => ([.one ((.bool true), false)], []) | _ => ([], []), fun _ => [], false, fun _ => none⟩
end laws_FnExactStackArrays
namespace laws_FnExactStackArrays
noncomputable def X : List Entry := [laws_szArray.E, laws_toArray.E, spec_StackArrays.E, impl_StackArrays.E, laws_eqArray.E, laws_markArray.E, laws_heldArray.E]
noncomputable def I : List Inl := [⟨4, Try.f4, ⟨[29, 31, 32, 36, 38, 42, 56, 61, 96, 98, 99], [], [], [(8, [0, 2, 1, 3, 4, 5, 6, 7, 8, 9, 10]), (31, [0, 2, 1, 3, 4, 5, 6, 7, 8, 9, 10])], [], []⟩⟩]
theorem I_ok : ∀ i ∈ I, Try.prog.funcs[i.f]? = some i.fn ∧ (i.fn.name == "runtime.NumGoroutine") = false := by
  intro i hi
  simp only [I, List.mem_cons, List.not_mem_nil, or_false] at hi
  subst hi
  exact ⟨by kernel_rfl, by kernel_rfl⟩
theorem e (fuel : Nat) (p0q0 : List Int) (p0q1 : List Int) (p1q0 : List Int) (p1q1 : List Int) : runF Try.prog X I 0 fuel 4 Try.f4 [.d (.agg [(.ints .i64 p0q0), (.ints .i64 p0q1)]), .d (.agg [(.ints .i64 p1q0), (.ints .i64 p1q1)])] =
  (bif (decide (((szA p0q0 p0q1 1048576) : Int) < 0)) then
  some ([.one ((.bool true), false)], [])
  else
  (bif (decide (((szA p1q0 p1q1 ((szA p0q0 p0q1 1048576))) : Int) < 0)) then
  some ([.one ((.bool true), false)], [])
  else
  (bif szB p0q0 && szB p0q1 then
  (bif szB p1q0 && szB p1q1 then
  (bif szB p0q0 && szB p1q0 && decide (p0q1.length < 9223372036854775808) && decide (p1q1.length < 9223372036854775808) then
  (bif szB p0q0 && szB p0q1 then
  (bif szB p1q0 && szB p1q1 then
  (bif szB p0q0 && szB p1q0 && decide (p0q1.length < 9223372036854775808) && decide (p1q1.length < 9223372036854775808) then
  (bif decide (((stS p0q0 p0q1 p1q0 p1q1)).length < 9223372036854775808) && decide (((stD p0q0 p0q1 p1q0 p1q1)).length < 9223372036854775808) && decide (((stS p0q0 p0q1 p1q0 p1q1)).length < 9223372036854775808) && decide (((stD p0q0 p0q1 p1q0 p1q1)).length < 9223372036854775808) then
  (bif (!(decide (((stS p0q0 p0q1 p1q0 p1q1)) = ((stS p0q0 p0q1 p1q0 p1q1))) && decide (((stD p0q0 p0q1 p1q0 p1q1)) = ((stD p0q0 p0q1 p1q0 p1q1))))) then
  some ([.one ((.bool false), false)], [])
  else
  (bif (!((stB p0q0 p0q1 p1q0 p1q1) == (stB p0q0 p0q1 p1q0 p1q1))) then
  some ([.one ((.bool false), false)], [])
  else
  (bif szB p0q0 && szB p0q1 then
  (bif decide (p0q0.length < 9223372036854775808) && decide (p0q1.length < 9223372036854775808) && decide (p0q0.length < 9223372036854775808) && decide (p0q1.length < 9223372036854775808) then
  (bif (!(decide (p0q0 = p0q0) && decide (p0q1 = p0q1))) then
  some ([.one ((.bool false), false)], [])
  else
  (bif szB p1q0 && szB p1q1 then
  (bif decide (p1q0.length < 9223372036854775808) && decide (p1q1.length < 9223372036854775808) && decide (p1q0.length < 9223372036854775808) && decide (p1q1.length < 9223372036854775808) then
  (bif (!(decide (p1q0 = p1q0) && decide (p1q1 = p1q1))) then
  some ([.one ((.bool false), false)], [])
  else
  (bif decide (p0q0.length < 9223372036854775808) && decide (p0q1.length < 9223372036854775808) then
  (bif decide (p1q0.length < 9223372036854775808) && decide (p1q1.length < 9223372036854775808) then
  (bif (decide (((markK p1q1 (markK p1q0 ((markK p0q1 (markK p0q0 1))))) : Int) < 0)) then
  some ([.one ((.bool false), false)], [])
  else
  (bif decide (((stS p0q0 p0q1 p1q0 p1q1)).length < 9223372036854775808) && decide (((stD p0q0 p0q1 p1q0 p1q1)).length < 9223372036854775808) && decide (((stS p0q0 p0q1 p1q0 p1q1)).length < 9223372036854775808) && decide (((stD p0q0 p0q1 p1q0 p1q1)).length < 9223372036854775808) then
  (bif (!(decide (((stS p0q0 p0q1 p1q0 p1q1)) = ((stS p0q0 p0q1 p1q0 p1q1))) && decide (((stD p0q0 p0q1 p1q0 p1q1)) = ((stD p0q0 p0q1 p1q0 p1q1))))) then
  some ([.one ((.bool false), false)], [])
  else
  (bif (!((stB p0q0 p0q1 p1q0 p1q1) == (stB p0q0 p0q1 p1q0 p1q1))) then
  some ([.one ((.bool false), false)], [])
  else
  (bif decide (((stS p0q0 p0q1 p1q0 p1q1)).length < 9223372036854775808) && decide (((stD p0q0 p0q1 p1q0 p1q1)).length < 9223372036854775808) then
  (bif decide (((markL ((stS p0q0 p0q1 p1q0 p1q1)) 1)).length < 9223372036854775808) && decide (((markL ((stD p0q0 p0q1 p1q0 p1q1)) (markK ((stS p0q0 p0q1 p1q0 p1q1)) 1))).length < 9223372036854775808) then
  (bif (decide (((heldA ((markL ((stS p0q0 p0q1 p1q0 p1q1)) 1)) ((markL ((stD p0q0 p0q1 p1q0 p1q1)) (markK ((stS p0q0 p0q1 p1q0 p1q1)) 1))) 1) : Int) < 0)) then
  some ([.one ((.bool false), false)], [])
  else
  (bif (((heldA ((markL ((stS p0q0 p0q1 p1q0 p1q1)) 1)) ((markL ((stD p0q0 p0q1 p1q0 p1q1)) (markK ((stS p0q0 p0q1 p1q0 p1q1)) 1))) 1) : Int) != (markK ((stD p0q0 p0q1 p1q0 p1q1)) (markK ((stS p0q0 p0q1 p1q0 p1q1)) 1))) then
  some ([.one ((.bool false), false)], [])
  else
  (bif szB p0q0 && szB p0q1 then
  (bif szB p1q0 && szB p1q1 then
  (bif szB p0q0 && szB p1q0 && decide (p0q1.length < 9223372036854775808) && decide (p1q1.length < 9223372036854775808) then
  (bif decide (((stS p0q0 p0q1 p1q0 p1q1)).length < 9223372036854775808) && decide (((stD p0q0 p0q1 p1q0 p1q1)).length < 9223372036854775808) && decide (((stS p0q0 p0q1 p1q0 p1q1)).length < 9223372036854775808) && decide (((stD p0q0 p0q1 p1q0 p1q1)).length < 9223372036854775808) then
  (bif (!(decide (((stS p0q0 p0q1 p1q0 p1q1)) = ((stS p0q0 p0q1 p1q0 p1q1))) && decide (((stD p0q0 p0q1 p1q0 p1q1)) = ((stD p0q0 p0q1 p1q0 p1q1))))) then
  some ([.one ((.bool false), false)], [])
  else
  (bif (!((stB p0q0 p0q1 p1q0 p1q1) == (stB p0q0 p0q1 p1q0 p1q1))) then
  some ([.one ((.bool false), false)], [])
  else
  (bif decide (((markL ((stS p0q0 p0q1 p1q0 p1q1)) 1)).length < 9223372036854775808) && decide (((markL ((stD p0q0 p0q1 p1q0 p1q1)) (markK ((stS p0q0 p0q1 p1q0 p1q1)) 1))).length < 9223372036854775808) then
  (bif (decide (((heldA ((markL ((stS p0q0 p0q1 p1q0 p1q1)) 1)) ((markL ((stD p0q0 p0q1 p1q0 p1q1)) (markK ((stS p0q0 p0q1 p1q0 p1q1)) 1))) 1) : Int) < 0)) then
  some ([.one ((.bool false), false)], [])
  else
  (bif (((heldA ((markL ((stS p0q0 p0q1 p1q0 p1q1)) 1)) ((markL ((stD p0q0 p0q1 p1q0 p1q1)) (markK ((stS p0q0 p0q1 p1q0 p1q1)) 1))) 1) : Int) != (markK ((stD p0q0 p0q1 p1q0 p1q1)) (markK ((stS p0q0 p0q1 p1q0 p1q1)) 1))) then
  some ([.one ((.bool false), false)], [])
  else
  some ([.one ((.bool true), false)], [])))
  else
  none)))
  else
  none)
  else
  none)
  else
  none)
  else
  none)))
  else
  none)
  else
  none)))
  else
  none))
  else
  none)
  else
  none))
  else
  none)
  else
  none))
  else
  none)
  else
  none)))
  else
  none)
  else
  none)
  else
  none)
  else
  none)
  else
  none)
  else
  none)
  else
  none))) := by kernel_rfl
end laws_FnExactStackArrays
theorem laws_FnExactStackArrays.ok_of (hX : ∀ E ∈ laws_FnExactStackArrays.X, CallSpec Try.prog E) (h : ∀ (sa : List Int) (da : List Int) (sb : List Int) (db : List Int), (decide (sa.length < 9223372036854775808) && decide (da.length < 9223372036854775808) && decide (sb.length < 9223372036854775808) && decide (db.length < 9223372036854775808)) = true → ∃ fuel, runF Try.prog laws_FnExactStackArrays.X laws_FnExactStackArrays.I 0 fuel 4 Try.f4 [.d (.agg [(.ints .i64 sa), (.ints .i64 da)]), .d (.agg [(.ints .i64 sb), (.ints .i64 db)])] = some ([.one ((.bool true), false)], [])) : CallSpec Try.prog laws_FnExactStackArrays.E :=
  callSpec_of (d := 0) hX (by kernel_rfl) laws_FnExactStackArrays.I_ok (by kernel_rfl) (by kernel_rfl) (by kernel_rfl) (fun _ _ _ _ h => by dsimp only [laws_FnExactStackArrays.E] at h; cases h) (fun xs hp => by
    dsimp only [laws_FnExactStackArrays.E] at hp ⊢
    split at hp
    · exact h _ _ _ _ hp
    · cases hp)
theorem laws_FnExactStackArrays.ok : CallSpec Try.prog laws_FnExactStackArrays.E := laws_FnExactStackArrays.ok_of (by simp [laws_FnExactStackArrays.X, laws_szArray.ok, laws_toArray.ok, spec_StackArrays.ok, impl_StackArrays.ok, laws_eqArray.ok, laws_markArray.ok, laws_heldArray.ok]) fun sa da sb db h => ⟨0, by
  rw [laws_FnExactStackArrays.e]
  simp only [Bool.and_eq_true] at h
  obtain ⟨⟨⟨g0, g1⟩, g2⟩, g3⟩ := h
  by_cases a0 : szA sa da 1048576 < 0
  · rw [decide_eq_true a0]; rfl
  obtain ⟨q0, p0⟩ := szA_le (by omega) (by omega) (of_decide_eq_true g0) (of_decide_eq_true g1) a0
  by_cases a1 : szA sb db (szA sa da 1048576) < 0
  · rw [decide_eq_false a0, decide_eq_true a1]; rfl
  obtain ⟨q1, p1⟩ := szA_le (by omega) (by omega) (of_decide_eq_true g2) (of_decide_eq_true g3) a1
  have z0 := szB_of (xs := sa) (by omega)
  have z1 := szB_of (xs := da) (by omega)
  have z2 := szB_of (xs := sb) (by omega)
  have z3 := szB_of (xs := db) (by omega)
  have hl := st_len sa da sb db
  obtain ⟨r0a, r0b, r0c, r0d, r0e, r0f⟩ := marks_ok (sh := (stS sa da sb db)) (da := (stD sa da sb db)) (by omega) (by omega)
  have mk := mark4_ok (xs := sa) (ys := da) (zs := sb) (ws := db) (by omega) (by omega) (by omega) (by omega)
  simp only [decide_eq_false a0, decide_eq_false a1, g0, g1, g2, g3, z0, z1, z2, z3, r0a, r0b, r0c, r0d, r0e, r0f, mk, bne_self_eq_false, beq_self_eq_true, decide_true, Bool.and_self, Bool.not_true, cond_true, cond_false]⟩

namespace spec_along
noncomputable def E : Entry := ⟨45, false, false, fun | [.d (.agg [(.ints .i64 sh), (.ints .i64 da)]), .d (.int .i64 k), .d (.ints .i64 ls)] => axB sh da k && alP sh k ls | _ => false, fun | [.d (.agg [(.ints .i64 sh), (.ints .i64 da)]), .d (.int .i64 k), .d (.ints .i64 ls)] => ([.agg [((.ints .i64 (alS sh k ls)), true), ((.ints .i64 (alA sh da k ls)), true)]], []) | _ => ([], []), fun _ => [], true, fun _ => none⟩
end spec_along
namespace spec_along
noncomputable def X : List Entry := [spec_copyInts.E, spec_around.E, spec_make1.E]
noncomputable def I : List Inl := [⟨45, Try.f45, ⟨[17, 78], [(1000006, [0, 4, 5, 12, 13, 14, 15, 16, 17, 18, 19, 20, 21, 22, 23, 24, 25, 26, 27, 28, 29, 30, 31, 32, 33, 34, 35, 36, 37, 38, 39, 40, 41, 42, 43, 44, 45, 46, 47, 48, 49, 50, 51, 52, 53, 54, 55, 56, 57, 58, 59, 60, 61, 62, 63, 64, 65, 66, 67, 68, 69, 70, 71, 72, 73, 74, 75, 76, 77, 78]), (1000009, [0, 4, 5, 13, 14, 15, 16, 17, 18, 19, 20, 21, 22, 23, 24, 25, 26, 27, 28, 29, 30, 31, 32, 33, 34, 35, 36, 37, 38, 39, 40, 41, 42, 43, 44, 45, 46, 47, 48, 49, 50, 51, 52, 53, 54, 55, 56, 57, 58, 59, 60, 61, 62, 63, 64, 65, 66, 67, 68, 69, 70, 71, 72, 73, 74, 75, 76, 77, 78]), (1000012, [0, 4, 5, 14, 15, 16, 17, 18, 19, 20, 21, 22, 23, 24, 25, 26, 27, 28, 29, 30, 31, 32, 33, 34, 35, 36, 37, 38, 39, 40, 41, 42, 43, 44, 45, 46, 47, 48, 49, 50, 51, 52, 53, 54, 55, 56, 57, 58, 59, 60, 61, 62, 63, 64, 65, 66, 67, 68, 69, 70, 71, 72, 73, 74, 75, 76, 77, 78])], [], [(16, [0, 2, 3, 5, 9, 10, 14, 16, 1, 4, 6, 7, 8, 11, 12, 13, 15, 17, 18, 19, 20])], [], []⟩⟩]
theorem I_ok : ∀ i ∈ I, Try.prog.funcs[i.f]? = some i.fn ∧ (i.fn.name == "runtime.NumGoroutine") = false := by
  intro i hi
  simp only [I, List.mem_cons, List.not_mem_nil, or_false] at hi
  subst hi
  exact ⟨by kernel_rfl, by kernel_rfl⟩
noncomputable abbrev L0 (fuel n : Nat) (s : St) (k : Kont) := lAt Try.prog X I fuel true 0 false 45 (bodyOf Try.f45) [1, 1, 1, 1, 1, 0, 1, 0] n s k
noncomputable abbrev k0  (fuel : Nat) : Kont := (kAt Try.prog X I fuel true 0 false 45 (bodyOf Try.f45) [1, 1, 1, 1, 1, 0, 1, 0] [] (endK Try.prog Try.f45))
noncomputable def t0 (p1 : Int) (p2 : List Int) (p0q0 : List Int) (p0q1 : List Int) (j1 : Nat) (x0q4 : Int) (x0q8 : List Int) : St := ⟨[.dead, (.imm (.int .i64 p1)), (.imm (.ints .i64 p2)), (.ptr 1000000000 0 0), .dead, .dead, (.ptr 1000000001 0 0), (.all 1000000002 1), (.imm (.int .i64 ((befN p0q0 p1.toNat : Nat) : Int))), (.imm (.int .i64 ((behN p0q0 p1.toNat : Nat) : Int))), (.all 1000000003 1), (.imm (.int .i64 x0q4)), .dead, .dead, .dead, .dead, .dead, .dead, .dead, .dead, .dead, .dead, .dead, .dead, .dead, .dead, .dead, .dead, .dead, .dead, .dead, .dead, .dead, .dead, .dead, .dead, .dead, .dead, .dead, .dead, .dead, .dead, .dead, .dead, .dead, .dead, .dead, .dead, .dead, .dead, .dead, .dead, .dead, .dead, .dead, .dead, .dead, .dead, .dead, .dead, .dead, .dead, .dead, .dead, .dead, .dead, .dead, .dead, .dead, .dead, .dead, .dead, .dead, .dead, .dead, .dead, .dead, .dead, .dead], hOf [(1000000000, (.box [(.imm (.ints .i64 p0q0)), (.imm (.ints .i64 p0q1))])), (1000000001, (.box [(.imm .nils), (.imm .nils)])), (1000000002, (.ints .i64 (p0q0.set j1 ((p2.length : Nat) : Int)))), (1000000003, (.ints .i64 x0q8))], [], []⟩
noncomputable abbrev L1 (fuel n : Nat) (s : St) (k : Kont) := lAt Try.prog X I fuel true 0 false 45 (bodyOf Try.f45) [1, 1, 1, 1, 1, 0, 1, 0, 0, 1, 0, 0, 1, 0] n s k
noncomputable abbrev k1 (n0 : Nat) (fuel : Nat) : Kont := (kAt Try.prog X I fuel true 0 false 45 (bodyOf Try.f45) [1, 1, 1, 1, 1, 0, 1, 0, 0, 1, 0, 0, 1, 0] [n0] (endK Try.prog Try.f45))
noncomputable def t1 (p1 : Int) (p2 : List Int) (p0q0 : List Int) (x0q4 : Int) (p0q1 : List Int) (j1 : Nat) (x1q5 : Int) (x1q9 : List Int) : St := ⟨[.dead, (.imm (.int .i64 p1)), (.imm (.ints .i64 p2)), (.ptr 1000000000 0 0), .dead, .dead, (.ptr 1000000001 0 0), (.all 1000000002 1), (.imm (.int .i64 ((befN p0q0 p1.toNat : Nat) : Int))), (.imm (.int .i64 ((behN p0q0 p1.toNat : Nat) : Int))), (.all 1000000003 1), (.imm (.int .i64 x0q4)), (.imm (.int .i64 x1q5)), .dead, .dead, .dead, .dead, .dead, .dead, .dead, .dead, .dead, .dead, .dead, .dead, .dead, .dead, .dead, .dead, .dead, .dead, .dead, .dead, .dead, .dead, .dead, .dead, .dead, .dead, .dead, .dead, .dead, .dead, .dead, .dead, .dead, .dead, .dead, .dead, .dead, .dead, .dead, .dead, .dead, .dead, .dead, .dead, .dead, .dead, .dead, .dead, .dead, .dead, .dead, .dead, .dead, .dead, .dead, .dead, .dead, .dead, .dead, .dead, .dead, .dead, .dead, .dead, .dead, .dead], hOf [(1000000000, (.box [(.imm (.ints .i64 p0q0)), (.imm (.ints .i64 p0q1))])), (1000000001, (.box [(.imm .nils), (.imm .nils)])), (1000000002, (.ints .i64 (p0q0.set j1 ((p2.length : Nat) : Int)))), (1000000003, (.ints .i64 x1q9))], [], []⟩
noncomputable abbrev L2 (fuel n : Nat) (s : St) (k : Kont) := lAt Try.prog X I fuel true 0 false 45 (bodyOf Try.f45) [1, 1, 1, 1, 1, 0, 1, 0, 0, 1, 0, 0, 1, 0, 0, 1, 0, 0, 1, 0] n s k
noncomputable abbrev k2 (n0 : Nat) (n1 : Nat) (fuel : Nat) : Kont := (kAt Try.prog X I fuel true 0 false 45 (bodyOf Try.f45) [1, 1, 1, 1, 1, 0, 1, 0, 0, 1, 0, 0, 1, 0, 0, 1, 0, 0, 1, 0] [n0, n1] (endK Try.prog Try.f45))
noncomputable def t2 (p1 : Int) (p2 : List Int) (p0q0 : List Int) (x0q4 : Int) (x1q5 : Int) (p0q1 : List Int) (j1 : Nat) (x2q6 : Int) (x2q10 : List Int) : St := ⟨[.dead, (.imm (.int .i64 p1)), (.imm (.ints .i64 p2)), (.ptr 1000000000 0 0), .dead, .dead, (.ptr 1000000001 0 0), (.all 1000000002 1), (.imm (.int .i64 ((befN p0q0 p1.toNat : Nat) : Int))), (.imm (.int .i64 ((behN p0q0 p1.toNat : Nat) : Int))), (.all 1000000003 1), (.imm (.int .i64 x0q4)), (.imm (.int .i64 x1q5)), (.imm (.int .i64 x2q6)), .dead, .dead, .dead, .dead, .dead, .dead, .dead, .dead, .dead, .dead, .dead, .dead, .dead, .dead, .dead, .dead, .dead, .dead, .dead, .dead, .dead, .dead, .dead, .dead, .dead, .dead, .dead, .dead, .dead, .dead, .dead, .dead, .dead, .dead, .dead, .dead, .dead, .dead, .dead, .dead, .dead, .dead, .dead, .dead, .dead, .dead, .dead, .dead, .dead, .dead, .dead, .dead, .dead, .dead, .dead, .dead, .dead, .dead, .dead, .dead, .dead, .dead, .dead, .dead, .dead], hOf [(1000000000, (.box [(.imm (.ints .i64 p0q0)), (.imm (.ints .i64 p0q1))])), (1000000001, (.box [(.imm .nils), (.imm .nils)])), (1000000002, (.ints .i64 (p0q0.set j1 ((p2.length : Nat) : Int)))), (1000000003, (.ints .i64 x2q10))], [], []⟩
theorem e (fuel : Nat) (p0q0 : List Int) (p0q1 : List Int) (p1 : Int) (p2 : List Int) : runF Try.prog X I 0 fuel 45 Try.f45 [.d (.agg [(.ints .i64 p0q0), (.ints .i64 p0q1)]), .d (.int .i64 p1), .d (.ints .i64 p2)] =
  (bif szB p0q0 then
  (idx p1 p0q0.length).bind fun j1 =>
  (bif decide (j1 < p0q0.length) then
  (bif validS p0q0 && axOk p0q0 p1 then
  L0 fuel fuel (t0 p1 p2 p0q0 p0q1 j1 0 ([])) (k0  fuel)
  else
  none)
  else
  none)
  else
  none) := by kernel_rfl
theorem s0 (fuel n0 : Nat) (p1 : Int) (p2 : List Int) (p0q0 : List Int) (p0q1 : List Int) (j1 : Nat) (x0q4 : Int) (x0q8 : List Int) : L0 fuel (n0 + 1) (t0 p1 p2 p0q0 p0q1 j1 x0q4 x0q8) (k0  fuel) =
  (bif (decide ((x0q4 : Int) < ((befN p0q0 p1.toNat : Nat) : Int))) then
  L1 fuel fuel (t1 p1 p2 p0q0 x0q4 p0q1 j1 0 x0q8) (k1 n0 fuel)
  else
  (bif szB ((p0q0.set j1 ((p2.length : Nat) : Int))) && szB x0q8 then
  some ([.agg [((.ints .i64 ((p0q0.set j1 ((p2.length : Nat) : Int)))), true), ((.ints .i64 x0q8), true)]], [])
  else
  none)) := by kernel_rfl
theorem s1 (fuel n0 n1 : Nat) (p1 : Int) (p2 : List Int) (p0q0 : List Int) (x0q4 : Int) (p0q1 : List Int) (j1 : Nat) (x1q5 : Int) (x1q9 : List Int) : L1 fuel (n1 + 1) (t1 p1 p2 p0q0 x0q4 p0q1 j1 x1q5 x1q9) (k1 n0 fuel) =
  (bif (decide ((x1q5 : Int) < ((p2.length : Nat) : Int))) then
  L2 fuel fuel (t2 p1 p2 p0q0 x0q4 x1q5 p0q1 j1 0 x1q9) (k2 n0 n1 fuel)
  else
  L0 fuel n0 (t0 p1 p2 p0q0 p0q1 j1 ((IntKind.wrap .i64 (x0q4 + 1))) x1q9) (k0  fuel)) := by kernel_rfl
theorem s2 (fuel n0 n1 n2 : Nat) (p1 : Int) (p2 : List Int) (p0q0 : List Int) (x0q4 : Int) (x1q5 : Int) (p0q1 : List Int) (j1 : Nat) (x2q6 : Int) (x2q10 : List Int) : L2 fuel (n2 + 1) (t2 p1 p2 p0q0 x0q4 x1q5 p0q1 j1 x2q6 x2q10) (k2 n0 n1 fuel) =
  (bif (decide ((x2q6 : Int) < ((behN p0q0 p1.toNat : Nat) : Int))) then
  (idx x1q5 p2.length).bind fun j114 =>
  (p2[j114]?).bind fun v115 =>
  (bif (decide ((v115 : Int) ≥ 0)) then
  (idx p1 p0q0.length).bind fun j116 =>
  (p0q0[j116]?).bind fun v117 =>
  (idx x1q5 p2.length).bind fun j118 =>
  (p2[j118]?).bind fun v119 =>
  (idx (IntKind.wrap .i64 ((IntKind.wrap .i64 ((IntKind.wrap .i64 ((IntKind.wrap .i64 (x0q4 * v117)) + v119)) * ((behN p0q0 p1.toNat : Nat) : Int))) + x2q6)) p0q1.length).bind fun j120 =>
  (p0q1[j120]?).bind fun v121 =>
  (bif fits (x2q10.length + ([v121] : List Int).length) 8 then
  L2 fuel n2 (t2 p1 p2 p0q0 x0q4 x1q5 p0q1 j1 ((IntKind.wrap .i64 (x2q6 + 1))) ((x2q10 ++ [v121]))) (k2 n0 n1 fuel)
  else
  none)
  else
  (bif fits (x2q10.length + ([0] : List Int).length) 8 then
  L2 fuel n2 (t2 p1 p2 p0q0 x0q4 x1q5 p0q1 j1 ((IntKind.wrap .i64 (x2q6 + 1))) ((x2q10 ++ [0]))) (k2 n0 n1 fuel)
  else
  none))
  else
  L1 fuel n1 (t1 p1 p2 p0q0 x0q4 p0q1 j1 ((IntKind.wrap .i64 (x1q5 + 1))) x2q10) (k1 n0 fuel)) := by kernel_rfl
end spec_along
theorem spec_along.ok_of (hX : ∀ E ∈ spec_along.X, CallSpec Try.prog E) (h : ∀ (sh : List Int) (da : List Int) (k : Int) (ls : List Int), (axB sh da k && alP sh k ls) = true → ∃ fuel, runF Try.prog spec_along.X spec_along.I 0 fuel 45 Try.f45 [.d (.agg [(.ints .i64 sh), (.ints .i64 da)]), .d (.int .i64 k), .d (.ints .i64 ls)] = some ([.agg [((.ints .i64 (alS sh k ls)), true), ((.ints .i64 (alA sh da k ls)), true)]], [])) : CallSpec Try.prog spec_along.E :=
  callSpec_of (d := 0) hX (by kernel_rfl) spec_along.I_ok (by kernel_rfl) (by kernel_rfl) (by kernel_rfl) (fun _ _ _ _ h => by dsimp only [spec_along.E] at h; cases h) (fun xs hp => by
    dsimp only [spec_along.E] at hp ⊢
    split at hp
    · exact h _ _ _ _ hp
    · cases hp)
theorem spec_along.lp2 (fuel n0 n1 : Nat) (k b j : Nat) (sh da ls : List Int) (ax : Ax sh k) (hd : da.length = befN sh k * lenN sh k * behN sh k) (al : AlOk sh k ls) (hb : b < befN sh k) (hj : j < ls.length) (hf : 3600 < fuel) :
    spec_along.L2 fuel fuel (spec_along.t2 (k : Int) ls sh (b : Int) (j : Int) da k 0 ((alA sh da k ls).take ((b * ls.length + j) * behN sh k))) (spec_along.k2 n0 n1 fuel) =
    spec_along.L1 fuel n1 (spec_along.t1 (k : Int) ls sh (b : Int) da k ((j + 1 : Nat) : Int) ((alA sh da k ls).take ((b * ls.length + (j + 1)) * behN sh k))) (spec_along.k1 n0 fuel) := by
  have hM := ax.beh_le
  have hl := al.len
  have hlen : (alA sh da k ls).length = befN sh k * ls.length * behN sh k := alA_length _ _ _ _
  have hle := al.le
  refine run_loop (N := behN sh k) (fun n m out => spec_along.L2 fuel n (spec_along.t2 (k : Int) ls sh (b : Int) (j : Int) da k (m : Int) out) (spec_along.k2 n0 n1 fuel)) (fun m out => out = (alA sh da k ls).take ((b * ls.length + j) * behN sh k + m)) ?_ ?_ fuel 0 _ (by omega) (by omega) rfl
  · intro n out ho
    rw [spec_along.s2, Int.toNat_natCast, decide_eq_false (p := ((behN sh k : Nat) : Int) < _) (by omega), w1 (j := j) (by omega), ho]
    rw [cond_false, show (b * ls.length + j) * behN sh k + behN sh k = (b * ls.length + (j + 1)) * behN sh k by rw [← Nat.add_assoc, Nat.add_mul, Nat.add_mul, Nat.add_mul, Nat.one_mul]]
  · intro n m out hm ho
    obtain ⟨e1, _, _, _⟩ := enc3 hb hj hm
    have hp := al.lt _ (mem_getD hj)
    have hg : (alA sh da k ls).getD ((b * ls.length + j) * behN sh k + m) 0 = atV (lenN sh k) (behN sh k) da b (ls.getD j 0) m := alA_get hb hj hm
    have hol : out.length ≤ 60 := by rw [ho, take_len (by omega)]; omega
    rw [spec_along.s2, Int.toNat_natCast, decide_eq_true (p := ((m : Nat) : Int) < _) (by omega), idx_nat hj, w1 (j := m) (by omega)]
    simp only [cond_true, Option.bind_some, getD_get hj]
    by_cases h0 : ls.getD j 0 ≥ 0
    · obtain ⟨p, hpp⟩ : ∃ p : Nat, ls.getD j 0 = p := ⟨(ls.getD j 0).toNat, by omega⟩
      rw [hpp] at hg h0 hp ⊢
      have hpl : p < lenN sh k := by omega
      obtain ⟨e2, _, _, _⟩ := enc3 hb hpl hm
      have hlk := ax.lt
      have hdl := ax.le
      have hx : b * lenN sh k + p ≤ 1000000000 := by
        have h1 := ax.len_le
        have h2 := ax.bef_le
        have : b * lenN sh k ≤ 3600 * 60 := Nat.mul_le_mul (by omega) h1
        omega
      simp only [decide_eq_true h0, cond_true, idx_nat hlk, Option.bind_some, getD_get hlk]
      rw [ax.len, wIdx hx (by omega), idx_nat (by omega)]
      simp only [Option.bind_some, getD_get (show (b * lenN sh k + p) * behN sh k + m < da.length by omega)]
      rw [fitsOk (by simp only [List.length_cons, List.length_nil]; omega), cond_true]
      refine ⟨_, ?_, rfl⟩
      have hg2 : atV (lenN sh k) (behN sh k) da b ((p : Nat) : Int) m = da.getD ((b * lenN sh k + p) * behN sh k + m) 0 := by simp [atV]
      rw [ho, ← hg2, take_push (by omega) hg, Nat.add_assoc]
    · simp only [decide_eq_false h0, cond_false]
      rw [fitsOk (by simp only [List.length_cons, List.length_nil]; omega), cond_true]
      refine ⟨_, ?_, rfl⟩
      have hg2 : atV (lenN sh k) (behN sh k) da b (ls.getD j 0) m = 0 := by simp only [atV, decide_eq_false h0, cond_false]
      rw [ho, ← hg2, take_push (by omega) hg, Nat.add_assoc]
theorem spec_along.lp1 (fuel n0 : Nat) (k b : Nat) (sh da ls : List Int) (ax : Ax sh k) (hd : da.length = befN sh k * lenN sh k * behN sh k) (al : AlOk sh k ls) (hb : b < befN sh k) (hf : 3600 < fuel) :
    spec_along.L1 fuel fuel (spec_along.t1 (k : Int) ls sh (b : Int) da k 0 ((alA sh da k ls).take (b * ls.length * behN sh k))) (spec_along.k1 n0 fuel) =
    spec_along.L0 fuel n0 (spec_along.t0 (k : Int) ls sh da k ((b + 1 : Nat) : Int) ((alA sh da k ls).take ((b + 1) * ls.length * behN sh k))) (spec_along.k0 fuel) := by
  have hB := ax.bef_le
  have hl := al.len
  refine run_loop (N := ls.length) (fun n j out => spec_along.L1 fuel n (spec_along.t1 (k : Int) ls sh (b : Int) da k (j : Int) out) (spec_along.k1 n0 fuel)) (fun j out => out = (alA sh da k ls).take ((b * ls.length + j) * behN sh k)) ?_ ?_ fuel 0 _ (by omega) (by omega) rfl
  · intro n out ho
    rw [spec_along.s1, decide_eq_false (p := ((ls.length : Nat) : Int) < _) (by omega), w1 (j := b) (by omega), ho, cond_false, Nat.add_mul b 1, Nat.one_mul]
  · intro n j out hj ho
    rw [spec_along.s1, decide_eq_true (p := ((j : Nat) : Int) < _) (by omega), cond_true, ho, spec_along.lp2 fuel n0 n k b j sh da ls ax hd al hb hj hf]
    exact ⟨_, rfl, rfl⟩
theorem spec_along.lp0 (fuel : Nat) (k : Nat) (sh da ls : List Int) (ax : Ax sh k) (hd : da.length = befN sh k * lenN sh k * behN sh k) (al : AlOk sh k ls) (hf : 3600 < fuel) :
    spec_along.L0 fuel fuel (spec_along.t0 (k : Int) ls sh da k 0 []) (spec_along.k0 fuel) = some ([.agg [((.ints .i64 (sh.set k ((ls.length : Nat) : Int))), true), ((.ints .i64 (alA sh da k ls)), true)]], []) := by
  have hB := ax.bef_le
  have hl := al.len
  have hle := al.le
  have hr := ax.rank
  have hlen : (alA sh da k ls).length = befN sh k * ls.length * behN sh k := alA_length _ _ _ _
  refine run_loop (N := befN sh k) (fun n b out => spec_along.L0 fuel n (spec_along.t0 (k : Int) ls sh da k (b : Int) out) (spec_along.k0 fuel)) (fun b out => out = (alA sh da k ls).take (b * ls.length * behN sh k)) ?_ ?_ fuel 0 _ (by omega) (by omega) (by simp)
  · intro n out ho
    rw [← hlen, List.take_length] at ho
    rw [spec_along.s0, Int.toNat_natCast, decide_eq_false (p := ((befN sh k : Nat) : Int) < _) (by omega), ho, szB_of (xs := sh.set _ _) (by simp; omega), szB_of (xs := alA sh da k ls) (by omega)]
    rfl
  · intro n b out hb ho
    rw [spec_along.s0, Int.toNat_natCast, decide_eq_true (p := ((b : Nat) : Int) < _) (by omega), cond_true, ho, spec_along.lp1 fuel n k b sh da ls ax hd al hb hf]
    exact ⟨_, rfl, rfl⟩
theorem spec_along.ok : CallSpec Try.prog spec_along.E := spec_along.ok_of (by simp [spec_along.X, spec_copyInts.ok, spec_around.ok, spec_make1.ok]) fun sh da k ls h => by
  obtain ⟨F, hF⟩ : ∃ F : Nat, 3600 < F := ⟨3601, by omega⟩
  refine ⟨F, ?_⟩
  simp only [Bool.and_eq_true, axB] at h
  obtain ⟨e1, e2⟩ := axOk_nat h.1.2
  have hv := validA_inv h.1.1
  have ax := ax_of hv.1 e2
  have hd := ax_data h.1.1 e2
  have hr := ax.rank
  rw [spec_along.e, szB_of (xs := sh) (by omega), hv.1, h.1.2]
  generalize k.toNat = j at *
  subst e1
  have al := alP_inv e2 h.2
  rw [idx_nat e2]
  simp only [cond_true, Option.bind_some, e2, decide_true, Bool.and_self]
  rw [spec_along.lp0 F j sh da ls ax hd al hF]
  simp only [alS, Int.toNat_natCast]

namespace spec_RepeatAxis
noncomputable def E : Entry := ⟨18, false, false, fun | [.d (.agg [(.ints .i64 sh), (.ints .i64 da)]), .d (.int .i64 k), .d (.ints .i64 ts)] => decide (sh.length < 9223372036854775808) && decide (da.length < 9223372036854775808) && decide (ts.length < 9223372036854775808) | _ => false, fun | [.d (.agg [(.ints .i64 sh), (.ints .i64 da)]), .d (.int .i64 k), .d (.ints .i64 ts)] => ([.agg [((.ints .i64 (rpS sh da k ts)), true), ((.ints .i64 (rpD sh da k ts)), true)], .one ((.bool (rpB sh da k ts)), false)], []) | _ => ([], []), fun _ => [], true, fun _ => none⟩
end spec_RepeatAxis
namespace spec_RepeatAxis
noncomputable def X : List Entry := [spec_isAxis.E, spec_allIn.E, spec_copyInts.E, spec_validShape.E, spec_along.E]
noncomputable def I : List Inl := [⟨18, Try.f18, ⟨[53, 66], [(1000005, [0, 4, 5, 7, 10, 11, 12, 13, 14, 15, 16, 17, 18, 19, 20, 21, 22, 23, 24, 25, 26, 27, 28, 29, 30, 31, 32, 33, 34, 35, 36, 37, 38, 39, 40, 41, 42, 43, 44, 45, 46, 47, 48, 49, 50, 51, 52, 53, 54, 55, 56, 57, 58, 59, 60, 61, 62, 63, 64, 65, 66]), (1000008, [0, 4, 5, 7, 11, 12, 13, 14, 15, 16, 17, 18, 19, 20, 21, 22, 23, 24, 25, 26, 27, 28, 29, 30, 31, 32, 33, 34, 35, 36, 37, 38, 39, 40, 41, 42, 43, 44, 45, 46, 47, 48, 49, 50, 51, 52, 53, 54, 55, 56, 57, 58, 59, 60, 61, 62, 63, 64, 65, 66])], [], [], [], []⟩⟩]
theorem I_ok : ∀ i ∈ I, Try.prog.funcs[i.f]? = some i.fn ∧ (i.fn.name == "runtime.NumGoroutine") = false := by
  intro i hi
  simp only [I, List.mem_cons, List.not_mem_nil, or_false] at hi
  subst hi
  exact ⟨by kernel_rfl, by kernel_rfl⟩
noncomputable abbrev L0 (fuel n : Nat) (s : St) (k : Kont) := lAt Try.prog X I fuel true 0 false 18 (bodyOf Try.f18) [1, 1, 1, 0, 1, 0] n s k
noncomputable abbrev k0  (fuel : Nat) : Kont := (kAt Try.prog X I fuel true 0 false 18 (bodyOf Try.f18) [1, 1, 1, 0, 1, 0] [] (endK Try.prog Try.f18))
noncomputable def t0 (p1 : Int) (p2 : List Int) (p0q0 : List Int) (p0q1 : List Int) (x0q2 : Int) (x0q5 : List Int) : St := ⟨[.dead, (.imm (.int .i64 p1)), (.imm (.ints .i64 p2)), (.ptr 1000000000 0 0), .dead, .dead, (.ptr 1000000001 0 0), .dead, (.all 1000000002 1), (.imm (.int .i64 x0q2)), .dead, .dead, .dead, .dead, .dead, .dead, .dead, .dead, .dead, .dead, .dead, .dead, .dead, .dead, .dead, .dead, .dead, .dead, .dead, .dead, .dead, .dead, .dead, .dead, .dead, .dead, .dead, .dead, .dead, .dead, .dead, .dead, .dead, .dead, .dead, .dead, .dead, .dead, .dead, .dead, .dead, .dead, .dead, .dead, .dead, .dead, .dead, .dead, .dead, .dead, .dead, .dead, .dead, .dead, .dead, .dead, .dead], hOf [(1000000000, (.box [(.imm (.ints .i64 p0q0)), (.imm (.ints .i64 p0q1))])), (1000000001, (.box [(.imm .nils), (.imm .nils)])), (1000000002, (.ints .i64 x0q5))], [], []⟩
noncomputable abbrev L1 (fuel n : Nat) (s : St) (k : Kont) := lAt Try.prog X I fuel true 0 false 18 (bodyOf Try.f18) [1, 1, 1, 0, 1, 0, 0, 1, 0, 0, 1, 0] n s k
noncomputable abbrev k1 (n0 : Nat) (fuel : Nat) : Kont := (kAt Try.prog X I fuel true 0 false 18 (bodyOf Try.f18) [1, 1, 1, 0, 1, 0, 0, 1, 0, 0, 1, 0] [n0] (endK Try.prog Try.f18))
noncomputable def t1 (p1 : Int) (p2 : List Int) (x0q2 : Int) (p0q0 : List Int) (p0q1 : List Int) (x1q3 : Int) (x1q6 : List Int) : St := ⟨[.dead, (.imm (.int .i64 p1)), (.imm (.ints .i64 p2)), (.ptr 1000000000 0 0), .dead, .dead, (.ptr 1000000001 0 0), .dead, (.all 1000000002 1), (.imm (.int .i64 x0q2)), (.imm (.int .i64 x1q3)), .dead, .dead, .dead, .dead, .dead, .dead, .dead, .dead, .dead, .dead, .dead, .dead, .dead, .dead, .dead, .dead, .dead, .dead, .dead, .dead, .dead, .dead, .dead, .dead, .dead, .dead, .dead, .dead, .dead, .dead, .dead, .dead, .dead, .dead, .dead, .dead, .dead, .dead, .dead, .dead, .dead, .dead, .dead, .dead, .dead, .dead, .dead, .dead, .dead, .dead, .dead, .dead, .dead, .dead, .dead, .dead], hOf [(1000000000, (.box [(.imm (.ints .i64 p0q0)), (.imm (.ints .i64 p0q1))])), (1000000001, (.box [(.imm .nils), (.imm .nils)])), (1000000002, (.ints .i64 x1q6))], [], []⟩
theorem e (fuel : Nat) (p0q0 : List Int) (p0q1 : List Int) (p1 : Int) (p2 : List Int) : runF Try.prog X I 0 fuel 18 Try.f18 [.d (.agg [(.ints .i64 p0q0), (.ints .i64 p0q1)]), .d (.int .i64 p1), .d (.ints .i64 p2)] =
  (bif decide (p0q0.length < 9223372036854775808) && decide (p0q1.length < 9223372036854775808) then
  (bif (!(axB p0q0 p0q1 p1)) then
  some ([.agg [((.ints .i64 []), true), ((.ints .i64 []), true)], .one ((.bool false), false)], [])
  else
  (idx p1 p0q0.length).bind fun j1 =>
  (p0q0[j1]?).bind fun v2 =>
  (bif ((((p2.length : Nat) : Int) : Int) != v2) then
  some ([.agg [((.ints .i64 []), true), ((.ints .i64 []), true)], .one ((.bool false), false)], [])
  else
  (bif decide (p2.length < 9223372036854775808) then
  (bif (!(allB p2 0 60)) then
  some ([.agg [((.ints .i64 []), true), ((.ints .i64 []), true)], .one ((.bool false), false)], [])
  else
  L0 fuel fuel (t0 p1 p2 p0q0 p0q1 0 ([])) (k0  fuel))
  else
  none)))
  else
  none) := by kernel_rfl
theorem s0 (fuel n0 : Nat) (p1 : Int) (p2 : List Int) (p0q0 : List Int) (p0q1 : List Int) (x0q2 : Int) (x0q5 : List Int) : L0 fuel (n0 + 1) (t0 p1 p2 p0q0 p0q1 x0q2 x0q5) (k0  fuel) =
  (bif (decide ((x0q2 : Int) < ((p2.length : Nat) : Int))) then
  L1 fuel fuel (t1 p1 p2 x0q2 p0q0 p0q1 0 x0q5) (k1 n0 fuel)
  else
  (bif szB p0q0 then
  (idx p1 p0q0.length).bind fun j19 =>
  (bif decide (j19 < p0q0.length) then
  (bif decide (((p0q0.set j19 ((x0q5.length : Nat) : Int))).length < 9223372036854775808) then
  (bif (!(validS ((p0q0.set j19 ((x0q5.length : Nat) : Int))))) then
  some ([.agg [((.ints .i64 []), true), ((.ints .i64 []), true)], .one ((.bool false), false)], [])
  else
  (bif axB p0q0 p0q1 p1 && alP p0q0 p1 x0q5 then
  some ([.agg [((.ints .i64 (alS p0q0 p1 x0q5)), true), ((.ints .i64 (alA p0q0 p0q1 p1 x0q5)), true)], .one ((.bool true), false)], [])
  else
  none))
  else
  none)
  else
  none)
  else
  none)) := by kernel_rfl
theorem s1 (fuel n0 n1 : Nat) (p1 : Int) (p2 : List Int) (x0q2 : Int) (p0q0 : List Int) (p0q1 : List Int) (x1q3 : Int) (x1q6 : List Int) : L1 fuel (n1 + 1) (t1 p1 p2 x0q2 p0q0 p0q1 x1q3 x1q6) (k1 n0 fuel) =
  (idx x0q2 p2.length).bind fun j17 =>
  (p2[j17]?).bind fun v18 =>
  (bif (decide ((x1q3 : Int) < v18)) then
  (bif fits (x1q6.length + ([x0q2] : List Int).length) 8 then
  L1 fuel n1 (t1 p1 p2 x0q2 p0q0 p0q1 ((IntKind.wrap .i64 (x1q3 + 1))) ((x1q6 ++ [x0q2]))) (k1 n0 fuel)
  else
  none)
  else
  L0 fuel n0 (t0 p1 p2 p0q0 p0q1 ((IntKind.wrap .i64 (x0q2 + 1))) x1q6) (k0  fuel)) := by kernel_rfl
end spec_RepeatAxis
theorem spec_RepeatAxis.ok_of (hX : ∀ E ∈ spec_RepeatAxis.X, CallSpec Try.prog E) (h : ∀ (sh : List Int) (da : List Int) (k : Int) (ts : List Int), (decide (sh.length < 9223372036854775808) && decide (da.length < 9223372036854775808) && decide (ts.length < 9223372036854775808)) = true → ∃ fuel, runF Try.prog spec_RepeatAxis.X spec_RepeatAxis.I 0 fuel 18 Try.f18 [.d (.agg [(.ints .i64 sh), (.ints .i64 da)]), .d (.int .i64 k), .d (.ints .i64 ts)] = some ([.agg [((.ints .i64 (rpS sh da k ts)), true), ((.ints .i64 (rpD sh da k ts)), true)], .one ((.bool (rpB sh da k ts)), false)], [])) : CallSpec Try.prog spec_RepeatAxis.E :=
  callSpec_of (d := 0) hX (by kernel_rfl) spec_RepeatAxis.I_ok (by kernel_rfl) (by kernel_rfl) (by kernel_rfl) (fun _ _ _ _ h => by dsimp only [spec_RepeatAxis.E] at h; cases h) (fun xs hp => by
    dsimp only [spec_RepeatAxis.E] at hp ⊢
    split at hp
    · exact h _ _ _ _ hp
    · cases hp)
theorem spec_RepeatAxis.fin (fuel n0 : Nat) (sh da : List Int) (j : Nat) (ts : List Int) (hj : j < sh.length) (hv : validA sh da = true) (hl : ts.length = lenN sh j) (ht : allB ts 0 60 = true) :
    spec_RepeatAxis.L0 fuel (n0 + 1) (spec_RepeatAxis.t0 (j : Int) ts sh da ((ts.length : Nat) : Int) (rpC ts ts.length)) (spec_RepeatAxis.k0 fuel) = some ([.agg [((.ints .i64 (rpS sh da j ts)), true), ((.ints .i64 (rpD sh da j ts)), true)], .one ((.bool (rpB sh da j ts)), false)], []) := by
  obtain ⟨r1, r2⟩ := rpC_bd ht ts.length (Nat.le_refl _)
  have ax := ax_of (validA_inv hv).1 hj
  have hr := ax.rank
  have hL := ax.len_le
  have hx := axB_of hv hj
  have hB : rpB sh da j ts = validS (alS sh j (rpL ts)) := by
    simp only [rpB, hx, Int.toNat_natCast, decide_eq_true hl, ht, Bool.true_and]
  have hS : alS sh j (rpL ts) = sh.set j (((rpC ts ts.length).length : Nat) : Int) := rfl
  rw [spec_RepeatAxis.s0, dge (by omega), cond_false, szB_of (xs := sh) (by omega), idx_nat hj]
  simp only [cond_true, Option.bind_some]
  rw [decide_eq_true hj, cond_true, lt_of (by rw [List.length_set]; omega), cond_true]
  unfold rpS rpD
  rw [hB, hS]
  cases hvs : validS (sh.set j (((rpC ts ts.length).length : Nat) : Int)) with
  | false => rfl
  | true =>
    have hp : alP sh (j : Int) (rpC ts ts.length) = true := alP_of hvs fun p hp => by have := r2 p hp; omega
    rw [hx, hp]
    rfl
theorem spec_RepeatAxis.inner (fuel n0 : Nat) (sh da : List Int) (j i : Nat) (ts : List Int) (hi : i < ts.length) (hl : ts.length ≤ 60) (ht : allB ts 0 60 = true) (hf : 3700 < fuel) :
    spec_RepeatAxis.L1 fuel fuel (spec_RepeatAxis.t1 (j : Int) ts (i : Int) sh da 0 (rpC ts i)) (spec_RepeatAxis.k1 n0 fuel) = spec_RepeatAxis.L0 fuel n0 (spec_RepeatAxis.t0 (j : Int) ts sh da ((i + 1 : Nat) : Int) (rpC ts (i + 1))) (spec_RepeatAxis.k0 fuel) := by
  have ht1 := allB_inv ht hi
  obtain ⟨r1, r2⟩ := rpC_bd ht i (by omega)
  obtain ⟨m, hm⟩ : ∃ m : Nat, ts.getD i 0 = m := ⟨(ts.getD i 0).toNat, by omega⟩
  refine run_loop (N := m) (fun n q out => spec_RepeatAxis.L1 fuel n (spec_RepeatAxis.t1 (j : Int) ts (i : Int) sh da (q : Int) out) (spec_RepeatAxis.k1 n0 fuel)) (fun q out => out = rpC ts i ++ List.replicate q (i : Int)) ?_ ?_ fuel 0 (rpC ts i) (by omega) (by omega) (by simp)
  · rintro n out rfl
    rw [spec_RepeatAxis.s1, idx_nat hi]
    simp only [Option.bind_some, getD_get hi, hm]
    rw [dge (by omega), cond_false, w1 (by omega)]
    simp only [rpC, hm, Int.toNat_natCast]
  · rintro n q out hq rfl
    rw [spec_RepeatAxis.s1, idx_nat hi]
    simp only [Option.bind_some, getD_get hi, hm]
    rw [dlt hq, cond_true, fitsOk (by simp only [List.length_append, List.length_replicate, List.length_cons, List.length_nil]; omega), cond_true, w1 (by omega)]
    exact ⟨_, by rw [List.append_assoc, ← List.replicate_succ'], rfl⟩
theorem spec_RepeatAxis.ok : CallSpec Try.prog spec_RepeatAxis.E := spec_RepeatAxis.ok_of (by simp [spec_RepeatAxis.X, spec_isAxis.ok, spec_allIn.ok, spec_copyInts.ok, spec_validShape.ok, spec_along.ok]) fun sh da k ts h => by
  obtain ⟨F, hF⟩ : ∃ F : Nat, 3700 < F := ⟨3701, by omega⟩
  refine ⟨F, ?_⟩
  simp only [Bool.and_eq_true] at h
  rw [spec_RepeatAxis.e, h.1.1, h.1.2, h.2]
  cases hb : axB sh da k with
  | false =>
    have : rpB sh da k ts = false := by simp only [rpB, hb, Bool.false_and]
    simp only [rpS, rpD, this]
    rfl
  | true =>
    obtain ⟨j, rfl, hj, hv, ax, hd, hl⟩ := axB_inv hb
    have hL := ax.len_le
    rw [idx_nat hj]
    simp only [cond_true, Bool.and_self, Bool.not_true, cond_false, Option.bind_some, getD_get hj, ax.len]
    by_cases c1 : ts.length = lenN sh j
    · rw [show (((ts.length : Nat) : Int) != ((lenN sh j : Nat) : Int)) = false by simp [c1], cond_false]
      cases ht : allB ts 0 60 with
      | false =>
        have : rpB sh da (j : Int) ts = false := by simp only [rpB, ht, Bool.false_and, Bool.and_false]
        simp only [rpS, rpD, this]
        rfl
      | true =>
        simp only [Bool.not_true, cond_false]
        refine run_loop (N := ts.length) (fun n i out => spec_RepeatAxis.L0 F n (spec_RepeatAxis.t0 (j : Int) ts sh da (i : Int) out) (spec_RepeatAxis.k0 F)) (fun i out => out = rpC ts i) ?_ ?_ F 0 [] (by omega) (by omega) rfl
        · rintro n out rfl
          exact spec_RepeatAxis.fin F n sh da j ts hj hv c1 ht
        · rintro n i out hi rfl
          refine ⟨_, rfl, ?_⟩
          rw [spec_RepeatAxis.s0, dlt hi, cond_true]
          exact spec_RepeatAxis.inner F n sh da j i ts hi (by omega) ht hF
    · have : rpB sh da (j : Int) ts = false := by simp only [rpB, Int.toNat_natCast, decide_eq_false c1, Bool.and_false, Bool.false_and]
      rw [show (((ts.length : Nat) : Int) != ((lenN sh j : Nat) : Int)) = true by simp; omega]
      simp only [rpS, rpD, this]
      rfl

namespace math_bits_Mul64
noncomputable def E : Entry := ⟨63, true, false, fun | [.d (.int .u64 x), .d (.int .u64 y)] => decide (0 ≤ x) && decide (x ≤ 60) && decide (0 ≤ y) && decide (y ≤ 60) | _ => false, fun | [.d (.int .u64 x), .d (.int .u64 y)] => ([.one ((.int .u64 0), false), .one ((.int .u64 (x * y)), false)], []) | _ => ([], []), fun _ => [], false, fun _ => none⟩
end math_bits_Mul64
namespace math_bits_Mul64
noncomputable def X : List Entry := []
noncomputable def I : List Inl := [⟨63, Try.f63, ⟨[], [], [], [], [], []⟩⟩]
theorem I_ok : ∀ i ∈ I, Try.prog.funcs[i.f]? = some i.fn ∧ (i.fn.name == "runtime.NumGoroutine") = false := by
  intro i hi
  simp only [I, List.mem_cons, List.not_mem_nil, or_false] at hi
  subst hi
  exact ⟨by kernel_rfl, by kernel_rfl⟩
theorem e (fuel : Nat) (p0 : Int) (p1 : Int) : runF Try.prog X I 0 fuel 63 Try.f63 [.d (.int .u64 p0), .d (.int .u64 p1)] =
  some ([.one ((.int .u64 (IntKind.wrap .u64 ((IntKind.wrap .u64 ((IntKind.wrap .u64 ((Int.fdiv p0 (2 ^ min (32 : Int).toNat (IntKind.bits .u64))) * (Int.fdiv p1 (2 ^ min (32 : Int).toNat (IntKind.bits .u64))))) + (Int.fdiv (IntKind.wrap .u64 ((IntKind.wrap .u64 ((Int.fdiv p0 (2 ^ min (32 : Int).toNat (IntKind.bits .u64))) * (IntKind.wrap .u64 ((BitVec.ofInt (IntKind.bits .u64) p1 &&& BitVec.ofInt (IntKind.bits .u64) 4294967295).toNat : Int)))) + (Int.fdiv (IntKind.wrap .u64 ((IntKind.wrap .u64 ((BitVec.ofInt (IntKind.bits .u64) p0 &&& BitVec.ofInt (IntKind.bits .u64) 4294967295).toNat : Int)) * (IntKind.wrap .u64 ((BitVec.ofInt (IntKind.bits .u64) p1 &&& BitVec.ofInt (IntKind.bits .u64) 4294967295).toNat : Int)))) (2 ^ min (32 : Int).toNat (IntKind.bits .u64))))) (2 ^ min (32 : Int).toNat (IntKind.bits .u64))))) + (Int.fdiv (IntKind.wrap .u64 ((IntKind.wrap .u64 ((BitVec.ofInt (IntKind.bits .u64) (IntKind.wrap .u64 ((IntKind.wrap .u64 ((Int.fdiv p0 (2 ^ min (32 : Int).toNat (IntKind.bits .u64))) * (IntKind.wrap .u64 ((BitVec.ofInt (IntKind.bits .u64) p1 &&& BitVec.ofInt (IntKind.bits .u64) 4294967295).toNat : Int)))) + (Int.fdiv (IntKind.wrap .u64 ((IntKind.wrap .u64 ((BitVec.ofInt (IntKind.bits .u64) p0 &&& BitVec.ofInt (IntKind.bits .u64) 4294967295).toNat : Int)) * (IntKind.wrap .u64 ((BitVec.ofInt (IntKind.bits .u64) p1 &&& BitVec.ofInt (IntKind.bits .u64) 4294967295).toNat : Int)))) (2 ^ min (32 : Int).toNat (IntKind.bits .u64))))) &&& BitVec.ofInt (IntKind.bits .u64) 4294967295).toNat : Int)) + (IntKind.wrap .u64 ((IntKind.wrap .u64 ((BitVec.ofInt (IntKind.bits .u64) p0 &&& BitVec.ofInt (IntKind.bits .u64) 4294967295).toNat : Int)) * (Int.fdiv p1 (2 ^ min (32 : Int).toNat (IntKind.bits .u64))))))) (2 ^ min (32 : Int).toNat (IntKind.bits .u64)))))), false), .one ((.int .u64 (IntKind.wrap .u64 (p0 * p1))), false)], []) := by kernel_rfl
end math_bits_Mul64
theorem math_bits_Mul64.ok_of (hX : ∀ E ∈ math_bits_Mul64.X, CallSpec Try.prog E) (h : ∀ (x : Int) (y : Int), (decide (0 ≤ x) && decide (x ≤ 60) && decide (0 ≤ y) && decide (y ≤ 60)) = true → ∃ fuel, runF Try.prog math_bits_Mul64.X math_bits_Mul64.I 0 fuel 63 Try.f63 [.d (.int .u64 x), .d (.int .u64 y)] = some ([.one ((.int .u64 0), false), .one ((.int .u64 (x * y)), false)], [])) : CallSpec Try.prog math_bits_Mul64.E :=
  callSpec_of (d := 0) hX (by kernel_rfl) math_bits_Mul64.I_ok (by kernel_rfl) (by kernel_rfl) (by kernel_rfl) (fun _ _ _ _ h => by dsimp only [math_bits_Mul64.E] at h; cases h) (fun xs hp => by
    dsimp only [math_bits_Mul64.E] at hp ⊢
    split at hp
    · exact h _ _ hp
    · cases hp)
theorem mul_and_fin : ∀ a : Fin 61, IntKind.wrap .u64 ((BitVec.ofInt (IntKind.bits .u64) ((a.1 : Nat) : Int) &&& BitVec.ofInt (IntKind.bits .u64) 4294967295).toNat : Int) = ((a.1 : Nat) : Int) := by decide +kernel
theorem mul_and {n : Nat} (h : n ≤ 60) : IntKind.wrap .u64 ((BitVec.ofInt (IntKind.bits .u64) (n : Int) &&& BitVec.ofInt (IntKind.bits .u64) 4294967295).toNat : Int) = (n : Int) := mul_and_fin ⟨n, by omega⟩
theorem mul_shr {n : Nat} (h : n < 4294967296) : Int.fdiv (n : Int) (2 ^ min (32 : Int).toNat (IntKind.bits .u64)) = 0 := by
  have : Int.fdiv (n : Int) (2 ^ min (32 : Int).toNat (IntKind.bits .u64)) = ((n / 4294967296 : Nat) : Int) := fdivN n 4294967296
  rw [this]
  have : n / 4294967296 = 0 := Nat.div_eq_of_lt h
  omega
theorem math_bits_Mul64.ok : CallSpec Try.prog math_bits_Mul64.E := math_bits_Mul64.ok_of (by simp [math_bits_Mul64.X]) fun x y h => ⟨0, by
  simp only [Bool.and_eq_true, decide_eq_true_eq] at h
  obtain ⟨a, rfl⟩ : ∃ n : Nat, x = n := ⟨x.toNat, by omega⟩
  obtain ⟨b, rfl⟩ : ∃ n : Nat, y = n := ⟨y.toNat, by omega⟩
  have ha : a ≤ 60 := by omega
  have hb : b ≤ 60 := by omega
  have hab : a * b ≤ 60 * 60 := Nat.mul_le_mul ha hb
  have e : ((a : Int) * (b : Int)) = ((a * b : Nat) : Int) := by rw [Int.natCast_mul]
  have z0 : IntKind.wrap .u64 0 = 0 := rfl
  have z1 : Int.fdiv 0 (2 ^ min (32 : Int).toNat (IntKind.bits .u64)) = 0 := mul_shr (n := 0) (by omega)
  have z2 : IntKind.wrap .u64 ((BitVec.ofInt (IntKind.bits .u64) 0 &&& BitVec.ofInt (IntKind.bits .u64) 4294967295).toNat : Int) = 0 := mul_and (n := 0) (by omega)
  rw [math_bits_Mul64.e, mul_and ha, mul_and hb, mul_shr (n := a) (by omega), mul_shr (n := b) (by omega), e, wU0 (by omega), mul_shr (n := a * b) (by omega)]
  simp only [Int.zero_mul, Int.mul_zero, Int.add_zero, z0, z1, z2]⟩

namespace math_bits_Mul
noncomputable def E : Entry := ⟨57, true, false, fun | [.d (.int .u64 x), .d (.int .u64 y)] => decide (0 ≤ x) && decide (x ≤ 60) && decide (0 ≤ y) && decide (y ≤ 60) | _ => false, fun | [.d (.int .u64 x), .d (.int .u64 y)] => ([.one ((.int .u64 0), false), .one ((.int .u64 (x * y)), false)], []) | _ => ([], []), fun _ => [], false, fun _ => none⟩
end math_bits_Mul
namespace math_bits_Mul
noncomputable def X : List Entry := [math_bits_Mul64.E]
noncomputable def I : List Inl := [⟨57, Try.f57, ⟨[], [(1, [2, 3, 4, 5, 6, 7, 8, 9, 10, 11, 12, 13, 14, 15, 16, 17, 18, 19, 20, 21, 22, 23, 24, 25, 26, 27, 28, 29])], [], [], [], []⟩⟩]
theorem I_ok : ∀ i ∈ I, Try.prog.funcs[i.f]? = some i.fn ∧ (i.fn.name == "runtime.NumGoroutine") = false := by
  intro i hi
  simp only [I, List.mem_cons, List.not_mem_nil, or_false] at hi
  subst hi
  exact ⟨by kernel_rfl, by kernel_rfl⟩
theorem e (fuel : Nat) (p0 : Int) (p1 : Int) : runF Try.prog X I 0 fuel 57 Try.f57 [.d (.int .u64 p0), .d (.int .u64 p1)] =
  (bif decide (0 ≤ p0) && decide (p0 ≤ 60) && decide (0 ≤ p1) && decide (p1 ≤ 60) then
  some ([.one ((.int .u64 0), false), .one ((.int .u64 (p0 * p1)), false)], [])
  else
  none) := by kernel_rfl
end math_bits_Mul
theorem math_bits_Mul.ok_of (hX : ∀ E ∈ math_bits_Mul.X, CallSpec Try.prog E) (h : ∀ (x : Int) (y : Int), (decide (0 ≤ x) && decide (x ≤ 60) && decide (0 ≤ y) && decide (y ≤ 60)) = true → ∃ fuel, runF Try.prog math_bits_Mul.X math_bits_Mul.I 0 fuel 57 Try.f57 [.d (.int .u64 x), .d (.int .u64 y)] = some ([.one ((.int .u64 0), false), .one ((.int .u64 (x * y)), false)], [])) : CallSpec Try.prog math_bits_Mul.E :=
  callSpec_of (d := 0) hX (by kernel_rfl) math_bits_Mul.I_ok (by kernel_rfl) (by kernel_rfl) (by kernel_rfl) (fun _ _ _ _ h => by dsimp only [math_bits_Mul.E] at h; cases h) (fun xs hp => by
    dsimp only [math_bits_Mul.E] at hp ⊢
    split at hp
    · exact h _ _ hp
    · cases hp)
theorem math_bits_Mul.ok : CallSpec Try.prog math_bits_Mul.E := math_bits_Mul.ok_of (by simp [math_bits_Mul.X, math_bits_Mul64.ok]) fun x y h => ⟨0, by
  rw [math_bits_Mul.e, h]
  rfl⟩

namespace slices_Repeat_int_int
noncomputable def E : Entry := ⟨46, false, false, fun | [.d (.ints .i64 xs), .d (.int .i64 n)] => decide ((xs : List Int).length = 1) && decide (0 ≤ n) && decide (n ≤ 60) | _ => false, fun | [.d (.ints .i64 xs), .d (.int .i64 n)] => ([.one ((.ints .i64 (List.replicate n.toNat (xs.getD 0 0))), true)], []) | _ => ([], []), fun _ => [], true, fun _ => none⟩
end slices_Repeat_int_int
namespace slices_Repeat_int_int
noncomputable def X : List Entry := [math_bits_Mul.E]
noncomputable def I : List Inl := [⟨46, Try.f46, ⟨[], [(1000008, [0, 1, 2, 3, 4, 5, 6, 9, 10, 11, 12, 13, 14, 15, 16, 17, 18, 19, 20, 21, 22, 23, 24, 25, 26, 27, 28, 29, 30, 31, 32, 33, 34, 35, 36, 37, 38, 39, 40, 41, 42, 43, 44, 45, 46, 47])], [], [(9, [0, 1, 2, 4, 5, 3, 6, 7, 8, 9])], [], []⟩⟩]
theorem I_ok : ∀ i ∈ I, Try.prog.funcs[i.f]? = some i.fn ∧ (i.fn.name == "runtime.NumGoroutine") = false := by
  intro i hi
  simp only [I, List.mem_cons, List.not_mem_nil, or_false] at hi
  subst hi
  exact ⟨by kernel_rfl, by kernel_rfl⟩
noncomputable abbrev L0 (fuel n : Nat) (s : St) (k : Kont) := lAt Try.prog X I fuel true 0 false 46 (bodyOf Try.f46) [1, 1, 1, 1, 1, 1, 0, 0] n s k
noncomputable abbrev k0  (fuel : Nat) : Kont := (kAt Try.prog X I fuel true 0 false 46 (bodyOf Try.f46) [1, 1, 1, 1, 1, 1, 0, 0] [] (endK Try.prog Try.f46))
noncomputable def t0 (x0q0 : Int) (x0q1 : List Int) : St := ⟨[.dead, .dead, .dead, .dead, .dead, .dead, .dead, (.all 1000000000 1), (.imm (.int .i64 x0q0)), .dead, .dead, .dead, .dead, .dead, .dead, .dead, .dead, .dead, .dead, .dead, .dead, .dead, .dead, .dead, .dead, .dead, .dead, .dead, .dead, .dead, .dead, .dead, .dead, .dead, .dead, .dead, .dead, .dead, .dead, .dead, .dead, .dead, .dead, .dead, .dead, .dead, .dead, .dead], hOf [(1000000000, (.ints .i64 x0q1))], [], []⟩
theorem e (fuel : Nat) (p0 : List Int) (p1 : Int) : runF Try.prog X I 0 fuel 46 Try.f46 [.d (.ints .i64 p0), .d (.int .i64 p1)] =
  (bif (decide ((p1 : Int) < 0)) then
  none
  else
  (bif decide (0 ≤ ((IntKind.wrap .u64 ((p0.length : Nat) : Int)))) && decide (((IntKind.wrap .u64 ((p0.length : Nat) : Int))) ≤ 60) && decide (0 ≤ ((IntKind.wrap .u64 p1))) && decide (((IntKind.wrap .u64 p1)) ≤ 60) then
  (bif (decide ((0 : Int) > 0)) then
  none
  else
  (bif (decide (((((IntKind.wrap .u64 ((p0.length : Nat) : Int))) * ((IntKind.wrap .u64 p1))) : Int) > 9223372036854775807)) then
  none
  else
  (bif decide (0 ≤ ((IntKind.wrap .i64 (((IntKind.wrap .u64 ((p0.length : Nat) : Int))) * ((IntKind.wrap .u64 p1)))) : Int)) && decide (((IntKind.wrap .i64 (((IntKind.wrap .u64 ((p0.length : Nat) : Int))) * ((IntKind.wrap .u64 p1)))) : Int) ≤ (IntKind.wrap .i64 (((IntKind.wrap .u64 ((p0.length : Nat) : Int))) * ((IntKind.wrap .u64 p1))))) && decide (((IntKind.wrap .i64 (((IntKind.wrap .u64 ((p0.length : Nat) : Int))) * ((IntKind.wrap .u64 p1)))) : Int) ≤ 1152921504606846976) && decide (((8 : Nat) : Int) * (IntKind.wrap .i64 (((IntKind.wrap .u64 ((p0.length : Nat) : Int))) * ((IntKind.wrap .u64 p1)))) ≤ 281474976710656) then
  L0 fuel fuel (t0 (((min p0.length (List.replicate ((IntKind.wrap .i64 (((IntKind.wrap .u64 ((p0.length : Nat) : Int))) * ((IntKind.wrap .u64 p1))))).toNat (0 : Int)).length : Nat) : Int)) ((copyL (List.replicate ((IntKind.wrap .i64 (((IntKind.wrap .u64 ((p0.length : Nat) : Int))) * ((IntKind.wrap .u64 p1))))).toNat (0 : Int)) 0 (List.replicate ((IntKind.wrap .i64 (((IntKind.wrap .u64 ((p0.length : Nat) : Int))) * ((IntKind.wrap .u64 p1))))).toNat (0 : Int)).length p0))) (k0  fuel)
  else
  none)))
  else
  none)) := by kernel_rfl
theorem s0 (fuel n0 : Nat) (x0q0 : Int) (x0q1 : List Int) : L0 fuel (n0 + 1) (t0 x0q0 x0q1) (k0  fuel) =
  (bif (decide ((x0q0 : Int) < ((x0q1.length : Nat) : Int))) then
  (cutEnds x0q1.length (some (.imm (.int .i64 x0q0))) (none)).bind fun cq5 =>
  (cutEnds x0q1.length (none) (some (.imm (.int .i64 x0q0)))).bind fun cq6 =>
  (bif decide (cq6.1 + (cq6.2 - cq6.1) ≤ x0q1.length) then
  (bif decide (cq5.1 + (cq5.2 - cq5.1) ≤ x0q1.length) then
  L0 fuel n0 (t0 ((IntKind.wrap .i64 (x0q0 + ((min ((x0q1.drop cq6.1).take ((cq6.2 - cq6.1))).length ((cq5.2 - cq5.1)) : Nat) : Int)))) ((copyL x0q1 cq5.1 ((cq5.2 - cq5.1)) ((x0q1.drop cq6.1).take ((cq6.2 - cq6.1)))))) (k0  fuel)
  else
  none)
  else
  none)
  else
  some ([.one ((.ints .i64 x0q1), true)], [])) := by kernel_rfl
end slices_Repeat_int_int
theorem slices_Repeat_int_int.ok_of (hX : ∀ E ∈ slices_Repeat_int_int.X, CallSpec Try.prog E) (h : ∀ (xs : List Int) (n : Int), (decide ((xs : List Int).length = 1) && decide (0 ≤ n) && decide (n ≤ 60)) = true → ∃ fuel, runF Try.prog slices_Repeat_int_int.X slices_Repeat_int_int.I 0 fuel 46 Try.f46 [.d (.ints .i64 xs), .d (.int .i64 n)] = some ([.one ((.ints .i64 (List.replicate n.toNat (xs.getD 0 0))), true)], [])) : CallSpec Try.prog slices_Repeat_int_int.E :=
  callSpec_of (d := 0) hX (by kernel_rfl) slices_Repeat_int_int.I_ok (by kernel_rfl) (by kernel_rfl) (by kernel_rfl) (fun _ _ _ _ h => by dsimp only [slices_Repeat_int_int.E] at h; cases h) (fun xs hp => by
    dsimp only [slices_Repeat_int_int.E] at hp ⊢
    split at hp
    · exact h _ _ hp
    · cases hp)
theorem rep_step {N m : Nat} {v : Int} (h1 : m ≤ N) : copyL (List.replicate m v ++ List.replicate (N - m) 0) m (N - m) (List.replicate m v) = List.replicate (m + min m (N - m)) v ++ List.replicate (N - (m + min m (N - m))) 0 := by
  have e1 : min (List.replicate m v).length (N - m) = min m (N - m) := by simp
  unfold copyL spl
  rw [e1, List.take_left' (by simp), List.take_replicate, List.length_replicate, Nat.min_eq_left (Nat.min_le_left _ _), List.replicate_append_replicate]
  congr 1
  rw [List.drop_append, List.drop_eq_nil_of_le (by simp), List.nil_append, List.length_replicate, List.drop_replicate]
  congr 1
  omega
theorem slices_Repeat_int_int.loop (fuel N : Nat) (v : Int) (hN : N ≤ 60) : ∀ (f m : Nat), 1 ≤ m → m ≤ N → N - m < f →
    slices_Repeat_int_int.L0 fuel f (slices_Repeat_int_int.t0 (m : Int) (List.replicate m v ++ List.replicate (N - m) 0)) (slices_Repeat_int_int.k0 fuel) = some ([.one ((.ints .i64 (List.replicate N v)), true)], []) := by
  intro f
  induction f with
  | zero => intro m _ _ h; omega
  | succ f ih =>
    intro m h1 h2 h3
    have hl : (List.replicate m v ++ List.replicate (N - m) 0).length = N := by simp; omega
    rw [slices_Repeat_int_int.s0, hl]
    by_cases hm : m < N
    · have et : ((List.replicate m v ++ List.replicate (N - m) 0).drop 0).take (m - 0) = List.replicate m v := by
        rw [List.drop_zero, Nat.sub_zero, List.take_left' (by simp)]
      rw [dlt hm, cond_true, cut_lo (by omega), cut_hi (by omega)]
      simp only [Option.bind_some]
      rw [decide_eq_true (p := 0 + (m - 0) ≤ N) (by omega), decide_eq_true (p := m + (N - m) ≤ N) (by omega), cond_true, cond_true, et, rep_step (by omega), List.length_replicate, wAdd (by omega)]
      exact ih (m + min m (N - m)) (by omega) (by omega) (by omega)
    · obtain rfl : m = N := by omega
      rw [dge hm, cond_false, Nat.sub_self]
      simp
theorem slices_Repeat_int_int.ok : CallSpec Try.prog slices_Repeat_int_int.E := slices_Repeat_int_int.ok_of (by simp [slices_Repeat_int_int.X, math_bits_Mul.ok]) fun xs n h => by
  obtain ⟨F, hF⟩ : ∃ F : Nat, 100 < F := ⟨101, by omega⟩
  refine ⟨F, ?_⟩
  simp only [Bool.and_eq_true, decide_eq_true_eq] at h
  obtain ⟨N, rfl⟩ : ∃ N : Nat, n = N := ⟨n.toNat, by omega⟩
  obtain ⟨v, rfl⟩ : ∃ v, xs = [v] := by
    match xs, h.1.1 with
    | [v], _ => exact ⟨v, rfl⟩
  have hN : N ≤ 60 := by omega
  have eN : IntKind.wrap .u64 ((N : Nat) : Int) = ((N : Nat) : Int) := wU0 (by omega)
  have e1 : IntKind.wrap .u64 (((([v] : List Int).length : Nat) : Int)) = 1 := rfl
  rw [slices_Repeat_int_int.e, e1, eN, Int.one_mul, wN (by omega), mkOk (by omega) (by omega), decide_eq_false (p := (N : Int) < 0) (by omega), decide_eq_true (p := (0 : Int) ≤ ((N : Nat) : Int)) (by omega), decide_eq_true (p := ((N : Nat) : Int) ≤ 60) (by omega), decide_eq_false (p := ((N : Nat) : Int) > 9223372036854775807) (by omega), Int.toNat_natCast, List.length_replicate]
  show slices_Repeat_int_int.L0 F F (slices_Repeat_int_int.t0 _ _) (slices_Repeat_int_int.k0 F) = _
  by_cases h0 : N = 0
  · subst h0
    obtain ⟨f, rfl⟩ : ∃ f, F = f + 1 := ⟨F - 1, by omega⟩
    rw [slices_Repeat_int_int.s0]
    rfl
  · have e2 : copyL (List.replicate N (0 : Int)) 0 N [v] = List.replicate 1 v ++ List.replicate (N - 1) 0 := by
      obtain ⟨M, rfl⟩ : ∃ M, N = M + 1 := ⟨N - 1, by omega⟩
      unfold copyL spl
      rw [show min ([v] : List Int).length (M + 1) = 1 by simp]
      simp
    have e3 : min ([v] : List Int).length N = 1 := by simp; omega
    rw [e2, e3]
    exact slices_Repeat_int_int.loop F N v hN F 1 (by omega) (by omega) (by omega)

namespace impl_withPlaces_1
noncomputable def E : Entry := ⟨58, true, false, fun | [.d (.int .i64 i), .d (.pbox [(.ints .i64 ls)])] => lsB ls i | _ => false, fun | [.d (.int .i64 i), .d (.pbox [(.ints .i64 ls)])] => ([.one ((.int .i64 (lsI ls i)), false)], []) | _ => ([], []), fun _ => [], false, fun | [(.pbox [(.ints .i64 ls)])] => some (false, (lsQ ls), (q1v (lsI ls))) | _ => none⟩
end impl_withPlaces_1
namespace impl_withPlaces_1
noncomputable def X : List Entry := []
noncomputable def I : List Inl := [⟨58, Try.f58, ⟨[], [], [], [], [], []⟩⟩]
theorem I_ok : ∀ i ∈ I, Try.prog.funcs[i.f]? = some i.fn ∧ (i.fn.name == "runtime.NumGoroutine") = false := by
  intro i hi
  simp only [I, List.mem_cons, List.not_mem_nil, or_false] at hi
  subst hi
  exact ⟨by kernel_rfl, by kernel_rfl⟩
theorem e (fuel : Nat) (p0 : Int) (f0q0 : List Int) : runF Try.prog X I 0 fuel 58 Try.f58 [.d (.int .i64 p0), .d (.pbox [(.ints .i64 f0q0)])] =
  (idx p0 f0q0.length).bind fun j1 =>
  (f0q0[j1]?).bind fun v2 =>
  some ([.one ((.int .i64 v2), false)], []) := by kernel_rfl
end impl_withPlaces_1
theorem impl_withPlaces_1.ok_of (hX : ∀ E ∈ impl_withPlaces_1.X, CallSpec Try.prog E) (hfn : ∀ ds rb dom G, impl_withPlaces_1.E.fnOf ds = some (rb, dom, G) → ∀ qs, dom qs = true → impl_withPlaces_1.E.m ((qs.map fun q => .d q.d) ++ ds.map .d) = some ([.one (fnD rb (G qs), false)], [])) (h : ∀ (i : Int) (ls : List Int), (lsB ls i) = true → ∃ fuel, runF Try.prog impl_withPlaces_1.X impl_withPlaces_1.I 0 fuel 58 Try.f58 [.d (.int .i64 i), .d (.pbox [(.ints .i64 ls)])] = some ([.one ((.int .i64 (lsI ls i)), false)], [])) : CallSpec Try.prog impl_withPlaces_1.E :=
  callSpec_of (d := 0) hX (by kernel_rfl) impl_withPlaces_1.I_ok (by kernel_rfl) (by kernel_rfl) (by kernel_rfl) hfn (fun xs hp => by
    dsimp only [impl_withPlaces_1.E] at hp ⊢
    split at hp
    · exact h _ _ hp
    · cases hp)
theorem impl_withPlaces_1.ok : CallSpec Try.prog impl_withPlaces_1.E := impl_withPlaces_1.ok_of (by simp [impl_withPlaces_1.X]) (fun ds rb dom G h qs hq => by
  dsimp only [impl_withPlaces_1.E] at h
  split at h
  case h_2 => cases h
  cases h
  match qs, hq with
  | [.i n], hq =>
    simp only [lsQ] at hq
    simp only [impl_withPlaces_1.E, Entry.m, List.map, List.cons_append, List.nil_append, Q.d, hq, cond_true, if_true]
    rfl) fun i ls h => ⟨0, by
  simp only [lsB, Bool.and_eq_true, decide_eq_true_eq] at h
  obtain ⟨j, rfl⟩ : ∃ j : Nat, i = j := ⟨i.toNat, by omega⟩
  have hj : j < ls.length := by omega
  rw [impl_withPlaces_1.e, idx_nat hj]
  simp only [Option.bind_some, getD_get hj, lsI, Int.toNat_natCast]⟩

end Go.Ab
