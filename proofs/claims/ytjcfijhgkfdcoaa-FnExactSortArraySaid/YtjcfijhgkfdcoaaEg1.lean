import Derived.Test.YtjcfijhgkfdcoaaEgp
import Derived.Test.YtjcfijhgkfdcoaaProg
import Derived.Test.YtjcfijhgkfdcoaaChecked
open Go Go.Ab Go.Proofs
set_option maxRecDepth 100000
set_option linter.unusedVariables false
set_option linter.unusedSimpArgs false
namespace Go.Ab
namespace laws_szIntS
noncomputable def E : Entry := ⟨14, true, false, fun | [.d (.ints .i64 xs), .d (.int .i64 left)] => true | _ => false, fun | [.d (.ints .i64 xs), .d (.int .i64 left)] => ([.one ((.int .i64 (szI xs left)), false)], []) | _ => ([], []), fun _ => [], false, fun _ => none⟩
end laws_szIntS
namespace laws_szIntS
noncomputable def X : List Entry := []
noncomputable def I : List Inl := [⟨14, Try.f14, ⟨[], [], [], [], [], []⟩⟩]
theorem I_ok : ∀ i ∈ I, Try.prog.funcs[i.f]? = some i.fn ∧ (i.fn.name == "runtime.NumGoroutine") = false := by
  intro i hi
  simp only [I, List.mem_cons, List.not_mem_nil, or_false] at hi
  subst hi
  exact ⟨by kernel_rfl, by kernel_rfl⟩
theorem e (fuel : Nat) (p0 : List Int) (p1 : Int) : runF Try.prog X I 0 fuel 14 Try.f14 [.d (.ints .i64 p0), .d (.int .i64 p1)] =
  (bif (decide (((IntKind.wrap .i64 (p1 - ((p0.length : Nat) : Int))) : Int) < 0)) then
  some ([.one ((.int .i64 (-1)), false)], [])
  else
  some ([.one ((.int .i64 (IntKind.wrap .i64 (p1 - ((p0.length : Nat) : Int)))), false)], [])) := by kernel_rfl
end laws_szIntS
theorem laws_szIntS.ok_of (hX : ∀ E ∈ laws_szIntS.X, CallSpec Try.prog E) (h : ∀ (xs : List Int) (left : Int), (true) = true → ∃ fuel, runF Try.prog laws_szIntS.X laws_szIntS.I 0 fuel 14 Try.f14 [.d (.ints .i64 xs), .d (.int .i64 left)] = some ([.one ((.int .i64 (szI xs left)), false)], [])) : CallSpec Try.prog laws_szIntS.E :=
  callSpec_of (d := 0) hX (by kernel_rfl) laws_szIntS.I_ok (by kernel_rfl) (by kernel_rfl) (by kernel_rfl) (fun _ _ _ _ h => by dsimp only [laws_szIntS.E] at h; cases h) (fun xs hp => by
    dsimp only [laws_szIntS.E] at hp ⊢
    split at hp
    · exact h _ _ hp
    · cases hp)
theorem laws_szIntS.ok : CallSpec Try.prog laws_szIntS.E := laws_szIntS.ok_of (by simp [laws_szIntS.X]) fun xs left _ => ⟨0, by
  rw [laws_szIntS.e]
  unfold szI
  cases decide (IntKind.wrap .i64 (left - ((xs.length : Nat) : Int)) < 0) <;> rfl⟩

namespace laws_szArray
noncomputable def E : Entry := ⟨5, true, false, fun | [.d (.agg [(.ints .i64 sh), (.ints .i64 da)]), .d (.int .i64 left)] => true | _ => false, fun | [.d (.agg [(.ints .i64 sh), (.ints .i64 da)]), .d (.int .i64 left)] => ([.one ((.int .i64 (szA sh da left)), false)], []) | _ => ([], []), fun _ => [], false, fun _ => none⟩
end laws_szArray
namespace laws_szArray
noncomputable def X : List Entry := [laws_szIntS.E]
noncomputable def I : List Inl := [⟨5, Try.f5, ⟨[], [], [], [], [], []⟩⟩]
theorem I_ok : ∀ i ∈ I, Try.prog.funcs[i.f]? = some i.fn ∧ (i.fn.name == "runtime.NumGoroutine") = false := by
  intro i hi
  simp only [I, List.mem_cons, List.not_mem_nil, or_false] at hi
  subst hi
  exact ⟨by kernel_rfl, by kernel_rfl⟩
theorem e (fuel : Nat) (p0q0 : List Int) (p0q1 : List Int) (p1 : Int) : runF Try.prog X I 0 fuel 5 Try.f5 [.d (.agg [(.ints .i64 p0q0), (.ints .i64 p0q1)]), .d (.int .i64 p1)] =
  (bif (decide (((szI p0q0 p1) : Int) < 0)) then
  some ([.one ((.int .i64 (-1)), false)], [])
  else
  (bif (decide (((szI p0q1 ((szI p0q0 p1))) : Int) < 0)) then
  some ([.one ((.int .i64 (-1)), false)], [])
  else
  some ([.one ((.int .i64 (szI p0q1 ((szI p0q0 p1)))), false)], []))) := by kernel_rfl
end laws_szArray
theorem laws_szArray.ok_of (hX : ∀ E ∈ laws_szArray.X, CallSpec Try.prog E) (h : ∀ (sh : List Int) (da : List Int) (left : Int), (true) = true → ∃ fuel, runF Try.prog laws_szArray.X laws_szArray.I 0 fuel 5 Try.f5 [.d (.agg [(.ints .i64 sh), (.ints .i64 da)]), .d (.int .i64 left)] = some ([.one ((.int .i64 (szA sh da left)), false)], [])) : CallSpec Try.prog laws_szArray.E :=
  callSpec_of (d := 0) hX (by kernel_rfl) laws_szArray.I_ok (by kernel_rfl) (by kernel_rfl) (by kernel_rfl) (fun _ _ _ _ h => by dsimp only [laws_szArray.E] at h; cases h) (fun xs hp => by
    dsimp only [laws_szArray.E] at hp ⊢
    split at hp
    · exact h _ _ _ hp
    · cases hp)
theorem laws_szArray.ok : CallSpec Try.prog laws_szArray.E := laws_szArray.ok_of (by simp [laws_szArray.X, laws_szIntS.ok]) fun sh da left _ => ⟨0, by
  rw [laws_szArray.e]
  unfold szA
  cases decide (szI sh left < 0) <;> cases decide (szI da (szI sh left) < 0) <;> rfl⟩

namespace laws_toIntS
noncomputable def E : Entry := ⟨18, false, false, fun | [.d (.ints .i64 xs)] => szB xs | _ => false, fun | [.d (.ints .i64 xs)] => ([.one ((.ints .i64 xs), true)], []) | _ => ([], []), fun _ => [], true, fun _ => none⟩
end laws_toIntS
namespace laws_toIntS
noncomputable def X : List Entry := []
noncomputable def I : List Inl := [⟨18, Try.f18, ⟨[], [(1000003, [1, 2, 5, 6, 7, 8, 9, 10, 11, 12, 13, 14, 15, 16, 17, 18, 19, 20, 21])], [], [], [], []⟩⟩]
theorem I_ok : ∀ i ∈ I, Try.prog.funcs[i.f]? = some i.fn ∧ (i.fn.name == "runtime.NumGoroutine") = false := by
  intro i hi
  simp only [I, List.mem_cons, List.not_mem_nil, or_false] at hi
  subst hi
  exact ⟨by kernel_rfl, by kernel_rfl⟩
noncomputable abbrev L0 (fuel n : Nat) (s : St) (k : Kont) := lAt Try.prog X I fuel true 0 false 18 (bodyOf Try.f18) [1, 1, 0, 1, 0] n s k
noncomputable abbrev k0  (fuel : Nat) : Kont := (kAt Try.prog X I fuel true 0 false 18 (bodyOf Try.f18) [1, 1, 0, 1, 0] [] (endK Try.prog Try.f18))
noncomputable def t0 (p0 : List Int) (x0q1 : Int) (x0q2 : List Int) : St := ⟨[(.imm (.ints .i64 p0)), .dead, .dead, (.all 1000000000 1), (.imm (.int .i64 x0q1)), .dead, .dead, .dead, .dead, .dead, .dead, .dead, .dead, .dead, .dead, .dead, .dead, .dead, .dead, .dead, .dead, .dead], hOf [(1000000000, (.ints .i64 x0q2))], [], []⟩
theorem e (fuel : Nat) (p0 : List Int) : runF Try.prog X I 0 fuel 18 Try.f18 [.d (.ints .i64 p0)] =
  (bif decide (0 ≤ (((p0.length : Nat) : Int) : Int)) && decide ((((p0.length : Nat) : Int) : Int) ≤ ((p0.length : Nat) : Int)) && decide ((((p0.length : Nat) : Int) : Int) ≤ 1152921504606846976) && decide (((8 : Nat) : Int) * ((p0.length : Nat) : Int) ≤ 281474976710656) then
  L0 fuel fuel (t0 p0 0 ((List.replicate (((p0.length : Nat) : Int)).toNat (0 : Int)))) (k0  fuel)
  else
  none) := by kernel_rfl
theorem s0 (fuel n0 : Nat) (p0 : List Int) (x0q1 : Int) (x0q2 : List Int) : L0 fuel (n0 + 1) (t0 p0 x0q1 x0q2) (k0  fuel) =
  (bif (decide ((x0q1 : Int) < ((p0.length : Nat) : Int))) then
  (idx x0q1 p0.length).bind fun j7 =>
  (p0[j7]?).bind fun v8 =>
  (idx x0q1 x0q2.length).bind fun j9 =>
  (bif decide (j9 < x0q2.length) then
  L0 fuel n0 (t0 p0 ((IntKind.wrap .i64 (x0q1 + 1))) ((x0q2.set j9 v8))) (k0  fuel)
  else
  none)
  else
  some ([.one ((.ints .i64 x0q2), true)], [])) := by kernel_rfl
end laws_toIntS
theorem laws_toIntS.ok_of (hX : ∀ E ∈ laws_toIntS.X, CallSpec Try.prog E) (h : ∀ (xs : List Int), (szB xs) = true → ∃ fuel, runF Try.prog laws_toIntS.X laws_toIntS.I 0 fuel 18 Try.f18 [.d (.ints .i64 xs)] = some ([.one ((.ints .i64 xs), true)], [])) : CallSpec Try.prog laws_toIntS.E :=
  callSpec_of (d := 0) hX (by kernel_rfl) laws_toIntS.I_ok (by kernel_rfl) (by kernel_rfl) (by kernel_rfl) (fun _ _ _ _ h => by dsimp only [laws_toIntS.E] at h; cases h) (fun xs hp => by
    dsimp only [laws_toIntS.E] at hp ⊢
    split at hp
    · exact h _ hp
    · cases hp)
theorem laws_toIntS.loop (fuel : Nat) (xs : List Int) (hx : xs.length < 9223372036854775808) : ∀ (m n j : Nat) (out : List Int), xs.length - j = m → m < n → j ≤ xs.length → out.length = xs.length → out.take j = xs.take j →
    laws_toIntS.L0 fuel n (laws_toIntS.t0 xs (j : Int) out) (laws_toIntS.k0 fuel) = some ([.one (.ints .i64 xs, true)], []) := by
  intro m
  induction m with
  | zero =>
    intro n j out h1 h2 h3 h4 h5
    obtain ⟨n, rfl⟩ : ∃ n', n = n' + 1 := ⟨n - 1, by omega⟩
    have hj : ¬ j < xs.length := by omega
    have : out = xs := by rw [List.take_of_length_le (by omega), List.take_of_length_le (by omega)] at h5; exact h5
    rw [laws_toIntS.s0, dge hj, this]
    rfl
  | succ m ih =>
    intro n j out h1 h2 h3 h4 h5
    obtain ⟨n, rfl⟩ : ∃ n', n = n' + 1 := ⟨n - 1, by omega⟩
    have hj : j < xs.length := by omega
    have hj2 : j < out.length := by omega
    rw [laws_toIntS.s0, dlt hj, idx_nat hj, idx_nat hj2, w1 (by omega)]
    simp only [cond_true, Option.bind_some, getS hj, hj2, decide_true]
    exact ih n (j + 1) _ (by omega) (by omega) (by omega) (by simpa using h4) (take_set_succ hj hj2 h5)

theorem laws_toIntS.ok : CallSpec Try.prog laws_toIntS.E := laws_toIntS.ok_of (by simp [laws_toIntS.X]) fun xs h => by
  have hx := szB_le h
  refine ⟨xs.length + 1, ?_⟩
  rw [laws_toIntS.e, mkOk (by omega) (by omega)]
  exact laws_toIntS.loop (xs.length + 1) xs (by omega) xs.length (xs.length + 1) 0 _ (by omega) (by omega) (by omega) (by simp) (by simp)

namespace laws_toArray
noncomputable def E : Entry := ⟨7, false, false, fun | [.d (.agg [(.ints .i64 sh), (.ints .i64 da)])] => szB sh && szB da | _ => false, fun | [.d (.agg [(.ints .i64 sh), (.ints .i64 da)])] => ([.agg [((.ints .i64 sh), true), ((.ints .i64 da), true)]], []) | _ => ([], []), fun _ => [], true, fun _ => none⟩
end laws_toArray
namespace laws_toArray
noncomputable def X : List Entry := [laws_toIntS.E]
noncomputable def I : List Inl := [⟨7, Try.f7, ⟨[6, 10], [], [], [], [], []⟩⟩]
theorem I_ok : ∀ i ∈ I, Try.prog.funcs[i.f]? = some i.fn ∧ (i.fn.name == "runtime.NumGoroutine") = false := by
  intro i hi
  simp only [I, List.mem_cons, List.not_mem_nil, or_false] at hi
  subst hi
  exact ⟨by kernel_rfl, by kernel_rfl⟩
theorem e (fuel : Nat) (p0q0 : List Int) (p0q1 : List Int) : runF Try.prog X I 0 fuel 7 Try.f7 [.d (.agg [(.ints .i64 p0q0), (.ints .i64 p0q1)])] =
  (bif szB p0q0 then
  (bif szB p0q1 then
  some ([.agg [((.ints .i64 p0q0), true), ((.ints .i64 p0q1), true)]], [])
  else
  none)
  else
  none) := by kernel_rfl
end laws_toArray
theorem laws_toArray.ok_of (hX : ∀ E ∈ laws_toArray.X, CallSpec Try.prog E) (h : ∀ (sh : List Int) (da : List Int), (szB sh && szB da) = true → ∃ fuel, runF Try.prog laws_toArray.X laws_toArray.I 0 fuel 7 Try.f7 [.d (.agg [(.ints .i64 sh), (.ints .i64 da)])] = some ([.agg [((.ints .i64 sh), true), ((.ints .i64 da), true)]], [])) : CallSpec Try.prog laws_toArray.E :=
  callSpec_of (d := 0) hX (by kernel_rfl) laws_toArray.I_ok (by kernel_rfl) (by kernel_rfl) (by kernel_rfl) (fun _ _ _ _ h => by dsimp only [laws_toArray.E] at h; cases h) (fun xs hp => by
    dsimp only [laws_toArray.E] at hp ⊢
    split at hp
    · exact h _ _ hp
    · cases hp)
theorem laws_toArray.ok : CallSpec Try.prog laws_toArray.E := laws_toArray.ok_of (by simp [laws_toArray.X, laws_toIntS.ok]) fun sh da h => ⟨0, by
  simp only [Bool.and_eq_true] at h
  rw [laws_toArray.e, h.1, h.2]
  rfl⟩

namespace spec_inRange
noncomputable def E : Entry := ⟨43, true, false, fun | [.d (.int .i64 v), .d (.int .i64 lo), .d (.int .i64 hi)] => true | _ => false, fun | [.d (.int .i64 v), .d (.int .i64 lo), .d (.int .i64 hi)] => ([.one ((.bool (decide (lo ≤ v) && decide (v ≤ hi))), false)], []) | _ => ([], []), fun _ => [], false, fun _ => none⟩
end spec_inRange
namespace spec_inRange
noncomputable def X : List Entry := []
noncomputable def I : List Inl := [⟨43, Try.f43, ⟨[], [], [], [], [], []⟩⟩]
theorem I_ok : ∀ i ∈ I, Try.prog.funcs[i.f]? = some i.fn ∧ (i.fn.name == "runtime.NumGoroutine") = false := by
  intro i hi
  simp only [I, List.mem_cons, List.not_mem_nil, or_false] at hi
  subst hi
  exact ⟨by kernel_rfl, by kernel_rfl⟩
theorem e (fuel : Nat) (p0 : Int) (p1 : Int) (p2 : Int) : runF Try.prog X I 0 fuel 43 Try.f43 [.d (.int .i64 p0), .d (.int .i64 p1), .d (.int .i64 p2)] =
  (bif (decide ((p1 : Int) ≤ p0)) then
  some ([.one ((.bool (decide ((p0 : Int) ≤ p2))), false)], [])
  else
  some ([.one ((.bool false), false)], [])) := by kernel_rfl
end spec_inRange
theorem spec_inRange.ok_of (hX : ∀ E ∈ spec_inRange.X, CallSpec Try.prog E) (h : ∀ (v : Int) (lo : Int) (hi : Int), (true) = true → ∃ fuel, runF Try.prog spec_inRange.X spec_inRange.I 0 fuel 43 Try.f43 [.d (.int .i64 v), .d (.int .i64 lo), .d (.int .i64 hi)] = some ([.one ((.bool (decide (lo ≤ v) && decide (v ≤ hi))), false)], [])) : CallSpec Try.prog spec_inRange.E :=
  callSpec_of (d := 0) hX (by kernel_rfl) spec_inRange.I_ok (by kernel_rfl) (by kernel_rfl) (by kernel_rfl) (fun _ _ _ _ h => by dsimp only [spec_inRange.E] at h; cases h) (fun xs hp => by
    dsimp only [spec_inRange.E] at hp ⊢
    split at hp
    · exact h _ _ _ hp
    · cases hp)
theorem spec_inRange.ok : CallSpec Try.prog spec_inRange.E := spec_inRange.ok_of (by simp [spec_inRange.X]) fun v lo hi _ => ⟨0, by
  rw [spec_inRange.e]
  cases decide (lo ≤ v) <;> rfl⟩

namespace spec_allIn
noncomputable def E : Entry := ⟨37, true, false, fun | [.d (.ints .i64 xs), .d (.int .i64 lo), .d (.int .i64 hi)] => decide (xs.length < 9223372036854775808) | _ => false, fun | [.d (.ints .i64 xs), .d (.int .i64 lo), .d (.int .i64 hi)] => ([.one ((.bool (allB xs lo hi)), false)], []) | _ => ([], []), fun _ => [], false, fun _ => none⟩
end spec_allIn
namespace spec_allIn
noncomputable def X : List Entry := [spec_inRange.E]
noncomputable def I : List Inl := [⟨37, Try.f37, ⟨[], [(1000002, [3, 4, 5, 6, 8, 9, 10, 11, 12, 13, 14, 15, 16, 17, 18, 19, 20, 21])], [], [], [], []⟩⟩]
theorem I_ok : ∀ i ∈ I, Try.prog.funcs[i.f]? = some i.fn ∧ (i.fn.name == "runtime.NumGoroutine") = false := by
  intro i hi
  simp only [I, List.mem_cons, List.not_mem_nil, or_false] at hi
  subst hi
  exact ⟨by kernel_rfl, by kernel_rfl⟩
noncomputable abbrev L0 (fuel n : Nat) (s : St) (k : Kont) := lAt Try.prog X I fuel true 0 false 37 (bodyOf Try.f37) [1, 0, 1, 0] n s k
noncomputable abbrev k0  (fuel : Nat) : Kont := (kAt Try.prog X I fuel true 0 false 37 (bodyOf Try.f37) [1, 0, 1, 0] [] (endK Try.prog Try.f37))
noncomputable def t0 (p0 : List Int) (p1 : Int) (p2 : Int) (x0q3 : Int) : St := ⟨[(.imm (.ints .i64 p0)), (.imm (.int .i64 p1)), (.imm (.int .i64 p2)), .dead, .dead, .dead, .dead, (.imm (.int .i64 x0q3)), .dead, .dead, .dead, .dead, .dead, .dead, .dead, .dead, .dead, .dead, .dead, .dead, .dead, .dead], hOf [], [], []⟩
theorem e (fuel : Nat) (p0 : List Int) (p1 : Int) (p2 : Int) : runF Try.prog X I 0 fuel 37 Try.f37 [.d (.ints .i64 p0), .d (.int .i64 p1), .d (.int .i64 p2)] =
  L0 fuel fuel (t0 p0 p1 p2 0) (k0  fuel) := by kernel_rfl
theorem s0 (fuel n0 : Nat) (p0 : List Int) (p1 : Int) (p2 : Int) (x0q3 : Int) : L0 fuel (n0 + 1) (t0 p0 p1 p2 x0q3) (k0  fuel) =
  (bif (decide ((x0q3 : Int) < ((p0.length : Nat) : Int))) then
  (idx x0q3 p0.length).bind fun j5 =>
  (p0[j5]?).bind fun v6 =>
  (bif (!(decide (p1 ≤ v6) && decide (v6 ≤ p2))) then
  some ([.one ((.bool false), false)], [])
  else
  L0 fuel n0 (t0 p0 p1 p2 ((IntKind.wrap .i64 (x0q3 + 1)))) (k0  fuel))
  else
  some ([.one ((.bool true), false)], [])) := by kernel_rfl
end spec_allIn
theorem spec_allIn.ok_of (hX : ∀ E ∈ spec_allIn.X, CallSpec Try.prog E) (h : ∀ (xs : List Int) (lo : Int) (hi : Int), (decide (xs.length < 9223372036854775808)) = true → ∃ fuel, runF Try.prog spec_allIn.X spec_allIn.I 0 fuel 37 Try.f37 [.d (.ints .i64 xs), .d (.int .i64 lo), .d (.int .i64 hi)] = some ([.one ((.bool (allB xs lo hi)), false)], [])) : CallSpec Try.prog spec_allIn.E :=
  callSpec_of (d := 0) hX (by kernel_rfl) spec_allIn.I_ok (by kernel_rfl) (by kernel_rfl) (by kernel_rfl) (fun _ _ _ _ h => by dsimp only [spec_allIn.E] at h; cases h) (fun xs hp => by
    dsimp only [spec_allIn.E] at hp ⊢
    split at hp
    · exact h _ _ _ hp
    · cases hp)
theorem spec_allIn.loop (fuel : Nat) (xs : List Int) (lo hi : Int) (hx : xs.length < 9223372036854775808) : ∀ (m n j : Nat), xs.length - j = m → m < n → j ≤ xs.length →
    spec_allIn.L0 fuel n (spec_allIn.t0 xs lo hi (j : Int)) (spec_allIn.k0 fuel) = some ([.one (.bool (allB (xs.drop j) lo hi), false)], []) := by
  intro m
  induction m with
  | zero =>
    intro n j h1 h2 h3
    obtain ⟨n, rfl⟩ : ∃ n', n = n' + 1 := ⟨n - 1, by omega⟩
    have hj : ¬ j < xs.length := by omega
    rw [spec_allIn.s0, dge hj, dropE hj]
    rfl
  | succ m ih =>
    intro n j h1 h2 h3
    obtain ⟨n, rfl⟩ : ∃ n', n = n' + 1 := ⟨n - 1, by omega⟩
    have hj : j < xs.length := by omega
    rw [spec_allIn.s0, dlt hj, idx_nat hj, w1 (by omega), dropS hj]
    simp only [cond_true, Option.bind_some, getS hj, allB_cons]
    rw [ih n (j + 1) (by omega) (by omega) (by omega)]
    cases decide (lo ≤ xs[j]) && decide (xs[j] ≤ hi) <;> rfl

theorem spec_allIn.ok : CallSpec Try.prog spec_allIn.E := spec_allIn.ok_of (by simp [spec_allIn.X, spec_inRange.ok]) fun xs lo hi h => by
  simp only [decide_eq_true_eq] at h
  refine ⟨xs.length + 1, ?_⟩
  rw [spec_allIn.e]
  exact spec_allIn.loop (xs.length + 1) xs lo hi h xs.length (xs.length + 1) 0 (by omega) (by omega) (by omega)

namespace spec_volume
noncomputable def E : Entry := ⟨36, true, false, fun | [.d (.ints .i64 xs)] => decide (xs.length < 9223372036854775808) | _ => false, fun | [.d (.ints .i64 xs)] => ([.one ((.int .i64 (volW xs)), false)], []) | _ => ([], []), fun _ => [], false, fun _ => none⟩
end spec_volume
namespace spec_volume
noncomputable def X : List Entry := []
noncomputable def I : List Inl := [⟨36, Try.f36, ⟨[], [(1000003, [1, 2, 5, 6, 7, 8, 9, 10, 11, 12, 13, 14, 15, 16, 17])], [], [], [], []⟩⟩]
theorem I_ok : ∀ i ∈ I, Try.prog.funcs[i.f]? = some i.fn ∧ (i.fn.name == "runtime.NumGoroutine") = false := by
  intro i hi
  simp only [I, List.mem_cons, List.not_mem_nil, or_false] at hi
  subst hi
  exact ⟨by kernel_rfl, by kernel_rfl⟩
noncomputable abbrev L0 (fuel n : Nat) (s : St) (k : Kont) := lAt Try.prog X I fuel true 0 false 36 (bodyOf Try.f36) [1, 1, 0, 1, 0] n s k
noncomputable abbrev k0  (fuel : Nat) : Kont := (kAt Try.prog X I fuel true 0 false 36 (bodyOf Try.f36) [1, 1, 0, 1, 0] [] (endK Try.prog Try.f36))
noncomputable def t0 (p0 : List Int) (x0q1 : Int) (x0q2 : Int) : St := ⟨[(.imm (.ints .i64 p0)), .dead, .dead, (.imm (.int .i64 x0q1)), (.imm (.int .i64 x0q2)), .dead, .dead, .dead, .dead, .dead, .dead, .dead, .dead, .dead, .dead, .dead, .dead, .dead], hOf [], [], []⟩
theorem e (fuel : Nat) (p0 : List Int) : runF Try.prog X I 0 fuel 36 Try.f36 [.d (.ints .i64 p0)] =
  L0 fuel fuel (t0 p0 1 0) (k0  fuel) := by kernel_rfl
theorem s0 (fuel n0 : Nat) (p0 : List Int) (x0q1 : Int) (x0q2 : Int) : L0 fuel (n0 + 1) (t0 p0 x0q1 x0q2) (k0  fuel) =
  (bif (decide ((x0q2 : Int) < ((p0.length : Nat) : Int))) then
  (idx x0q2 p0.length).bind fun j5 =>
  (p0[j5]?).bind fun v6 =>
  L0 fuel n0 (t0 p0 ((IntKind.wrap .i64 (x0q1 * v6))) ((IntKind.wrap .i64 (x0q2 + 1)))) (k0  fuel)
  else
  some ([.one ((.int .i64 x0q1), false)], [])) := by kernel_rfl
end spec_volume
theorem spec_volume.ok_of (hX : ∀ E ∈ spec_volume.X, CallSpec Try.prog E) (h : ∀ (xs : List Int), (decide (xs.length < 9223372036854775808)) = true → ∃ fuel, runF Try.prog spec_volume.X spec_volume.I 0 fuel 36 Try.f36 [.d (.ints .i64 xs)] = some ([.one ((.int .i64 (volW xs)), false)], [])) : CallSpec Try.prog spec_volume.E :=
  callSpec_of (d := 0) hX (by kernel_rfl) spec_volume.I_ok (by kernel_rfl) (by kernel_rfl) (by kernel_rfl) (fun _ _ _ _ h => by dsimp only [spec_volume.E] at h; cases h) (fun xs hp => by
    dsimp only [spec_volume.E] at hp ⊢
    split at hp
    · exact h _ hp
    · cases hp)
theorem spec_volume.loop (fuel : Nat) (xs : List Int) (hx : xs.length < 9223372036854775808) : ∀ (m n j : Nat) (a : Int), xs.length - j = m → m < n → j ≤ xs.length →
    spec_volume.L0 fuel n (spec_volume.t0 xs a (j : Int)) (spec_volume.k0 fuel) = some ([.one (.int .i64 (volFrom (xs.drop j) a), false)], []) := by
  intro m
  induction m with
  | zero =>
    intro n j a h1 h2 h3
    obtain ⟨n, rfl⟩ : ∃ n', n = n' + 1 := ⟨n - 1, by omega⟩
    have hj : ¬ j < xs.length := by omega
    rw [spec_volume.s0, dge hj, dropE hj]
    rfl
  | succ m ih =>
    intro n j a h1 h2 h3
    obtain ⟨n, rfl⟩ : ∃ n', n = n' + 1 := ⟨n - 1, by omega⟩
    have hj : j < xs.length := by omega
    rw [spec_volume.s0, dlt hj, idx_nat hj, w1 (by omega), dropS hj]
    simp only [cond_true, Option.bind_some, getS hj, volFrom]
    exact ih n (j + 1) _ (by omega) (by omega) (by omega)

theorem spec_volume.ok : CallSpec Try.prog spec_volume.E := spec_volume.ok_of (by simp [spec_volume.X]) fun xs h => by
  simp only [decide_eq_true_eq] at h
  refine ⟨xs.length + 1, ?_⟩
  rw [spec_volume.e]
  exact spec_volume.loop (xs.length + 1) xs h xs.length (xs.length + 1) 0 1 (by omega) (by omega) (by omega)

namespace spec_validShape
noncomputable def E : Entry := ⟨35, true, false, fun | [.d (.ints .i64 sh)] => decide (sh.length < 9223372036854775808) | _ => false, fun | [.d (.ints .i64 sh)] => ([.one ((.bool (validS sh)), false)], []) | _ => ([], []), fun _ => [], false, fun _ => none⟩
end spec_validShape
namespace spec_validShape
noncomputable def X : List Entry := [spec_allIn.E, spec_volume.E]
noncomputable def I : List Inl := [⟨35, Try.f35, ⟨[], [], [], [], [], []⟩⟩]
theorem I_ok : ∀ i ∈ I, Try.prog.funcs[i.f]? = some i.fn ∧ (i.fn.name == "runtime.NumGoroutine") = false := by
  intro i hi
  simp only [I, List.mem_cons, List.not_mem_nil, or_false] at hi
  subst hi
  exact ⟨by kernel_rfl, by kernel_rfl⟩
theorem e (fuel : Nat) (p0 : List Int) : runF Try.prog X I 0 fuel 35 Try.f35 [.d (.ints .i64 p0)] =
  (bif (decide ((((p0.length : Nat) : Int) : Int) ≤ 3)) then
  (bif decide (p0.length < 9223372036854775808) then
  (bif (allB p0 0 60) then
  (bif decide (p0.length < 9223372036854775808) then
  some ([.one ((.bool (decide (((volW p0) : Int) ≤ 60))), false)], [])
  else
  none)
  else
  some ([.one ((.bool false), false)], []))
  else
  none)
  else
  some ([.one ((.bool false), false)], [])) := by kernel_rfl
end spec_validShape
theorem spec_validShape.ok_of (hX : ∀ E ∈ spec_validShape.X, CallSpec Try.prog E) (h : ∀ (sh : List Int), (decide (sh.length < 9223372036854775808)) = true → ∃ fuel, runF Try.prog spec_validShape.X spec_validShape.I 0 fuel 35 Try.f35 [.d (.ints .i64 sh)] = some ([.one ((.bool (validS sh)), false)], [])) : CallSpec Try.prog spec_validShape.E :=
  callSpec_of (d := 0) hX (by kernel_rfl) spec_validShape.I_ok (by kernel_rfl) (by kernel_rfl) (by kernel_rfl) (fun _ _ _ _ h => by dsimp only [spec_validShape.E] at h; cases h) (fun xs hp => by
    dsimp only [spec_validShape.E] at hp ⊢
    split at hp
    · exact h _ hp
    · cases hp)
theorem spec_validShape.ok : CallSpec Try.prog spec_validShape.E := spec_validShape.ok_of (by simp [spec_validShape.X, spec_allIn.ok, spec_volume.ok]) fun sh h => ⟨0, by
  rw [spec_validShape.e, h]
  unfold validS
  cases decide (((sh.length : Nat) : Int) ≤ 3) <;> cases allB sh 0 60 <;> rfl⟩

namespace spec_valid
noncomputable def E : Entry := ⟨29, true, false, fun | [.d (.agg [(.ints .i64 sh), (.ints .i64 da)])] => decide (sh.length < 9223372036854775808) && decide (da.length < 9223372036854775808) | _ => false, fun | [.d (.agg [(.ints .i64 sh), (.ints .i64 da)])] => ([.one ((.bool (validA sh da)), false)], []) | _ => ([], []), fun _ => [], false, fun _ => none⟩
end spec_valid
namespace spec_valid
noncomputable def X : List Entry := [spec_validShape.E, spec_volume.E, spec_allIn.E]
noncomputable def I : List Inl := [⟨29, Try.f29, ⟨[], [], [], [(1, [0, 1, 2, 3, 4, 7, 5, 6, 8, 9, 10, 11, 12, 13, 14, 15, 16, 17])], [], []⟩⟩]
theorem I_ok : ∀ i ∈ I, Try.prog.funcs[i.f]? = some i.fn ∧ (i.fn.name == "runtime.NumGoroutine") = false := by
  intro i hi
  simp only [I, List.mem_cons, List.not_mem_nil, or_false] at hi
  subst hi
  exact ⟨by kernel_rfl, by kernel_rfl⟩
theorem e (fuel : Nat) (p0q0 : List Int) (p0q1 : List Int) : runF Try.prog X I 0 fuel 29 Try.f29 [.d (.agg [(.ints .i64 p0q0), (.ints .i64 p0q1)])] =
  (bif decide (p0q0.length < 9223372036854775808) then
  (bif (validS p0q0) then
  (bif decide (p0q0.length < 9223372036854775808) then
  (bif ((((p0q1.length : Nat) : Int) : Int) == (volW p0q0)) then
  (bif decide (p0q1.length < 9223372036854775808) then
  some ([.one ((.bool (allB p0q1 ((-1000000)) 1000000)), false)], [])
  else
  none)
  else
  some ([.one ((.bool false), false)], []))
  else
  none)
  else
  some ([.one ((.bool false), false)], []))
  else
  none) := by kernel_rfl
end spec_valid
theorem spec_valid.ok_of (hX : ∀ E ∈ spec_valid.X, CallSpec Try.prog E) (h : ∀ (sh : List Int) (da : List Int), (decide (sh.length < 9223372036854775808) && decide (da.length < 9223372036854775808)) = true → ∃ fuel, runF Try.prog spec_valid.X spec_valid.I 0 fuel 29 Try.f29 [.d (.agg [(.ints .i64 sh), (.ints .i64 da)])] = some ([.one ((.bool (validA sh da)), false)], [])) : CallSpec Try.prog spec_valid.E :=
  callSpec_of (d := 0) hX (by kernel_rfl) spec_valid.I_ok (by kernel_rfl) (by kernel_rfl) (by kernel_rfl) (fun _ _ _ _ h => by dsimp only [spec_valid.E] at h; cases h) (fun xs hp => by
    dsimp only [spec_valid.E] at hp ⊢
    split at hp
    · exact h _ _ hp
    · cases hp)
theorem spec_valid.ok : CallSpec Try.prog spec_valid.E := spec_valid.ok_of (by simp [spec_valid.X, spec_validShape.ok, spec_volume.ok, spec_allIn.ok]) fun sh da h => ⟨0, by
  simp only [Bool.and_eq_true] at h
  rw [spec_valid.e, h.1, h.2]
  unfold validA
  cases validS sh <;> cases (((da.length : Nat) : Int) == volW sh) <;> rfl⟩

namespace spec_isVector
noncomputable def E : Entry := ⟨15, true, false, fun | [.d (.agg [(.ints .i64 sh), (.ints .i64 da)])] => decide (sh.length < 9223372036854775808) && decide (da.length < 9223372036854775808) | _ => false, fun | [.d (.agg [(.ints .i64 sh), (.ints .i64 da)])] => ([.one ((.bool (vcB sh da)), false)], []) | _ => ([], []), fun _ => [], false, fun _ => none⟩
end spec_isVector
namespace spec_isVector
noncomputable def X : List Entry := [spec_valid.E]
noncomputable def I : List Inl := [⟨15, Try.f15, ⟨[], [], [], [], [], []⟩⟩]
theorem I_ok : ∀ i ∈ I, Try.prog.funcs[i.f]? = some i.fn ∧ (i.fn.name == "runtime.NumGoroutine") = false := by
  intro i hi
  simp only [I, List.mem_cons, List.not_mem_nil, or_false] at hi
  subst hi
  exact ⟨by kernel_rfl, by kernel_rfl⟩
theorem e (fuel : Nat) (p0q0 : List Int) (p0q1 : List Int) : runF Try.prog X I 0 fuel 15 Try.f15 [.d (.agg [(.ints .i64 p0q0), (.ints .i64 p0q1)])] =
  (bif decide (p0q0.length < 9223372036854775808) && decide (p0q1.length < 9223372036854775808) then
  (bif (validA p0q0 p0q1) then
  some ([.one ((.bool ((((p0q0.length : Nat) : Int) : Int) == 1)), false)], [])
  else
  some ([.one ((.bool false), false)], []))
  else
  none) := by kernel_rfl
end spec_isVector
theorem spec_isVector.ok_of (hX : ∀ E ∈ spec_isVector.X, CallSpec Try.prog E) (h : ∀ (sh : List Int) (da : List Int), (decide (sh.length < 9223372036854775808) && decide (da.length < 9223372036854775808)) = true → ∃ fuel, runF Try.prog spec_isVector.X spec_isVector.I 0 fuel 15 Try.f15 [.d (.agg [(.ints .i64 sh), (.ints .i64 da)])] = some ([.one ((.bool (vcB sh da)), false)], [])) : CallSpec Try.prog spec_isVector.E :=
  callSpec_of (d := 0) hX (by kernel_rfl) spec_isVector.I_ok (by kernel_rfl) (by kernel_rfl) (by kernel_rfl) (fun _ _ _ _ h => by dsimp only [spec_isVector.E] at h; cases h) (fun xs hp => by
    dsimp only [spec_isVector.E] at hp ⊢
    split at hp
    · exact h _ _ hp
    · cases hp)
theorem spec_isVector.ok : CallSpec Try.prog spec_isVector.E := spec_isVector.ok_of (by simp [spec_isVector.X, spec_valid.ok]) fun sh da h => ⟨0, by
  rw [spec_isVector.e, h]
  unfold vcB
  cases validA sh da with
  | false => rfl
  | true =>
    rw [show ((((sh.length : Nat) : Int)) == 1) = decide (sh.length = 1) by by_cases h : sh.length = 1 <;> simp [h]; omega]
    rfl⟩

namespace spec_grade
noncomputable def E : Entry := ⟨17, false, false, fun | [.d (.ints .i64 xs)] => decide ((xs : List Int).length ≤ 60) | _ => false, fun | [.d (.ints .i64 xs)] => ([.one ((.ints .i64 (grN xs (xs : List Int).length)), true)], []) | _ => ([], []), fun _ => [], true, fun _ => none⟩
end spec_grade
namespace spec_grade
noncomputable def X : List Entry := []
noncomputable def I : List Inl := [⟨17, Try.f17, ⟨[], [(1000003, [1, 2, 5, 6, 7, 8, 9, 10, 11, 12, 13, 14, 15, 16, 17, 18, 19, 20, 21, 22, 23, 24, 25, 26, 27, 28, 29, 30, 31, 32, 33, 34, 35, 36, 37, 38, 39, 40, 41, 42, 43, 44, 45, 46, 47, 48, 49, 50, 51, 52, 53, 54, 55, 56, 57, 58, 59, 60]), (1000007, [1, 2, 6, 7, 8, 9, 10, 11, 12, 13, 14, 15, 16, 17, 18, 19, 20, 21, 22, 23, 24, 25, 26, 27, 28, 29, 30, 31, 32, 33, 34, 35, 36, 37, 38, 39, 40, 41, 42, 43, 44, 45, 46, 47, 48, 49, 50, 51, 52, 53, 54, 55, 56, 57, 58, 59, 60])], [], [(7, [0, 1, 2, 3, 4, 5, 10, 11, 12, 13, 6, 7, 8, 9, 14, 15, 16, 17, 18, 19])], [], []⟩⟩]
theorem I_ok : ∀ i ∈ I, Try.prog.funcs[i.f]? = some i.fn ∧ (i.fn.name == "runtime.NumGoroutine") = false := by
  intro i hi
  simp only [I, List.mem_cons, List.not_mem_nil, or_false] at hi
  subst hi
  exact ⟨by kernel_rfl, by kernel_rfl⟩
noncomputable abbrev L0 (fuel n : Nat) (s : St) (k : Kont) := lAt Try.prog X I fuel true 0 false 17 (bodyOf Try.f17) [1, 1, 0, 1, 0] n s k
noncomputable abbrev k0  (fuel : Nat) : Kont := (kAt Try.prog X I fuel true 0 false 17 (bodyOf Try.f17) [1, 1, 0, 1, 0] [] (endK Try.prog Try.f17))
noncomputable def t0 (p0 : List Int) (x0q1 : Int) (x0q2 : List Int) : St := ⟨[(.imm (.ints .i64 p0)), .dead, .dead, (.all 1000000000 1), (.imm (.int .i64 x0q1)), .dead, .dead, .dead, .dead, .dead, .dead, .dead, .dead, .dead, .dead, .dead, .dead, .dead, .dead, .dead, .dead, .dead, .dead, .dead, .dead, .dead, .dead, .dead, .dead, .dead, .dead, .dead, .dead, .dead, .dead, .dead, .dead, .dead, .dead, .dead, .dead, .dead, .dead, .dead, .dead, .dead, .dead, .dead, .dead, .dead, .dead, .dead, .dead, .dead, .dead, .dead, .dead, .dead, .dead, .dead, .dead], hOf [(1000000000, (.ints .i64 x0q2))], [], []⟩
noncomputable abbrev L1 (fuel n : Nat) (s : St) (k : Kont) := lAt Try.prog X I fuel true 0 false 17 (bodyOf Try.f17) [1, 1, 0, 1, 0, 0, 1, 0, 0, 1, 1, 0] n s k
noncomputable abbrev k1 (n0 : Nat) (fuel : Nat) : Kont := (kAt Try.prog X I fuel true 0 false 17 (bodyOf Try.f17) [1, 1, 0, 1, 0, 0, 1, 0, 0, 1, 1, 0] [n0] (endK Try.prog Try.f17))
noncomputable def t1 (p0 : List Int) (x0q1 : Int) (x1q2 : Int) (x1q3 : List Int) : St := ⟨[(.imm (.ints .i64 p0)), .dead, .dead, (.all 1000000000 1), (.imm (.int .i64 x0q1)), (.imm (.int .i64 x1q2)), .dead, .dead, .dead, .dead, .dead, .dead, .dead, .dead, .dead, .dead, .dead, .dead, .dead, .dead, .dead, .dead, .dead, .dead, .dead, .dead, .dead, .dead, .dead, .dead, .dead, .dead, .dead, .dead, .dead, .dead, .dead, .dead, .dead, .dead, .dead, .dead, .dead, .dead, .dead, .dead, .dead, .dead, .dead, .dead, .dead, .dead, .dead, .dead, .dead, .dead, .dead, .dead, .dead, .dead, .dead], hOf [(1000000000, (.ints .i64 x1q3))], [], []⟩
theorem e (fuel : Nat) (p0 : List Int) : runF Try.prog X I 0 fuel 17 Try.f17 [.d (.ints .i64 p0)] =
  L0 fuel fuel (t0 p0 0 ([])) (k0  fuel) := by kernel_rfl
theorem s0 (fuel n0 : Nat) (p0 : List Int) (x0q1 : Int) (x0q2 : List Int) : L0 fuel (n0 + 1) (t0 p0 x0q1 x0q2) (k0  fuel) =
  (bif (decide ((x0q1 : Int) < ((p0.length : Nat) : Int))) then
  (bif fits (x0q2.length + ([x0q1] : List Int).length) 8 then
  L1 fuel fuel (t1 p0 x0q1 ((IntKind.wrap .i64 ((((x0q2 ++ [x0q1]).length : Nat) : Int) - 1))) ((x0q2 ++ [x0q1]))) (k1 n0 fuel)
  else
  none)
  else
  some ([.one ((.ints .i64 x0q2), true)], [])) := by kernel_rfl
theorem s1 (fuel n0 n1 : Nat) (p0 : List Int) (x0q1 : Int) (x1q2 : Int) (x1q3 : List Int) : L1 fuel (n1 + 1) (t1 p0 x0q1 x1q2 x1q3) (k1 n0 fuel) =
  (bif (decide ((x1q2 : Int) > 0)) then
  (idx x1q2 x1q3.length).bind fun j85 =>
  (x1q3[j85]?).bind fun v86 =>
  (idx v86 p0.length).bind fun j87 =>
  (p0[j87]?).bind fun v88 =>
  (idx (IntKind.wrap .i64 (x1q2 - 1)) x1q3.length).bind fun j89 =>
  (x1q3[j89]?).bind fun v90 =>
  (idx v90 p0.length).bind fun j91 =>
  (p0[j91]?).bind fun v92 =>
  (bif (decide ((v88 : Int) < v92)) then
  (idx x1q2 x1q3.length).bind fun j93 =>
  (x1q3[j93]?).bind fun v94 =>
  (idx (IntKind.wrap .i64 (x1q2 - 1)) x1q3.length).bind fun j95 =>
  (x1q3[j95]?).bind fun v96 =>
  (idx x1q2 x1q3.length).bind fun j97 =>
  (bif decide (j97 < x1q3.length) then
  (idx (IntKind.wrap .i64 (x1q2 - 1)) (x1q3.set j97 v96).length).bind fun j98 =>
  (bif decide (j98 < (x1q3.set j97 v96).length) then
  L1 fuel n1 (t1 p0 x0q1 ((IntKind.wrap .i64 (x1q2 - 1))) (((x1q3.set j97 v96).set j98 v94))) (k1 n0 fuel)
  else
  none)
  else
  none)
  else
  L0 fuel n0 (t0 p0 ((IntKind.wrap .i64 (x0q1 + 1))) x1q3) (k0  fuel))
  else
  L0 fuel n0 (t0 p0 ((IntKind.wrap .i64 (x0q1 + 1))) x1q3) (k0  fuel)) := by kernel_rfl
end spec_grade
theorem spec_grade.ok_of (hX : ∀ E ∈ spec_grade.X, CallSpec Try.prog E) (h : ∀ (xs : List Int), (decide ((xs : List Int).length ≤ 60)) = true → ∃ fuel, runF Try.prog spec_grade.X spec_grade.I 0 fuel 17 Try.f17 [.d (.ints .i64 xs)] = some ([.one ((.ints .i64 (grN xs (xs : List Int).length)), true)], [])) : CallSpec Try.prog spec_grade.E :=
  callSpec_of (d := 0) hX (by kernel_rfl) spec_grade.I_ok (by kernel_rfl) (by kernel_rfl) (by kernel_rfl) (fun _ _ _ _ h => by dsimp only [spec_grade.E] at h; cases h) (fun xs hp => by
    dsimp only [spec_grade.E] at hp ⊢
    split at hp
    · exact h _ hp
    · cases hp)
theorem spec_grade.inner (fuel n0 : Nat) (da : List Int) (i : Int) : ∀ (k n : Nat) (xs : List Int), k < n → k < xs.length → xs.length ≤ 60 → (∀ x ∈ xs, 0 ≤ x ∧ x < ((da.length : Nat) : Int)) →
    spec_grade.L1 fuel n (spec_grade.t1 da i (k : Int) xs) (spec_grade.k1 n0 fuel) = spec_grade.L0 fuel n0 (spec_grade.t0 da (IntKind.wrap .i64 (i + 1)) (bubA (ltD da) 0 k xs)) (spec_grade.k0 fuel) := by
  intro k
  induction k with
  | zero =>
    intro n xs h1 h2 h3 h4
    obtain ⟨n, rfl⟩ : ∃ n', n = n' + 1 := ⟨n - 1, by omega⟩
    rw [spec_grade.s1, decide_eq_false (by omega)]
    rfl
  | succ k ih =>
    intro n xs h1 h2 h3 h4
    obtain ⟨n, rfl⟩ : ∃ n', n = n' + 1 := ⟨n - 1, by omega⟩
    have hk : k < xs.length := by omega
    have e1 : IntKind.wrap .i64 (((k + 1 : Nat) : Int) - 1) = (k : Int) := by rw [wS (by omega) (by omega)]; omega
    have m1 := h4 _ (mem_getD h2)
    have m0 := h4 _ (mem_getD hk)
    obtain ⟨u, hu⟩ : ∃ u : Nat, xs.getD (k + 1) 0 = u := ⟨(xs.getD (k + 1) 0).toNat, by omega⟩
    obtain ⟨v, hv⟩ : ∃ v : Nat, xs.getD k 0 = v := ⟨(xs.getD k 0).toNat, by omega⟩
    have hul : u < da.length := by omega
    have hvl : v < da.length := by omega
    rw [spec_grade.s1, decide_eq_true (by omega), cond_true, e1, idx_nat h2, idx_nat hk]
    simp only [Option.bind_some, getD_get h2, getD_get hk, hu, hv]
    rw [idx_nat hul, idx_nat hvl]
    simp only [Option.bind_some, getD_get hul, getD_get hvl]
    rw [decide_eq_true h2, cond_true, List.length_set, idx_nat hk]
    simp only [Option.bind_some, List.length_set]
    rw [decide_eq_true hk, cond_true]
    simp only [bubA, Nat.zero_add, hu, hv]
    rw [show ltD da (u : Int) (v : Int) = decide (da.getD u 0 < da.getD v 0) from rfl]
    cases decide (da.getD u 0 < da.getD v 0) with
    | false => rfl
    | true =>
      simp only [cond_true]
      refine ih n _ (by omega) (by simp only [List.length_set]; omega) (by simp only [List.length_set]; omega) fun y hy => ?_
      rcases List.mem_or_eq_of_mem_set hy with h5 | rfl
      · rcases List.mem_or_eq_of_mem_set h5 with h6 | rfl
        · exact h4 y h6
        · omega
      · omega
theorem spec_grade.ok : CallSpec Try.prog spec_grade.E := spec_grade.ok_of (by simp [spec_grade.X]) fun da h => by
  obtain ⟨F, hF⟩ : ∃ F : Nat, 100 < F := ⟨101, by omega⟩
  refine ⟨F, ?_⟩
  simp only [decide_eq_true_eq] at h
  rw [spec_grade.e]
  refine run_loop (N := da.length) (fun n i (ys : List Int) => spec_grade.L0 F n (spec_grade.t0 da (i : Int) ys) (spec_grade.k0 F)) (fun i ys => ys = grN da i) ?_ ?_ F 0 [] (by omega) (by omega) rfl
  · rintro n ys rfl
    rw [spec_grade.s0, dge (by omega)]
    rfl
  · rintro n i ys hi rfl
    refine ⟨_, rfl, ?_⟩
    have hl := grN_length da i
    have hl2 : (grN da i ++ [(i : Int)]).length = i + 1 := by rw [List.length_append, hl]; rfl
    rw [spec_grade.s0, dlt hi, cond_true, fitsOk (by simp only [hl, List.length_cons, List.length_nil]; omega), cond_true, hl2, wS (x := ((i + 1 : Nat) : Int) - 1) (by omega) (by omega), show ((i + 1 : Nat) : Int) - 1 = (i : Int) by omega]
    rw [spec_grade.inner F n da (i : Int) i F _ (by omega) (by omega) (by omega) (fun x hx => by
      rw [List.mem_append, List.mem_singleton] at hx
      rcases hx with hx | rfl
      · have := grN_mem.1 hx
        omega
      · omega), w1 (by omega)]
    rfl

namespace spec_copyInts
noncomputable def E : Entry := ⟨38, false, false, fun | [.d (.ints .i64 xs)] => szB xs | _ => false, fun | [.d (.ints .i64 xs)] => ([.one ((.ints .i64 xs), true)], []) | _ => ([], []), fun _ => [], true, fun _ => none⟩
end spec_copyInts
namespace spec_copyInts
noncomputable def X : List Entry := []
noncomputable def I : List Inl := [⟨38, Try.f38, ⟨[], [], [], [], [], []⟩⟩]
theorem I_ok : ∀ i ∈ I, Try.prog.funcs[i.f]? = some i.fn ∧ (i.fn.name == "runtime.NumGoroutine") = false := by
  intro i hi
  simp only [I, List.mem_cons, List.not_mem_nil, or_false] at hi
  subst hi
  exact ⟨by kernel_rfl, by kernel_rfl⟩
theorem e (fuel : Nat) (p0 : List Int) : runF Try.prog X I 0 fuel 38 Try.f38 [.d (.ints .i64 p0)] =
  (bif fits (([] : List Int).length + p0.length) 8 then
  some ([.one ((.ints .i64 (([] : List Int) ++ p0)), true)], [])
  else
  none) := by kernel_rfl
end spec_copyInts
theorem spec_copyInts.ok_of (hX : ∀ E ∈ spec_copyInts.X, CallSpec Try.prog E) (h : ∀ (xs : List Int), (szB xs) = true → ∃ fuel, runF Try.prog spec_copyInts.X spec_copyInts.I 0 fuel 38 Try.f38 [.d (.ints .i64 xs)] = some ([.one ((.ints .i64 xs), true)], [])) : CallSpec Try.prog spec_copyInts.E :=
  callSpec_of (d := 0) hX (by kernel_rfl) spec_copyInts.I_ok (by kernel_rfl) (by kernel_rfl) (by kernel_rfl) (fun _ _ _ _ h => by dsimp only [spec_copyInts.E] at h; cases h) (fun xs hp => by
    dsimp only [spec_copyInts.E] at hp ⊢
    split at hp
    · exact h _ hp
    · cases hp)
theorem spec_copyInts.ok : CallSpec Try.prog spec_copyInts.E := spec_copyInts.ok_of (by simp [spec_copyInts.X]) fun xs h => ⟨0, by
  have hx := szB_le h
  rw [spec_copyInts.e, fitsOk (by simp; omega)]
  rfl⟩

namespace spec_make1
noncomputable def E : Entry := ⟨30, false, false, fun | [.d (.ints .i64 sh), .d (.ints .i64 da)] => szB sh && szB da | _ => false, fun | [.d (.ints .i64 sh), .d (.ints .i64 da)] => ([.agg [((.ints .i64 sh), true), ((.ints .i64 da), true)]], []) | _ => ([], []), fun _ => [], true, fun _ => none⟩
end spec_make1
namespace spec_make1
noncomputable def X : List Entry := [spec_copyInts.E]
noncomputable def I : List Inl := [⟨30, Try.f30, ⟨[6, 8], [], [], [], [], []⟩⟩]
theorem I_ok : ∀ i ∈ I, Try.prog.funcs[i.f]? = some i.fn ∧ (i.fn.name == "runtime.NumGoroutine") = false := by
  intro i hi
  simp only [I, List.mem_cons, List.not_mem_nil, or_false] at hi
  subst hi
  exact ⟨by kernel_rfl, by kernel_rfl⟩
theorem e (fuel : Nat) (p0 : List Int) (p1 : List Int) : runF Try.prog X I 0 fuel 30 Try.f30 [.d (.ints .i64 p0), .d (.ints .i64 p1)] =
  (bif szB p0 then
  (bif szB p1 then
  some ([.agg [((.ints .i64 p0), true), ((.ints .i64 p1), true)]], [])
  else
  none)
  else
  none) := by kernel_rfl
end spec_make1
theorem spec_make1.ok_of (hX : ∀ E ∈ spec_make1.X, CallSpec Try.prog E) (h : ∀ (sh : List Int) (da : List Int), (szB sh && szB da) = true → ∃ fuel, runF Try.prog spec_make1.X spec_make1.I 0 fuel 30 Try.f30 [.d (.ints .i64 sh), .d (.ints .i64 da)] = some ([.agg [((.ints .i64 sh), true), ((.ints .i64 da), true)]], [])) : CallSpec Try.prog spec_make1.E :=
  callSpec_of (d := 0) hX (by kernel_rfl) spec_make1.I_ok (by kernel_rfl) (by kernel_rfl) (by kernel_rfl) (fun _ _ _ _ h => by dsimp only [spec_make1.E] at h; cases h) (fun xs hp => by
    dsimp only [spec_make1.E] at hp ⊢
    split at hp
    · exact h _ _ hp
    · cases hp)
theorem spec_make1.ok : CallSpec Try.prog spec_make1.E := spec_make1.ok_of (by simp [spec_make1.X, spec_copyInts.ok]) fun sh da h => ⟨0, by
  simp only [Bool.and_eq_true] at h
  rw [spec_make1.e, h.1, h.2]
  rfl⟩

namespace spec_vector
noncomputable def E : Entry := ⟨16, false, false, fun | [.d (.ints .i64 xs)] => szB xs | _ => false, fun | [.d (.ints .i64 xs)] => ([.agg [((.ints .i64 [((xs.length : Nat) : Int)]), true), ((.ints .i64 xs), true)]], []) | _ => ([], []), fun _ => [], true, fun _ => none⟩
end spec_vector
namespace spec_vector
noncomputable def X : List Entry := [spec_make1.E]
noncomputable def I : List Inl := [⟨16, Try.f16, ⟨[7], [], [], [], [5], []⟩⟩]
theorem I_ok : ∀ i ∈ I, Try.prog.funcs[i.f]? = some i.fn ∧ (i.fn.name == "runtime.NumGoroutine") = false := by
  intro i hi
  simp only [I, List.mem_cons, List.not_mem_nil, or_false] at hi
  subst hi
  exact ⟨by kernel_rfl, by kernel_rfl⟩
theorem e (fuel : Nat) (p0 : List Int) : runF Try.prog X I 0 fuel 16 Try.f16 [.d (.ints .i64 p0)] =
  (bif szB (([((p0.length : Nat) : Int)] : List Int)) && szB p0 then
  some ([.agg [((.ints .i64 (([((p0.length : Nat) : Int)] : List Int))), true), ((.ints .i64 p0), true)]], [])
  else
  none) := by kernel_rfl
end spec_vector
theorem spec_vector.ok_of (hX : ∀ E ∈ spec_vector.X, CallSpec Try.prog E) (h : ∀ (xs : List Int), (szB xs) = true → ∃ fuel, runF Try.prog spec_vector.X spec_vector.I 0 fuel 16 Try.f16 [.d (.ints .i64 xs)] = some ([.agg [((.ints .i64 [((xs.length : Nat) : Int)]), true), ((.ints .i64 xs), true)]], [])) : CallSpec Try.prog spec_vector.E :=
  callSpec_of (d := 0) hX (by kernel_rfl) spec_vector.I_ok (by kernel_rfl) (by kernel_rfl) (by kernel_rfl) (fun _ _ _ _ h => by dsimp only [spec_vector.E] at h; cases h) (fun xs hp => by
    dsimp only [spec_vector.E] at hp ⊢
    split at hp
    · exact h _ hp
    · cases hp)
theorem spec_vector.ok : CallSpec Try.prog spec_vector.E := spec_vector.ok_of (by simp [spec_vector.X, spec_make1.ok]) fun xs h => ⟨0, by
  rw [spec_vector.e, h, szB_of (by simp)]
  rfl⟩

namespace spec_GradeUp
noncomputable def E : Entry := ⟨6, false, false, fun | [.d (.agg [(.ints .i64 sh), (.ints .i64 da)])] => decide (sh.length < 9223372036854775808) && decide (da.length < 9223372036854775808) | _ => false, fun | [.d (.agg [(.ints .i64 sh), (.ints .i64 da)])] => ([.agg [((.ints .i64 (guS sh da)), true), ((.ints .i64 (guD sh da)), true)]], []) | _ => ([], []), fun _ => [], true, fun _ => none⟩
end spec_GradeUp
namespace spec_GradeUp
noncomputable def X : List Entry := [spec_isVector.E, spec_grade.E, spec_vector.E]
noncomputable def I : List Inl := [⟨6, Try.f6, ⟨[9, 10], [], [], [], [], []⟩⟩]
theorem I_ok : ∀ i ∈ I, Try.prog.funcs[i.f]? = some i.fn ∧ (i.fn.name == "runtime.NumGoroutine") = false := by
  intro i hi
  simp only [I, List.mem_cons, List.not_mem_nil, or_false] at hi
  subst hi
  exact ⟨by kernel_rfl, by kernel_rfl⟩
theorem e (fuel : Nat) (p0q0 : List Int) (p0q1 : List Int) : runF Try.prog X I 0 fuel 6 Try.f6 [.d (.agg [(.ints .i64 p0q0), (.ints .i64 p0q1)])] =
  (bif decide (p0q0.length < 9223372036854775808) && decide (p0q1.length < 9223372036854775808) then
  (bif (!(vcB p0q0 p0q1)) then
  some ([.agg [((.ints .i64 []), true), ((.ints .i64 []), true)]], [])
  else
  (bif decide ((p0q1 : List Int).length ≤ 60) then
  (bif szB ((grN p0q1 (p0q1 : List Int).length)) then
  some ([.agg [((.ints .i64 [((((grN p0q1 (p0q1 : List Int).length)).length : Nat) : Int)]), true), ((.ints .i64 ((grN p0q1 (p0q1 : List Int).length))), true)]], [])
  else
  none)
  else
  none))
  else
  none) := by kernel_rfl
end spec_GradeUp
theorem spec_GradeUp.ok_of (hX : ∀ E ∈ spec_GradeUp.X, CallSpec Try.prog E) (h : ∀ (sh : List Int) (da : List Int), (decide (sh.length < 9223372036854775808) && decide (da.length < 9223372036854775808)) = true → ∃ fuel, runF Try.prog spec_GradeUp.X spec_GradeUp.I 0 fuel 6 Try.f6 [.d (.agg [(.ints .i64 sh), (.ints .i64 da)])] = some ([.agg [((.ints .i64 (guS sh da)), true), ((.ints .i64 (guD sh da)), true)]], [])) : CallSpec Try.prog spec_GradeUp.E :=
  callSpec_of (d := 0) hX (by kernel_rfl) spec_GradeUp.I_ok (by kernel_rfl) (by kernel_rfl) (by kernel_rfl) (fun _ _ _ _ h => by dsimp only [spec_GradeUp.E] at h; cases h) (fun xs hp => by
    dsimp only [spec_GradeUp.E] at hp ⊢
    split at hp
    · exact h _ _ hp
    · cases hp)
theorem spec_GradeUp.ok : CallSpec Try.prog spec_GradeUp.E := spec_GradeUp.ok_of (by simp [spec_GradeUp.X, spec_isVector.ok, spec_grade.ok, spec_vector.ok]) fun sh da h => ⟨0, by
  rw [spec_GradeUp.e, h]
  unfold guS guD
  cases hb : vcB sh da with
  | false => rfl
  | true =>
    obtain ⟨_, _, hl, _⟩ := vcB_inv hb
    have hg := grN_length da da.length
    rw [decide_eq_true hl, szB_of (xs := grN da da.length) (by omega), hg]
    rfl⟩

namespace impl_layoutOf
noncomputable def E : Entry := ⟨39, false, false, fun | [.d (.ints .i64 sh)] => decide (sh.length < 9223372036854775808) | _ => false, fun | [.d (.ints .i64 sh)] => ([.agg [((.ints .i64 nilI), true), ((.int .i64 0), false), ((.int .i64 0), false), ((.int .i64 0), false), ((.int .i64 0), false)], .one ((.bool false), false)], []) | _ => ([], []), fun | [.d (.ints .i64 sh)] => [(validS sh, ([.agg [((.ints .i64 sh), false), ((.int .i64 (strd sh 0)), false), ((.int .i64 (strd sh 1)), false), ((.int .i64 (strd sh 2)), false), ((.int .i64 (volW sh)), false)], .one ((.bool true), false)], []))] | _ => [], true, fun _ => none⟩
end impl_layoutOf
namespace impl_layoutOf
noncomputable def X : List Entry := []
noncomputable def I : List Inl := [⟨39, Try.f39, ⟨[], [(1000005, [1, 3, 6, 7, 8, 9, 10, 11, 12, 13, 14, 15, 16, 17, 18, 19, 20, 21, 22, 23, 24, 25, 26, 27, 28, 29, 30, 31, 32, 33, 34, 35, 36, 37, 38, 39, 40, 41, 42, 43, 44, 45, 46, 47, 48, 49])], [], [(10, [0, 2, 3, 1, 4, 5, 6, 7, 8])], [], []⟩⟩]
theorem I_ok : ∀ i ∈ I, Try.prog.funcs[i.f]? = some i.fn ∧ (i.fn.name == "runtime.NumGoroutine") = false := by
  intro i hi
  simp only [I, List.mem_cons, List.not_mem_nil, or_false] at hi
  subst hi
  exact ⟨by kernel_rfl, by kernel_rfl⟩
noncomputable abbrev L0 (fuel n : Nat) (s : St) (k : Kont) := lAt Try.prog X I fuel true 0 false 39 (bodyOf Try.f39) [1, 1, 1, 0, 1, 0] n s k
noncomputable abbrev k0  (fuel : Nat) : Kont := (kAt Try.prog X I fuel true 0 false 39 (bodyOf Try.f39) [1, 1, 1, 0, 1, 0] [] (endK Try.prog Try.f39))
noncomputable def t0 (p0 : List Int) (x0q1 : Int) (x0q7 : Int) (x0q8 : Int) (x0q9 : Int) (x0q10 : Int) : St := ⟨[(.imm (.ints .i64 p0)), .dead, (.ptr 1000000000 0 0), .dead, (.ptr 1000000001 0 0), (.imm (.int .i64 x0q1)), .dead, .dead, .dead, .dead, .dead, .dead, .dead, .dead, .dead, .dead, .dead, .dead, .dead, .dead, .dead, .dead, .dead, .dead, .dead, .dead, .dead, .dead, .dead, .dead, .dead, .dead, .dead, .dead, .dead, .dead, .dead, .dead, .dead, .dead, .dead, .dead, .dead, .dead, .dead, .dead, .dead, .dead, .dead, .dead], hOf [(1000000000, (.box [(.imm .nils), (.imm (.int .i64 0)), (.imm (.int .i64 0)), (.imm (.int .i64 0)), (.imm (.int .i64 0))])), (1000000001, (.box [(.imm (.ints .i64 p0)), (.imm (.int .i64 x0q7)), (.imm (.int .i64 x0q8)), (.imm (.int .i64 x0q9)), (.imm (.int .i64 x0q10))]))], [], []⟩
theorem e (fuel : Nat) (p0 : List Int) : runF Try.prog X I 0 fuel 39 Try.f39 [.d (.ints .i64 p0)] =
  (bif (decide ((((p0.length : Nat) : Int) : Int) > 3)) then
  some ([.agg [((.ints .i64 []), true), ((.int .i64 0), false), ((.int .i64 0), false), ((.int .i64 0), false), ((.int .i64 0), false)], .one ((.bool false), false)], [])
  else
  L0 fuel fuel (t0 p0 ((IntKind.wrap .i64 (((p0.length : Nat) : Int) - 1))) 0 0 0 1) (k0  fuel)) := by kernel_rfl
theorem s0 (fuel n0 : Nat) (p0 : List Int) (x0q1 : Int) (x0q7 : Int) (x0q8 : Int) (x0q9 : Int) (x0q10 : Int) : L0 fuel (n0 + 1) (t0 p0 x0q1 x0q7 x0q8 x0q9 x0q10) (k0  fuel) =
  (bif (decide ((x0q1 : Int) ≥ 0)) then
  (idx x0q1 p0.length).bind fun j21 =>
  (p0[j21]?).bind fun v22 =>
  (bif (decide ((v22 : Int) < 0)) then
  some ([.agg [((.ints .i64 []), true), ((.int .i64 0), false), ((.int .i64 0), false), ((.int .i64 0), false), ((.int .i64 0), false)], .one ((.bool false), false)], [])
  else
  (idx x0q1 p0.length).bind fun j23 =>
  (p0[j23]?).bind fun v24 =>
  (bif (decide ((v24 : Int) > 60)) then
  some ([.agg [((.ints .i64 []), true), ((.int .i64 0), false), ((.int .i64 0), false), ((.int .i64 0), false), ((.int .i64 0), false)], .one ((.bool false), false)], [])
  else
  (bif decide (x0q1 = ((0 : Nat) : Int)) then
  (idx x0q1 p0.length).bind fun j29 =>
  (p0[j29]?).bind fun v30 =>
  L0 fuel n0 (t0 p0 ((IntKind.wrap .i64 (x0q1 - 1))) x0q10 x0q8 x0q9 ((IntKind.wrap .i64 (x0q10 * v30)))) (k0  fuel)
  else
  (bif decide (x0q1 = ((1 : Nat) : Int)) then
  (idx x0q1 p0.length).bind fun j27 =>
  (p0[j27]?).bind fun v28 =>
  L0 fuel n0 (t0 p0 ((IntKind.wrap .i64 (x0q1 - 1))) x0q7 x0q10 x0q9 ((IntKind.wrap .i64 (x0q10 * v28)))) (k0  fuel)
  else
  (bif decide (x0q1 = ((2 : Nat) : Int)) then
  (idx x0q1 p0.length).bind fun j25 =>
  (p0[j25]?).bind fun v26 =>
  L0 fuel n0 (t0 p0 ((IntKind.wrap .i64 (x0q1 - 1))) x0q7 x0q8 x0q10 ((IntKind.wrap .i64 (x0q10 * v26)))) (k0  fuel)
  else
  none)))))
  else
  (bif (decide ((x0q10 : Int) > 60)) then
  some ([.agg [((.ints .i64 []), true), ((.int .i64 0), false), ((.int .i64 0), false), ((.int .i64 0), false), ((.int .i64 0), false)], .one ((.bool false), false)], [])
  else
  some ([.agg [((.ints .i64 p0), false), ((.int .i64 x0q7), false), ((.int .i64 x0q8), false), ((.int .i64 x0q9), false), ((.int .i64 x0q10), false)], .one ((.bool true), false)], []))) := by kernel_rfl
end impl_layoutOf
theorem impl_layoutOf.ok_of (hX : ∀ E ∈ impl_layoutOf.X, CallSpec Try.prog E) (h : ∀ (sh : List Int), (decide (sh.length < 9223372036854775808)) = true → ∃ fuel, runF Try.prog impl_layoutOf.X impl_layoutOf.I 0 fuel 39 Try.f39 [.d (.ints .i64 sh)] = some (bif validS sh then ([.agg [((.ints .i64 sh), false), ((.int .i64 (strd sh 0)), false), ((.int .i64 (strd sh 1)), false), ((.int .i64 (strd sh 2)), false), ((.int .i64 (volW sh)), false)], .one ((.bool true), false)], []) else ([.agg [((.ints .i64 nilI), true), ((.int .i64 0), false), ((.int .i64 0), false), ((.int .i64 0), false), ((.int .i64 0), false)], .one ((.bool false), false)], []))) : CallSpec Try.prog impl_layoutOf.E :=
  callSpec_of (d := 0) hX (by kernel_rfl) impl_layoutOf.I_ok (by kernel_rfl) (by kernel_rfl) (by kernel_rfl) (fun _ _ _ _ h => by dsimp only [impl_layoutOf.E] at h; cases h) (fun xs hp => by
    dsimp only [impl_layoutOf.E] at hp ⊢
    split at hp
    · exact h _ hp
    · cases hp)
theorem impl_layoutOf.bad (fuel n : Nat) (sh : List Int) (k : Nat) (v : Int) (s0 s1 s2 z : Int) (hk : k < sh.length) (hv : sh[k]? = some v) (h : ¬ (0 ≤ v ∧ v ≤ 60)) :
    impl_layoutOf.L0 fuel (n + 1) (impl_layoutOf.t0 sh (k : Int) s0 s1 s2 z) (impl_layoutOf.k0 fuel) = some ([.agg [(.ints .i64 [], true), (.int .i64 0, false), (.int .i64 0, false), (.int .i64 0, false), (.int .i64 0, false)], .one (.bool false, false)], []) := by
  rw [impl_layoutOf.s0, decide_eq_true (by omega), idx_nat hk]
  simp only [cond_true, Option.bind_some, hv]
  by_cases h0 : v < 0
  · rw [decide_eq_true h0]; rfl
  · rw [decide_eq_false h0, decide_eq_true (by omega)]; rfl
theorem impl_layoutOf.good (fuel n : Nat) (sh : List Int) (k : Nat) (v : Int) (s0 s1 s2 z : Int) (hk : k < sh.length) (hv : sh[k]? = some v) (h : 0 ≤ v ∧ v ≤ 60) (hk3 : k < 3) :
    impl_layoutOf.L0 fuel (n + 1) (impl_layoutOf.t0 sh (k : Int) s0 s1 s2 z) (impl_layoutOf.k0 fuel) =
      impl_layoutOf.L0 fuel n (impl_layoutOf.t0 sh ((k : Int) - 1) (bif k == 0 then z else s0) (bif k == 1 then z else s1) (bif k == 2 then z else s2) (IntKind.wrap .i64 (z * v))) (impl_layoutOf.k0 fuel) := by
  rw [impl_layoutOf.s0, decide_eq_true (by omega), idx_nat hk]
  simp only [cond_true, Option.bind_some, hv]
  rw [decide_eq_false (p := v < 0) (by omega), decide_eq_false (p := v > 60) (by omega), wS (x := (k : Int) - 1) (by omega) (by omega)]
  simp only [cond_false]
  match k, hk3 with
  | 0, _ => rfl
  | 1, _ => rfl
  | 2, _ => rfl
theorem impl_layoutOf.last (fuel n : Nat) (sh : List Int) (i : Int) (s0 s1 s2 z : Int) (hi : i < 0) :
    impl_layoutOf.L0 fuel (n + 1) (impl_layoutOf.t0 sh i s0 s1 s2 z) (impl_layoutOf.k0 fuel) = 
      bif decide (z ≤ 60) then some ([.agg [(.ints .i64 sh, false), (.int .i64 s0, false), (.int .i64 s1, false), (.int .i64 s2, false), (.int .i64 z, false)], .one (.bool true, false)], [])
      else some ([.agg [(.ints .i64 [], true), (.int .i64 0, false), (.int .i64 0, false), (.int .i64 0, false), (.int .i64 0, false)], .one (.bool false, false)], []) := by
  rw [impl_layoutOf.s0, decide_eq_false (by omega)]
  simp only [cond_false]
  by_cases hz : z ≤ 60
  · rw [decide_eq_true hz, decide_eq_false (by omega)]; rfl
  · rw [decide_eq_false hz, decide_eq_true (by omega)]; rfl
theorem rng_dec {v : Int} (h : 0 ≤ v ∧ v ≤ 60) : (decide (0 ≤ v) && decide (v ≤ 60)) = true := by simp [h.1, h.2]
theorem rng_bad {v : Int} (h : ¬ (0 ≤ v ∧ v ≤ 60)) : (decide (0 ≤ v) && decide (v ≤ 60)) = false := by
  cases hb : (decide (0 ≤ v) && decide (v ≤ 60)) with
  | false => rfl
  | true => simp at hb; exact absurd hb h
theorem validS1 (a : Int) : validS [a] = ((decide (0 ≤ a) && decide (a ≤ 60)) && decide (IntKind.wrap .i64 (1 * a) ≤ 60)) := by
  simp only [validS, allB_cons, allB_nil, Bool.and_true, volW, volFrom]; rfl
theorem validS2 (a b : Int) : validS [a, b] = ((decide (0 ≤ a) && decide (a ≤ 60)) && (decide (0 ≤ b) && decide (b ≤ 60)) && decide (IntKind.wrap .i64 (IntKind.wrap .i64 (1 * a) * b) ≤ 60)) := by
  simp only [validS, allB_cons, allB_nil, Bool.and_true, volW, volFrom]; rfl
theorem validS3 (a b c : Int) : validS [a, b, c] = ((decide (0 ≤ a) && decide (a ≤ 60)) && ((decide (0 ≤ b) && decide (b ≤ 60)) && (decide (0 ≤ c) && decide (c ≤ 60))) && decide (IntKind.wrap .i64 (IntKind.wrap .i64 (IntKind.wrap .i64 (1 * a) * b) * c) ≤ 60)) := by
  simp only [validS, allB_cons, allB_nil, Bool.and_true, volW, volFrom]; rfl
theorem impl_layoutOf.ok : CallSpec Try.prog impl_layoutOf.E := impl_layoutOf.ok_of (by simp [impl_layoutOf.X]) fun sh h => by
  refine ⟨5, ?_⟩
  rw [impl_layoutOf.e]
  match sh with
  | [] => rw [show decide (((([] : List Int).length : Nat) : Int) > 3) = false from rfl, cond_false, impl_layoutOf.last _ _ _ _ _ _ _ _ (by decide)]; rfl
  | [a] =>
    rw [show decide (((([a] : List Int).length : Nat) : Int) > 3) = false from rfl, cond_false, show IntKind.wrap .i64 ((([a] : List Int).length : Nat) - 1) = ((0 : Nat) : Int) from rfl, validS1]
    by_cases h1 : 0 ≤ a ∧ a ≤ 60
    · rw [impl_layoutOf.good _ _ _ _ a _ _ _ _ (by simp) rfl h1 (by omega), impl_layoutOf.last _ _ _ _ _ _ _ _ (by decide), rng_dec h1, Int.one_mul, wS (x := a) (by omega) (by omega)]
      simp only [strd, volW, volFrom, Int.one_mul, wS (x := a) (by omega) (by omega)]
      cases decide (a ≤ 60) <;> rfl
    · rw [impl_layoutOf.bad _ _ _ _ a _ _ _ _ (by simp) rfl h1, rng_bad h1]; rfl
  | [a, b] =>
    rw [show decide (((([a, b] : List Int).length : Nat) : Int) > 3) = false from rfl, cond_false, show IntKind.wrap .i64 ((([a, b] : List Int).length : Nat) - 1) = ((1 : Nat) : Int) from rfl, validS2]
    by_cases h1 : 0 ≤ b ∧ b ≤ 60
    case neg => rw [impl_layoutOf.bad _ _ _ _ b _ _ _ _ (by simp) rfl h1, rng_bad h1, Bool.and_false]; rfl
    rw [impl_layoutOf.good _ _ _ _ b _ _ _ _ (by simp) rfl h1 (by omega), show (((1 : Nat) : Int) - 1) = ((0 : Nat) : Int) from rfl]
    by_cases h2 : 0 ≤ a ∧ a ≤ 60
    case neg => rw [impl_layoutOf.bad _ _ _ _ a _ _ _ _ (by simp) rfl h2, rng_bad h2]; rfl
    have hm := mul60 h2.1 h2.2 h1.1 h1.2
    rw [impl_layoutOf.good _ _ _ _ a _ _ _ _ (by simp) rfl h2 (by omega), impl_layoutOf.last _ _ _ _ _ _ _ _ (by decide), rng_dec h1, rng_dec h2, Int.one_mul, Int.one_mul, wS (x := a) (by omega) (by omega), wS (x := b) (by omega) (by omega), Int.mul_comm b a, wS (x := a * b) (by omega) (by omega)]
    simp only [strd, volW, volFrom, Int.one_mul, wS (x := a) (by omega) (by omega), wS (x := b) (by omega) (by omega), wS (x := a * b) (by omega) (by omega), List.drop_succ_cons, List.drop_zero]
    cases decide (a * b ≤ 60) <;> rfl
  | [a, b, c] =>
    rw [show decide (((([a, b, c] : List Int).length : Nat) : Int) > 3) = false from rfl, cond_false, show IntKind.wrap .i64 ((([a, b, c] : List Int).length : Nat) - 1) = ((2 : Nat) : Int) from rfl, validS3]
    by_cases h0 : 0 ≤ c ∧ c ≤ 60
    case neg => rw [impl_layoutOf.bad _ _ _ _ c _ _ _ _ (by simp) rfl h0, rng_bad h0, Bool.and_false, Bool.and_false]; rfl
    rw [impl_layoutOf.good _ _ _ _ c _ _ _ _ (by simp) rfl h0 (by omega), show (((2 : Nat) : Int) - 1) = ((1 : Nat) : Int) from rfl]
    by_cases h1 : 0 ≤ b ∧ b ≤ 60
    case neg => rw [impl_layoutOf.bad _ _ _ _ b _ _ _ _ (by simp) rfl h1, rng_bad h1, Bool.false_and, Bool.and_false]; rfl
    rw [impl_layoutOf.good _ _ _ _ b _ _ _ _ (by simp) rfl h1 (by omega), show (((1 : Nat) : Int) - 1) = ((0 : Nat) : Int) from rfl]
    by_cases h2 : 0 ≤ a ∧ a ≤ 60
    case neg => rw [impl_layoutOf.bad _ _ _ _ a _ _ _ _ (by simp) rfl h2, rng_bad h2]; rfl
    have hm := mul60 h2.1 h2.2 h1.1 h1.2
    have hm1 := mul60 h1.1 h1.2 h0.1 h0.2
    have hm3 := mul3600 hm.1 hm.2 h0.1 h0.2
    have hc : b * c * a = a * b * c := by rw [Int.mul_comm (b * c) a, Int.mul_assoc]
    rw [impl_layoutOf.good _ _ _ _ a _ _ _ _ (by simp) rfl h2 (by omega), impl_layoutOf.last _ _ _ _ _ _ _ _ (by decide), rng_dec h0, rng_dec h1, rng_dec h2, Int.one_mul, Int.one_mul, wS (x := a) (by omega) (by omega), wS (x := c) (by omega) (by omega), Int.mul_comm c b, wS (x := a * b) (by omega) (by omega), wS (x := b * c) (by omega) (by omega), hc, wS (x := a * b * c) (by omega) (by omega)]
    simp only [strd, volW, volFrom, Int.one_mul, wS (x := a) (by omega) (by omega), wS (x := b) (by omega) (by omega), wS (x := c) (by omega) (by omega), wS (x := a * b) (by omega) (by omega), wS (x := b * c) (by omega) (by omega), wS (x := a * b * c) (by omega) (by omega), List.drop_succ_cons, List.drop_zero]
    cases decide (a * b * c ≤ 60) <;> rfl
  | a :: b :: c :: d :: t =>
    have h1 : ((((a :: b :: c :: d :: t).length : Nat) : Int) > 3) := by simp; omega
    have h2 : ¬ ((((a :: b :: c :: d :: t).length : Nat) : Int) ≤ 3) := by omega
    have h3 : validS (a :: b :: c :: d :: t) = false := by unfold validS; rw [decide_eq_false h2]; rfl
    rw [decide_eq_true h1, h3]
    rfl

namespace impl_isNumber
noncomputable def E : Entry := ⟨40, true, false, fun | [.d (.int .i64 v)] => true | _ => false, fun | [.d (.int .i64 v)] => ([.one ((.bool (numB v)), false)], []) | _ => ([], []), fun _ => [], false, fun _ => none⟩
end impl_isNumber
namespace impl_isNumber
noncomputable def X : List Entry := []
noncomputable def I : List Inl := [⟨40, Try.f40, ⟨[], [], [], [], [], []⟩⟩]
theorem I_ok : ∀ i ∈ I, Try.prog.funcs[i.f]? = some i.fn ∧ (i.fn.name == "runtime.NumGoroutine") = false := by
  intro i hi
  simp only [I, List.mem_cons, List.not_mem_nil, or_false] at hi
  subst hi
  exact ⟨by kernel_rfl, by kernel_rfl⟩
theorem e (fuel : Nat) (p0 : Int) : runF Try.prog X I 0 fuel 40 Try.f40 [.d (.int .i64 p0)] =
  (bif (decide (((-1000000) : Int) ≤ p0)) then
  some ([.one ((.bool (decide ((p0 : Int) ≤ 1000000))), false)], [])
  else
  some ([.one ((.bool false), false)], [])) := by kernel_rfl
end impl_isNumber
theorem impl_isNumber.ok_of (hX : ∀ E ∈ impl_isNumber.X, CallSpec Try.prog E) (h : ∀ (v : Int), (true) = true → ∃ fuel, runF Try.prog impl_isNumber.X impl_isNumber.I 0 fuel 40 Try.f40 [.d (.int .i64 v)] = some ([.one ((.bool (numB v)), false)], [])) : CallSpec Try.prog impl_isNumber.E :=
  callSpec_of (d := 0) hX (by kernel_rfl) impl_isNumber.I_ok (by kernel_rfl) (by kernel_rfl) (by kernel_rfl) (fun _ _ _ _ h => by dsimp only [impl_isNumber.E] at h; cases h) (fun xs hp => by
    dsimp only [impl_isNumber.E] at hp ⊢
    split at hp
    · exact h _ hp
    · cases hp)
theorem impl_isNumber.ok : CallSpec Try.prog impl_isNumber.E := impl_isNumber.ok_of (by simp [impl_isNumber.X]) fun v _ => ⟨0, by
  rw [impl_isNumber.e]
  unfold numB
  cases decide (-1000000 ≤ v) <;> rfl⟩

namespace impl_ValidArray
noncomputable def E : Entry := ⟨31, true, false, fun | [.d (.agg [(.ints .i64 sh), (.ints .i64 da)])] => decide (sh.length < 9223372036854775808) && decide (da.length < 9223372036854775808) | _ => false, fun | [.d (.agg [(.ints .i64 sh), (.ints .i64 da)])] => ([.one ((.bool (validA sh da)), false)], []) | _ => ([], []), fun _ => [], false, fun _ => none⟩
end impl_ValidArray
namespace impl_ValidArray
noncomputable def X : List Entry := [impl_layoutOf.E, impl_isNumber.E]
noncomputable def I : List Inl := [⟨31, Try.f31, ⟨[10], [(1000005, [0, 1, 2, 3, 4, 5, 6, 7, 8, 9, 10, 11, 12, 13, 14, 15, 16, 17, 18, 19, 20, 21, 22, 23, 27, 28, 29, 30, 31, 32, 33])], [], [], [], []⟩⟩]
theorem I_ok : ∀ i ∈ I, Try.prog.funcs[i.f]? = some i.fn ∧ (i.fn.name == "runtime.NumGoroutine") = false := by
  intro i hi
  simp only [I, List.mem_cons, List.not_mem_nil, or_false] at hi
  subst hi
  exact ⟨by kernel_rfl, by kernel_rfl⟩
noncomputable abbrev L0 (fuel n : Nat) (s : St) (k : Kont) := lAt Try.prog X I fuel true 0 false 31 (bodyOf Try.f31) [1, 1, 1, 0, 1, 0] n s k
noncomputable abbrev k0  (fuel : Nat) : Kont := (kAt Try.prog X I fuel true 0 false 31 (bodyOf Try.f31) [1, 1, 1, 0, 1, 0] [] (endK Try.prog Try.f31))
noncomputable def t0 (p0q1 : List Int) (x0q2 : Int) : St := ⟨[.dead, .dead, .dead, .dead, .dead, .dead, .dead, .dead, .dead, .dead, .dead, .dead, .dead, .dead, .dead, .dead, .dead, .dead, .dead, .dead, .dead, .dead, .dead, .dead, (.imm (.ints .i64 p0q1)), (.imm (.int .i64 ((p0q1.length : Nat) : Int))), (.imm (.int .i64 x0q2)), .dead, .dead, .dead, .dead, .dead, .dead, .dead], hOf [], [], []⟩
theorem e (fuel : Nat) (p0q0 : List Int) (p0q1 : List Int) : runF Try.prog X I 0 fuel 31 Try.f31 [.d (.agg [(.ints .i64 p0q0), (.ints .i64 p0q1)])] =
  (bif decide (p0q0.length < 9223372036854775808) then
  (bif validS p0q0 then
  (bif ((((p0q1.length : Nat) : Int) : Int) != (volW p0q0)) then
  some ([.one ((.bool false), false)], [])
  else
  L0 fuel fuel (t0 p0q1 0) (k0  fuel))
  else
  some ([.one ((.bool false), false)], []))
  else
  none) := by kernel_rfl
theorem s0 (fuel n0 : Nat) (p0q1 : List Int) (x0q2 : Int) : L0 fuel (n0 + 1) (t0 p0q1 x0q2) (k0  fuel) =
  (bif (decide ((x0q2 : Int) < ((p0q1.length : Nat) : Int))) then
  (idx x0q2 p0q1.length).bind fun j5 =>
  (p0q1[j5]?).bind fun v6 =>
  (bif (!(numB v6)) then
  some ([.one ((.bool false), false)], [])
  else
  L0 fuel n0 (t0 p0q1 ((IntKind.wrap .i64 (x0q2 + 1)))) (k0  fuel))
  else
  some ([.one ((.bool true), false)], [])) := by kernel_rfl
end impl_ValidArray
theorem impl_ValidArray.ok_of (hX : ∀ E ∈ impl_ValidArray.X, CallSpec Try.prog E) (h : ∀ (sh : List Int) (da : List Int), (decide (sh.length < 9223372036854775808) && decide (da.length < 9223372036854775808)) = true → ∃ fuel, runF Try.prog impl_ValidArray.X impl_ValidArray.I 0 fuel 31 Try.f31 [.d (.agg [(.ints .i64 sh), (.ints .i64 da)])] = some ([.one ((.bool (validA sh da)), false)], [])) : CallSpec Try.prog impl_ValidArray.E :=
  callSpec_of (d := 0) hX (by kernel_rfl) impl_ValidArray.I_ok (by kernel_rfl) (by kernel_rfl) (by kernel_rfl) (fun _ _ _ _ h => by dsimp only [impl_ValidArray.E] at h; cases h) (fun xs hp => by
    dsimp only [impl_ValidArray.E] at hp ⊢
    split at hp
    · exact h _ _ hp
    · cases hp)
theorem impl_ValidArray.loop (fuel : Nat) (xs : List Int) (hx : xs.length < 9223372036854775808) : ∀ (m n j : Nat), xs.length - j = m → m < n → j ≤ xs.length →
    impl_ValidArray.L0 fuel n (impl_ValidArray.t0 xs (j : Int)) (impl_ValidArray.k0 fuel) = some ([.one (.bool (allB (xs.drop j) (-1000000) 1000000), false)], []) := by
  intro m
  induction m with
  | zero =>
    intro n j h1 h2 h3
    obtain ⟨n, rfl⟩ : ∃ n', n = n' + 1 := ⟨n - 1, by omega⟩
    have hj : ¬ j < xs.length := by omega
    rw [impl_ValidArray.s0, dge hj, dropE hj]
    rfl
  | succ m ih =>
    intro n j h1 h2 h3
    obtain ⟨n, rfl⟩ : ∃ n', n = n' + 1 := ⟨n - 1, by omega⟩
    have hj : j < xs.length := by omega
    rw [impl_ValidArray.s0, dlt hj, idx_nat hj, w1 (by omega), dropS hj]
    simp only [cond_true, Option.bind_some, getS hj, allB_cons, numB_eq]
    rw [ih n (j + 1) (by omega) (by omega) (by omega)]
    cases decide (-1000000 ≤ xs[j]) && decide (xs[j] ≤ 1000000) <;> rfl

theorem impl_ValidArray.ok : CallSpec Try.prog impl_ValidArray.E := impl_ValidArray.ok_of (by simp [impl_ValidArray.X, impl_layoutOf.ok, impl_isNumber.ok]) fun sh da h => by
  simp only [Bool.and_eq_true, decide_eq_true_eq] at h
  refine ⟨da.length + 1, ?_⟩
  rw [impl_ValidArray.e, lt_of h.1]
  have := impl_ValidArray.loop (da.length + 1) da h.2 da.length (da.length + 1) 0 (by omega) (by omega) (by omega)
  simp only [cond_true, List.drop_zero] at this ⊢
  rw [show ((0 : Nat) : Int) = 0 from rfl] at this
  rw [this]
  unfold validA
  cases validS sh
  · rfl
  · cases hb : (((da.length : Nat) : Int) == volW sh) with
    | true => simp [bne, hb]
    | false => simp [bne, hb]

namespace impl_isVector
noncomputable def E : Entry := ⟨19, true, false, fun | [.d (.agg [(.ints .i64 sh), (.ints .i64 da)])] => decide (sh.length < 9223372036854775808) && decide (da.length < 9223372036854775808) | _ => false, fun | [.d (.agg [(.ints .i64 sh), (.ints .i64 da)])] => ([.one ((.bool (vcB sh da)), false)], []) | _ => ([], []), fun _ => [], false, fun _ => none⟩
end impl_isVector
namespace impl_isVector
noncomputable def X : List Entry := [impl_ValidArray.E]
noncomputable def I : List Inl := [⟨19, Try.f19, ⟨[], [], [], [], [], []⟩⟩]
theorem I_ok : ∀ i ∈ I, Try.prog.funcs[i.f]? = some i.fn ∧ (i.fn.name == "runtime.NumGoroutine") = false := by
  intro i hi
  simp only [I, List.mem_cons, List.not_mem_nil, or_false] at hi
  subst hi
  exact ⟨by kernel_rfl, by kernel_rfl⟩
theorem e (fuel : Nat) (p0q0 : List Int) (p0q1 : List Int) : runF Try.prog X I 0 fuel 19 Try.f19 [.d (.agg [(.ints .i64 p0q0), (.ints .i64 p0q1)])] =
  (bif decide (p0q0.length < 9223372036854775808) && decide (p0q1.length < 9223372036854775808) then
  (bif (validA p0q0 p0q1) then
  some ([.one ((.bool ((((p0q0.length : Nat) : Int) : Int) == 1)), false)], [])
  else
  some ([.one ((.bool false), false)], []))
  else
  none) := by kernel_rfl
end impl_isVector
theorem impl_isVector.ok_of (hX : ∀ E ∈ impl_isVector.X, CallSpec Try.prog E) (h : ∀ (sh : List Int) (da : List Int), (decide (sh.length < 9223372036854775808) && decide (da.length < 9223372036854775808)) = true → ∃ fuel, runF Try.prog impl_isVector.X impl_isVector.I 0 fuel 19 Try.f19 [.d (.agg [(.ints .i64 sh), (.ints .i64 da)])] = some ([.one ((.bool (vcB sh da)), false)], [])) : CallSpec Try.prog impl_isVector.E :=
  callSpec_of (d := 0) hX (by kernel_rfl) impl_isVector.I_ok (by kernel_rfl) (by kernel_rfl) (by kernel_rfl) (fun _ _ _ _ h => by dsimp only [impl_isVector.E] at h; cases h) (fun xs hp => by
    dsimp only [impl_isVector.E] at hp ⊢
    split at hp
    · exact h _ _ hp
    · cases hp)
theorem impl_isVector.ok : CallSpec Try.prog impl_isVector.E := impl_isVector.ok_of (by simp [impl_isVector.X, impl_ValidArray.ok]) fun sh da h => ⟨0, by
  rw [impl_isVector.e, h]
  unfold vcB
  cases validA sh da with
  | false => rfl
  | true =>
    rw [show ((((sh.length : Nat) : Int)) == 1) = decide (sh.length = 1) by by_cases h : sh.length = 1 <;> simp [h]; omega]
    rfl⟩

namespace impl_CountTo
noncomputable def E : Entry := ⟨20, false, false, fun | [.d (.int .i64 n)] => true | _ => false, fun | [.d (.int .i64 n)] => ([.agg [((.ints .i64 (cntS n)), true), ((.ints .i64 (cntD n)), true)]], []) | _ => ([], []), fun _ => [], true, fun _ => none⟩
end impl_CountTo
namespace impl_CountTo
noncomputable def X : List Entry := []
noncomputable def I : List Inl := [⟨20, Try.f20, ⟨[], [(1000005, [1, 4, 5, 6, 7, 8, 9, 10, 11, 12, 13, 14, 17, 18, 19, 20, 21, 22, 23, 24, 25, 26, 27])], [], [], [], []⟩⟩]
theorem I_ok : ∀ i ∈ I, Try.prog.funcs[i.f]? = some i.fn ∧ (i.fn.name == "runtime.NumGoroutine") = false := by
  intro i hi
  simp only [I, List.mem_cons, List.not_mem_nil, or_false] at hi
  subst hi
  exact ⟨by kernel_rfl, by kernel_rfl⟩
noncomputable abbrev L0 (fuel n : Nat) (s : St) (k : Kont) := lAt Try.prog X I fuel true 0 false 20 (bodyOf Try.f20) [1, 1, 1, 0, 1, 0] n s k
noncomputable abbrev k0  (fuel : Nat) : Kont := (kAt Try.prog X I fuel true 0 false 20 (bodyOf Try.f20) [1, 1, 1, 0, 1, 0] [] (endK Try.prog Try.f20))
noncomputable def t0 (p0 : Int) (x0q2 : Int) (x0q3 : List Int) : St := ⟨[(.imm (.int .i64 p0)), .dead, (.ptr 1000000000 0 0), (.all 1000000001 1), .dead, .dead, .dead, .dead, .dead, .dead, .dead, .dead, .dead, .dead, .dead, (.imm (.int .i64 (((List.replicate (p0).toNat (0 : Int)).length : Nat) : Int))), (.imm (.int .i64 x0q2)), .dead, .dead, .dead, .dead, .dead, .dead, .dead, .dead, .dead, .dead, .dead], hOf [(1000000000, (.box [(.imm .nils), (.imm .nils)])), (1000000001, (.ints .i64 x0q3))], [], []⟩
theorem e (fuel : Nat) (p0 : Int) : runF Try.prog X I 0 fuel 20 Try.f20 [.d (.int .i64 p0)] =
  (bif (decide ((p0 : Int) < 0)) then
  some ([.agg [((.ints .i64 []), true), ((.ints .i64 []), true)]], [])
  else
  (bif (decide ((p0 : Int) > 60)) then
  some ([.agg [((.ints .i64 []), true), ((.ints .i64 []), true)]], [])
  else
  (bif decide (0 ≤ (p0 : Int)) && decide ((p0 : Int) ≤ p0) && decide ((p0 : Int) ≤ 1152921504606846976) && decide (((8 : Nat) : Int) * p0 ≤ 281474976710656) then
  L0 fuel fuel (t0 p0 0 ((List.replicate (p0).toNat (0 : Int)))) (k0  fuel)
  else
  none))) := by kernel_rfl
theorem s0 (fuel n0 : Nat) (p0 : Int) (x0q2 : Int) (x0q3 : List Int) : L0 fuel (n0 + 1) (t0 p0 x0q2 x0q3) (k0  fuel) =
  (bif (decide ((x0q2 : Int) < (((List.replicate (p0).toNat (0 : Int)).length : Nat) : Int))) then
  (idx x0q2 x0q3.length).bind fun j3 =>
  (bif decide (j3 < x0q3.length) then
  L0 fuel n0 (t0 p0 ((IntKind.wrap .i64 (x0q2 + 1))) ((x0q3.set j3 x0q2))) (k0  fuel)
  else
  none)
  else
  some ([.agg [((.ints .i64 [p0]), true), ((.ints .i64 x0q3), true)]], [])) := by kernel_rfl
end impl_CountTo
theorem impl_CountTo.ok_of (hX : ∀ E ∈ impl_CountTo.X, CallSpec Try.prog E) (h : ∀ (n : Int), (true) = true → ∃ fuel, runF Try.prog impl_CountTo.X impl_CountTo.I 0 fuel 20 Try.f20 [.d (.int .i64 n)] = some ([.agg [((.ints .i64 (cntS n)), true), ((.ints .i64 (cntD n)), true)]], [])) : CallSpec Try.prog impl_CountTo.E :=
  callSpec_of (d := 0) hX (by kernel_rfl) impl_CountTo.I_ok (by kernel_rfl) (by kernel_rfl) (by kernel_rfl) (fun _ _ _ _ h => by dsimp only [impl_CountTo.E] at h; cases h) (fun xs hp => by
    dsimp only [impl_CountTo.E] at hp ⊢
    split at hp
    · exact h _ hp
    · cases hp)
theorem impl_CountTo.loop (fuel : Nat) (p : Int) (hp : cntOk p = true) : ∀ (m n j : Nat) (out : List Int), p.toNat - j = m → m < n → j ≤ p.toNat → out.length = p.toNat → out.take j = ((List.range p.toNat).map Int.ofNat).take j →
    impl_CountTo.L0 fuel n (impl_CountTo.t0 p (j : Int) out) (impl_CountTo.k0 fuel) = some ([.agg [(.ints .i64 (cntS p), true), (.ints .i64 (cntD p), true)]], []) := by
  have hb : 0 ≤ p ∧ p ≤ 60 := by simpa [cntOk] using hp
  intro m
  induction m with
  | zero =>
    intro n j out h1 h2 h3 h4 h5
    obtain ⟨n, rfl⟩ : ∃ n', n = n' + 1 := ⟨n - 1, by omega⟩
    have hj : ¬ j < p.toNat := by omega
    rw [List.take_of_length_le (by omega), List.take_of_length_le (by simp; omega)] at h5
    rw [impl_CountTo.s0, List.length_replicate, dge hj, h5]
    simp [cntS, cntD, hp]
  | succ m ih =>
    intro n j out h1 h2 h3 h4 h5
    obtain ⟨n, rfl⟩ : ∃ n', n = n' + 1 := ⟨n - 1, by omega⟩
    have hj : j < p.toNat := by omega
    have hj2 : j < out.length := by omega
    rw [impl_CountTo.s0, List.length_replicate, dlt hj, idx_nat hj2, w1 (by omega)]
    simp only [cond_true, Option.bind_some, hj2, decide_true]
    have hj3 : j < ((List.range p.toNat).map Int.ofNat).length := by simpa using hj
    have := take_set_succ hj3 hj2 h5
    have e1 : ((List.range p.toNat).map Int.ofNat)[j] = (j : Int) := by simp
    rw [e1] at this
    exact ih n (j + 1) _ (by omega) (by omega) (by omega) (by simpa using h4) this

theorem impl_CountTo.ok : CallSpec Try.prog impl_CountTo.E := impl_CountTo.ok_of (by simp [impl_CountTo.X]) fun p _ => by
  obtain ⟨F, hF⟩ : ∃ F : Nat, p.toNat < F := ⟨p.toNat + 1, by omega⟩
  refine ⟨F, ?_⟩
  rw [impl_CountTo.e]
  by_cases h1 : p < 0
  · have : cntOk p = false := by unfold cntOk; rw [decide_eq_false (by omega)]; rfl
    rw [decide_eq_true h1]
    simp [cntS, cntD, this]
  · by_cases h2 : p > 60
    · have : cntOk p = false := by unfold cntOk; rw [decide_eq_false (p := p ≤ 60) (by omega), Bool.and_false]
      rw [decide_eq_true h2]
      simp [cntS, cntD, this, h1]
    · have hp : cntOk p = true := by unfold cntOk; rw [decide_eq_true (p := 0 ≤ p) (by omega), decide_eq_true (p := p ≤ 60) (by omega)]; rfl
      rw [decide_eq_false h1, decide_eq_false h2, mkOk (by omega) (by omega)]
      exact impl_CountTo.loop F p hp p.toNat F 0 _ (by omega) (by omega) (by omega) (by simp) (by simp)

namespace cmp_isNaN_int
noncomputable def E : Entry := ⟨33, true, false, fun | [.d (.int .i64 x)] => true | _ => false, fun | [.d (.int .i64 x)] => ([.one ((.bool false), false)], []) | _ => ([], []), fun _ => [], false, fun _ => none⟩
end cmp_isNaN_int
namespace cmp_isNaN_int
noncomputable def X : List Entry := []
noncomputable def I : List Inl := [⟨33, Try.f33, ⟨[], [], [], [], [], []⟩⟩]
theorem I_ok : ∀ i ∈ I, Try.prog.funcs[i.f]? = some i.fn ∧ (i.fn.name == "runtime.NumGoroutine") = false := by
  intro i hi
  simp only [I, List.mem_cons, List.not_mem_nil, or_false] at hi
  subst hi
  exact ⟨by kernel_rfl, by kernel_rfl⟩
theorem e (fuel : Nat) (p0 : Int) : runF Try.prog X I 0 fuel 33 Try.f33 [.d (.int .i64 p0)] =
  some ([.one ((.bool ((p0 : Int) != p0)), false)], []) := by kernel_rfl
end cmp_isNaN_int
theorem cmp_isNaN_int.ok_of (hX : ∀ E ∈ cmp_isNaN_int.X, CallSpec Try.prog E) (h : ∀ (x : Int), (true) = true → ∃ fuel, runF Try.prog cmp_isNaN_int.X cmp_isNaN_int.I 0 fuel 33 Try.f33 [.d (.int .i64 x)] = some ([.one ((.bool false), false)], [])) : CallSpec Try.prog cmp_isNaN_int.E :=
  callSpec_of (d := 0) hX (by kernel_rfl) cmp_isNaN_int.I_ok (by kernel_rfl) (by kernel_rfl) (by kernel_rfl) (fun _ _ _ _ h => by dsimp only [cmp_isNaN_int.E] at h; cases h) (fun xs hp => by
    dsimp only [cmp_isNaN_int.E] at hp ⊢
    split at hp
    · exact h _ hp
    · cases hp)
theorem cmp_isNaN_int.ok : CallSpec Try.prog cmp_isNaN_int.E := cmp_isNaN_int.ok_of (by simp [cmp_isNaN_int.X]) fun x _ => ⟨0, by rw [cmp_isNaN_int.e, bne_self_eq_false]⟩

namespace cmp_Compare_int
noncomputable def E : Entry := ⟨23, true, false, fun | [.d (.int .i64 x), .d (.int .i64 y)] => true | _ => false, fun | [.d (.int .i64 x), .d (.int .i64 y)] => ([.one ((.int .i64 (cmpV x y)), false)], []) | _ => ([], []), fun _ => [], false, fun _ => none⟩
end cmp_Compare_int
namespace cmp_Compare_int
noncomputable def X : List Entry := [cmp_isNaN_int.E]
noncomputable def I : List Inl := [⟨23, Try.f23, ⟨[], [], [], [], [], []⟩⟩]
theorem I_ok : ∀ i ∈ I, Try.prog.funcs[i.f]? = some i.fn ∧ (i.fn.name == "runtime.NumGoroutine") = false := by
  intro i hi
  simp only [I, List.mem_cons, List.not_mem_nil, or_false] at hi
  subst hi
  exact ⟨by kernel_rfl, by kernel_rfl⟩
theorem e (fuel : Nat) (p0 : Int) (p1 : Int) : runF Try.prog X I 0 fuel 23 Try.f23 [.d (.int .i64 p0), .d (.int .i64 p1)] =
  (bif (decide ((p0 : Int) < p1)) then
  some ([.one ((.int .i64 (-1)), false)], [])
  else
  (bif (decide ((p0 : Int) > p1)) then
  some ([.one ((.int .i64 1), false)], [])
  else
  some ([.one ((.int .i64 0), false)], []))) := by kernel_rfl
end cmp_Compare_int
theorem cmp_Compare_int.ok_of (hX : ∀ E ∈ cmp_Compare_int.X, CallSpec Try.prog E) (h : ∀ (x : Int) (y : Int), (true) = true → ∃ fuel, runF Try.prog cmp_Compare_int.X cmp_Compare_int.I 0 fuel 23 Try.f23 [.d (.int .i64 x), .d (.int .i64 y)] = some ([.one ((.int .i64 (cmpV x y)), false)], [])) : CallSpec Try.prog cmp_Compare_int.E :=
  callSpec_of (d := 0) hX (by kernel_rfl) cmp_Compare_int.I_ok (by kernel_rfl) (by kernel_rfl) (by kernel_rfl) (fun _ _ _ _ h => by dsimp only [cmp_Compare_int.E] at h; cases h) (fun xs hp => by
    dsimp only [cmp_Compare_int.E] at hp ⊢
    split at hp
    · exact h _ _ hp
    · cases hp)
theorem cmp_Compare_int.ok : CallSpec Try.prog cmp_Compare_int.E := cmp_Compare_int.ok_of (by simp [cmp_Compare_int.X, cmp_isNaN_int.ok]) fun x y _ => ⟨0, by
  rw [cmp_Compare_int.e]
  unfold cmpV
  cases decide (x < y) <;> cases decide (x > y) <;> rfl⟩

namespace impl_GradeUp_1
noncomputable def E : Entry := ⟨22, true, false, fun | [.d (.int .i64 i), .d (.int .i64 j), .d (.pbox [(.ints .i64 sh), (.ints .i64 da)])] => gdB da i j | _ => false, fun | [.d (.int .i64 i), .d (.int .i64 j), .d (.pbox [(.ints .i64 sh), (.ints .i64 da)])] => ([.one ((.int .i64 (gdC da i j)), false)], []) | _ => ([], []), fun _ => [], false, fun | [(.pbox [(.ints .i64 sh), (.ints .i64 da)])] => some (false, (gdQ da), (q2v (gdC da))) | _ => none⟩
end impl_GradeUp_1
namespace impl_GradeUp_1
noncomputable def X : List Entry := [cmp_Compare_int.E]
noncomputable def I : List Inl := [⟨22, Try.f22, ⟨[], [], [], [(1, [0, 2, 5, 7, 1, 3, 4, 6, 8, 9, 10, 11])], [], []⟩⟩]
theorem I_ok : ∀ i ∈ I, Try.prog.funcs[i.f]? = some i.fn ∧ (i.fn.name == "runtime.NumGoroutine") = false := by
  intro i hi
  simp only [I, List.mem_cons, List.not_mem_nil, or_false] at hi
  subst hi
  exact ⟨by kernel_rfl, by kernel_rfl⟩
theorem e (fuel : Nat) (p0 : Int) (p1 : Int) (f0q0 : List Int) (f0q1 : List Int) : runF Try.prog X I 0 fuel 22 Try.f22 [.d (.int .i64 p0), .d (.int .i64 p1), .d (.pbox [(.ints .i64 f0q0), (.ints .i64 f0q1)])] =
  (idx p0 f0q1.length).bind fun j1 =>
  (f0q1[j1]?).bind fun v2 =>
  (idx p1 f0q1.length).bind fun j3 =>
  (f0q1[j3]?).bind fun v4 =>
  some ([.one ((.int .i64 (cmpV v2 v4)), false)], []) := by kernel_rfl
end impl_GradeUp_1
theorem impl_GradeUp_1.ok_of (hX : ∀ E ∈ impl_GradeUp_1.X, CallSpec Try.prog E) (hfn : ∀ ds rb dom G, impl_GradeUp_1.E.fnOf ds = some (rb, dom, G) → ∀ qs, dom qs = true → impl_GradeUp_1.E.m ((qs.map fun q => .d q.d) ++ ds.map .d) = some ([.one (fnD rb (G qs), false)], [])) (h : ∀ (i : Int) (j : Int) (sh : List Int) (da : List Int), (gdB da i j) = true → ∃ fuel, runF Try.prog impl_GradeUp_1.X impl_GradeUp_1.I 0 fuel 22 Try.f22 [.d (.int .i64 i), .d (.int .i64 j), .d (.pbox [(.ints .i64 sh), (.ints .i64 da)])] = some ([.one ((.int .i64 (gdC da i j)), false)], [])) : CallSpec Try.prog impl_GradeUp_1.E :=
  callSpec_of (d := 0) hX (by kernel_rfl) impl_GradeUp_1.I_ok (by kernel_rfl) (by kernel_rfl) (by kernel_rfl) hfn (fun xs hp => by
    dsimp only [impl_GradeUp_1.E] at hp ⊢
    split at hp
    · exact h _ _ _ _ hp
    · cases hp)
theorem impl_GradeUp_1.ok : CallSpec Try.prog impl_GradeUp_1.E := impl_GradeUp_1.ok_of (by simp [impl_GradeUp_1.X, cmp_Compare_int.ok]) (fun ds rb dom G h qs hq => by
  dsimp only [impl_GradeUp_1.E] at h
  split at h
  case h_2 => cases h
  cases h
  match qs, hq with
  | [.i i, .i j], hq =>
    simp only [gdQ] at hq
    simp only [impl_GradeUp_1.E, Entry.m, List.map, List.cons_append, List.nil_append, Q.d, hq, cond_true, if_true]
    rfl) fun i j sh da h => ⟨0, by
  simp only [gdB, Bool.and_eq_true, decide_eq_true_eq] at h
  obtain ⟨p, rfl⟩ : ∃ p : Nat, i = p := ⟨i.toNat, by omega⟩
  obtain ⟨q, rfl⟩ : ∃ q : Nat, j = q := ⟨j.toNat, by omega⟩
  have hp : p < da.length := by omega
  have hq : q < da.length := by omega
  rw [impl_GradeUp_1.e, idx_nat hp, idx_nat hq]
  simp only [Option.bind_some, getD_get hp, getD_get hq, gdC, Int.toNat_natCast]⟩

namespace slices_insertionSortCmpFunc_int
noncomputable def E : Entry := ⟨41, false, true, fun | [.rows true [(.i64, xs)], .d (.int .i64 a), .d (.int .i64 b), .d (.fn false dom G)] => decide ((xs : List Int).length ≤ 60) && domA dom xs && decide (0 ≤ a) && decide (a ≤ b) && decide (b ≤ (((xs : List Int).length : Nat) : Int)) | _ => false, fun | [.rows true [(.i64, xs)], .d (.int .i64 a), .d (.int .i64 b), .d (.fn false dom G)] => ([], [[(.ints .i64 (isW G a.toNat (b - a).toNat xs))]]) | _ => ([], []), fun _ => [], false, fun _ => none⟩
end slices_insertionSortCmpFunc_int
namespace slices_insertionSortCmpFunc_int
noncomputable def X : List Entry := []
noncomputable def I : List Inl := [⟨41, Try.f41, ⟨[], [(1000001, [4, 5, 6, 7, 9, 10, 11, 12, 13, 14, 15, 16, 17, 18, 19, 20, 21, 22, 23, 24, 25, 26, 27, 28, 29, 30, 31, 32, 33, 34, 35, 36, 37, 38, 39, 40, 41, 42, 43, 44, 45, 46, 47, 48, 49, 50, 51, 52]), (1000004, [4, 5, 6, 7, 10, 11, 12, 13, 14, 15, 16, 17, 18, 19, 20, 21, 22, 23, 24, 25, 26, 27, 28, 29, 30, 31, 32, 33, 34, 35, 36, 37, 38, 39, 40, 41, 42, 43, 44, 45, 46, 47, 48, 49, 50, 51, 52])], [], [(4, [0, 1, 2, 3, 4, 5, 6, 9, 10, 11, 7, 8, 12, 13, 14, 15, 16]), (6, [0, 1, 2, 3, 4, 5, 6, 7, 10, 11, 8, 9, 12, 13, 14, 15, 16, 17])], [], []⟩⟩]
theorem I_ok : ∀ i ∈ I, Try.prog.funcs[i.f]? = some i.fn ∧ (i.fn.name == "runtime.NumGoroutine") = false := by
  intro i hi
  simp only [I, List.mem_cons, List.not_mem_nil, or_false] at hi
  subst hi
  exact ⟨by kernel_rfl, by kernel_rfl⟩
noncomputable abbrev L0 (fuel n : Nat) (s : St) (k : Kont) := lAt Try.prog X I fuel false 0 false 41 (bodyOf Try.f41) [1, 0] n s k
noncomputable abbrev k0  (fuel : Nat) : Kont := (kAt Try.prog X I fuel false 0 false 41 (bodyOf Try.f41) [1, 0] [] (endK Try.prog Try.f41))
noncomputable def t0 (p1 : Int) (p2 : Int) (p3d : List Q → Bool) (p3g : List Q → Int) (x0q4 : Int) (x0q5 : List Int) : St := ⟨[(.all 1000000000 1), (.imm (.int .i64 p1)), (.imm (.int .i64 p2)), (.imm (.fn false p3d p3g)), .dead, .dead, .dead, .dead, (.imm (.int .i64 x0q4)), .dead, .dead, .dead, .dead, .dead, .dead, .dead, .dead, .dead, .dead, .dead, .dead, .dead, .dead, .dead, .dead, .dead, .dead, .dead, .dead, .dead, .dead, .dead, .dead, .dead, .dead, .dead, .dead, .dead, .dead, .dead, .dead, .dead, .dead, .dead, .dead, .dead, .dead, .dead, .dead, .dead, .dead, .dead, .dead], hOf [(1000000000, (.ints .i64 x0q5))], [(.all 1000000000 1)], []⟩
noncomputable abbrev L1 (fuel n : Nat) (s : St) (k : Kont) := lAt Try.prog X I fuel false 0 false 41 (bodyOf Try.f41) [1, 0, 0, 1, 0, 0, 1, 0] n s k
noncomputable abbrev k1 (n0 : Nat) (fuel : Nat) : Kont := (kAt Try.prog X I fuel false 0 false 41 (bodyOf Try.f41) [1, 0, 0, 1, 0, 0, 1, 0] [n0] (endK Try.prog Try.f41))
noncomputable def t1 (p1 : Int) (p2 : Int) (p3d : List Q → Bool) (p3g : List Q → Int) (x0q4 : Int) (x1q5 : Int) (x1q6 : List Int) : St := ⟨[(.all 1000000000 1), (.imm (.int .i64 p1)), (.imm (.int .i64 p2)), (.imm (.fn false p3d p3g)), .dead, .dead, .dead, .dead, (.imm (.int .i64 x0q4)), (.imm (.int .i64 x1q5)), .dead, .dead, .dead, .dead, .dead, .dead, .dead, .dead, .dead, .dead, .dead, .dead, .dead, .dead, .dead, .dead, .dead, .dead, .dead, .dead, .dead, .dead, .dead, .dead, .dead, .dead, .dead, .dead, .dead, .dead, .dead, .dead, .dead, .dead, .dead, .dead, .dead, .dead, .dead, .dead, .dead, .dead, .dead], hOf [(1000000000, (.ints .i64 x1q6))], [(.all 1000000000 1)], []⟩
theorem e (fuel : Nat) (p0 : List Int) (p1 : Int) (p2 : Int) (p3d : List Q → Bool) (p3g : List Q → Int) : runF Try.prog X I 0 fuel 41 Try.f41 [.rows true [(.i64, p0)], .d (.int .i64 p1), .d (.int .i64 p2), .d (.fn false p3d p3g)] =
  L0 fuel fuel (t0 p1 p2 p3d p3g ((IntKind.wrap .i64 (p1 + 1))) p0) (k0  fuel) := by kernel_rfl
theorem s0 (fuel n0 : Nat) (p1 : Int) (p2 : Int) (p3d : List Q → Bool) (p3g : List Q → Int) (x0q4 : Int) (x0q5 : List Int) : L0 fuel (n0 + 1) (t0 p1 p2 p3d p3g x0q4 x0q5) (k0  fuel) =
  (bif (decide ((x0q4 : Int) < p2)) then
  L1 fuel fuel (t1 p1 p2 p3d p3g x0q4 x0q4 x0q5) (k1 n0 fuel)
  else
  some ([], [[(.ints .i64 x0q5)]])) := by kernel_rfl
theorem s1 (fuel n0 n1 : Nat) (p1 : Int) (p2 : Int) (p3d : List Q → Bool) (p3g : List Q → Int) (x0q4 : Int) (x1q5 : Int) (x1q6 : List Int) : L1 fuel (n1 + 1) (t1 p1 p2 p3d p3g x0q4 x1q5 x1q6) (k1 n0 fuel) =
  (bif (decide ((x1q5 : Int) > p1)) then
  (idx x1q5 x1q6.length).bind fun j61 =>
  (x1q6[j61]?).bind fun v62 =>
  (idx (IntKind.wrap .i64 (x1q5 - 1)) x1q6.length).bind fun j63 =>
  (x1q6[j63]?).bind fun v64 =>
  (bif (p3d [Q.i v62, Q.i v64]) then
  (bif (decide (((p3g [Q.i v62, Q.i v64]) : Int) < 0)) then
  (idx (IntKind.wrap .i64 (x1q5 - 1)) x1q6.length).bind fun j65 =>
  (x1q6[j65]?).bind fun v66 =>
  (idx x1q5 x1q6.length).bind fun j67 =>
  (x1q6[j67]?).bind fun v68 =>
  (idx x1q5 x1q6.length).bind fun j69 =>
  (bif decide (j69 < x1q6.length) then
  (idx (IntKind.wrap .i64 (x1q5 - 1)) (x1q6.set j69 v66).length).bind fun j70 =>
  (bif decide (j70 < (x1q6.set j69 v66).length) then
  L1 fuel n1 (t1 p1 p2 p3d p3g x0q4 ((IntKind.wrap .i64 (x1q5 - 1))) (((x1q6.set j69 v66).set j70 v68))) (k1 n0 fuel)
  else
  none)
  else
  none)
  else
  L0 fuel n0 (t0 p1 p2 p3d p3g ((IntKind.wrap .i64 (x0q4 + 1))) x1q6) (k0  fuel))
  else
  none)
  else
  L0 fuel n0 (t0 p1 p2 p3d p3g ((IntKind.wrap .i64 (x0q4 + 1))) x1q6) (k0  fuel)) := by kernel_rfl
end slices_insertionSortCmpFunc_int
theorem slices_insertionSortCmpFunc_int.ok_of (hX : ∀ E ∈ slices_insertionSortCmpFunc_int.X, CallSpec Try.prog E) (h : ∀ (xs : List Int) (a : Int) (b : Int) (dom : List Q → Bool) (G : List Q → Int), (decide ((xs : List Int).length ≤ 60) && domA dom xs && decide (0 ≤ a) && decide (a ≤ b) && decide (b ≤ (((xs : List Int).length : Nat) : Int))) = true → ∃ fuel, runF Try.prog slices_insertionSortCmpFunc_int.X slices_insertionSortCmpFunc_int.I 0 fuel 41 Try.f41 [.rows true [(.i64, xs)], .d (.int .i64 a), .d (.int .i64 b), .d (.fn false dom G)] = some ([], [[(.ints .i64 (isW G a.toNat (b - a).toNat xs))]])) : CallSpec Try.prog slices_insertionSortCmpFunc_int.E :=
  callSpec_of (d := 0) hX (by kernel_rfl) slices_insertionSortCmpFunc_int.I_ok (by kernel_rfl) (by kernel_rfl) (by kernel_rfl) (fun _ _ _ _ h => by dsimp only [slices_insertionSortCmpFunc_int.E] at h; cases h) (fun xs hp => by
    dsimp only [slices_insertionSortCmpFunc_int.E] at hp ⊢
    split at hp
    · exact h _ _ _ _ _ hp
    · cases hp)
theorem slices_insertionSortCmpFunc_int.inner (fuel n0 : Nat) (a b : Nat) (dom : List Q → Bool) (G : List Q → Int) (i : Int) : ∀ (k n : Nat) (xs : List Int), k < n → a + k < xs.length → xs.length ≤ 60 → domA dom xs = true →
    slices_insertionSortCmpFunc_int.L1 fuel n (slices_insertionSortCmpFunc_int.t1 (a : Int) (b : Int) dom G i ((a + k : Nat) : Int) xs) (slices_insertionSortCmpFunc_int.k1 n0 fuel) = slices_insertionSortCmpFunc_int.L0 fuel n0 (slices_insertionSortCmpFunc_int.t0 (a : Int) (b : Int) dom G (IntKind.wrap .i64 (i + 1)) (bubA (ltG G) a k xs)) (slices_insertionSortCmpFunc_int.k0 fuel) := by
  intro k
  induction k with
  | zero =>
    intro n xs h1 h2 h3 h4
    obtain ⟨n, rfl⟩ : ∃ n', n = n' + 1 := ⟨n - 1, by omega⟩
    rw [slices_insertionSortCmpFunc_int.s1, decide_eq_false (by omega)]
    rfl
  | succ k ih =>
    intro n xs h1 h2 h3 h4
    obtain ⟨n, rfl⟩ : ∃ n', n = n' + 1 := ⟨n - 1, by omega⟩
    have e1 : IntKind.wrap .i64 (((a + (k + 1) : Nat) : Int) - 1) = ((a + k : Nat) : Int) := by rw [wS (by omega) (by omega)]; omega
    have hd := domA_get h4 (mem_getD (A := xs) (n := a + (k + 1)) h2) (mem_getD (A := xs) (n := a + k) (by omega))
    rw [slices_insertionSortCmpFunc_int.s1, decide_eq_true (by omega), cond_true, e1, idx_nat h2, idx_nat (show a + k < xs.length by omega)]
    simp only [Option.bind_some, getD_get h2, getD_get (show a + k < xs.length by omega), hd, cond_true]
    rw [decide_eq_true h2, cond_true, List.length_set, idx_nat (show a + k < xs.length by omega)]
    simp only [Option.bind_some, List.length_set]
    rw [decide_eq_true (show a + k < xs.length by omega), cond_true]
    simp only [bubA]
    rw [show ltG G (xs.getD (a + k + 1) 0) (xs.getD (a + k) 0) = decide (G [Q.i (xs.getD (a + (k + 1)) 0), Q.i (xs.getD (a + k) 0)] < 0) from rfl]
    cases decide (G [Q.i (xs.getD (a + (k + 1)) 0), Q.i (xs.getD (a + k) 0)] < 0) with
    | false => rfl
    | true =>
      simp only [cond_true]
      refine ih n _ (by omega) (by simp only [List.length_set]; omega) (by simp only [List.length_set]; omega) (domA_sub h4 fun y hy => ?_)
      rcases List.mem_or_eq_of_mem_set hy with h5 | rfl
      · rcases List.mem_or_eq_of_mem_set h5 with h6 | rfl
        · exact h6
        · exact mem_getD (by omega)
      · exact mem_getD (by omega)
theorem slices_insertionSortCmpFunc_int.ok : CallSpec Try.prog slices_insertionSortCmpFunc_int.E := slices_insertionSortCmpFunc_int.ok_of (by simp [slices_insertionSortCmpFunc_int.X]) fun xs a b dom G h => by
  obtain ⟨F, hF⟩ : ∃ F : Nat, 100 < F := ⟨101, by omega⟩
  refine ⟨F, ?_⟩
  simp only [Bool.and_eq_true, decide_eq_true_eq] at h
  obtain ⟨⟨⟨⟨h1, h2⟩, h3⟩, h4⟩, h5⟩ := h
  obtain ⟨p, rfl⟩ : ∃ p : Nat, a = p := ⟨a.toNat, by omega⟩
  obtain ⟨q, rfl⟩ : ∃ q : Nat, b = q := ⟨b.toNat, by omega⟩
  have e0 : ((q : Int) - (p : Int)).toNat = q - p := by omega
  rw [slices_insertionSortCmpFunc_int.e, w1 (by omega), e0, Int.toNat_natCast]
  unfold isW
  by_cases hz : q = p
  · subst hz
    obtain ⟨f, rfl⟩ : ∃ f, F = f + 1 := ⟨F - 1, by omega⟩
    rw [slices_insertionSortCmpFunc_int.s0, decide_eq_false (by omega), Nat.sub_self]
    rfl
  · have hl := isN_len (ltG G) p
    refine run_loop (N := q - p) (fun n i (ys : List Int) => slices_insertionSortCmpFunc_int.L0 F n (slices_insertionSortCmpFunc_int.t0 (p : Int) (q : Int) dom G ((p + i : Nat) : Int) ys) (slices_insertionSortCmpFunc_int.k0 F)) (fun i ys => ys = isN (ltG G) p i xs) ?_ ?_ F 1 xs (by omega) (by omega) rfl
    · rintro n ys rfl
      rw [slices_insertionSortCmpFunc_int.s0, decide_eq_false (by omega)]
      rfl
    · rintro n i ys hi rfl
      refine ⟨_, rfl, ?_⟩
      rw [slices_insertionSortCmpFunc_int.s0, decide_eq_true (by omega), cond_true]
      rw [slices_insertionSortCmpFunc_int.inner F n p q dom G ((p + i : Nat) : Int) i F _ (by omega) (by rw [hl]; omega) (by rw [hl]; omega) (domA_sub h2 (isN_mem _ _ _ _ (by omega))), w1 (by omega)]
      rfl

namespace slices_symMergeCmpFunc_int
noncomputable def E : Entry := ⟨42, false, true, fun | [.rows true [(.i64, xs)], .d (.int .i64 a), .d (.int .i64 m), .d (.int .i64 b), .d (.fn false dom G)] => false | _ => false, fun | [.rows true [(.i64, xs)], .d (.int .i64 a), .d (.int .i64 m), .d (.int .i64 b), .d (.fn false dom G)] => ([], [[(.ints .i64 xs)]]) | _ => ([], []), fun _ => [], false, fun _ => none⟩
end slices_symMergeCmpFunc_int
theorem slices_symMergeCmpFunc_int.ok : CallSpec Try.prog slices_symMergeCmpFunc_int.E := callSpec_of (X := []) (I := []) (d := 0) (fn := Try.f42) (by simp) (by kernel_rfl) (by simp) (by kernel_rfl) (by kernel_rfl) (by kernel_rfl) (fun _ _ _ _ h => by dsimp only [slices_symMergeCmpFunc_int.E] at h; cases h) (fun xs hp => by
    dsimp only [slices_symMergeCmpFunc_int.E] at hp
    split at hp <;> cases hp)

namespace smv1
noncomputable def E : Entry := ⟨42, false, true, fun | [.rows true [(.i64, xs)], .d (.int .i64 a), .d (.int .i64 m), .d (.int .i64 b), .d (.fn false dom G)] => decide ((xs : List Int).length ≤ 60) && domA dom xs && mgW G xs a m b && decide (0 ≤ a) && decide (a < m) && decide (m < b) && decide (b - a ≤ 2) | _ => false, fun | [.rows true [(.i64, xs)], .d (.int .i64 a), .d (.int .i64 m), .d (.int .i64 b), .d (.fn false dom G)] => ([], [[(.ints .i64 (segS (ltG G) a.toNat b.toNat xs))]]) | _ => ([], []), fun _ => [], false, fun _ => none⟩
end smv1
namespace smv1
noncomputable def X : List Entry := [slices_symMergeCmpFunc_int.E]
noncomputable def I : List Inl := [⟨42, Try.f42, ⟨[], [(40, [5, 6, 7, 8, 9, 10, 11, 12, 13, 14, 15, 16, 17, 19, 21, 22, 23, 25, 26, 27, 28, 29, 30, 31, 32, 33, 34, 35, 36, 37, 38, 39, 40, 41, 42, 43, 44, 45, 46, 47, 48, 49, 50, 51, 52, 53, 54, 55, 56, 57, 58, 59, 60, 61, 62, 63, 64, 65, 66, 67, 68, 69, 70, 71, 72, 73, 74, 75, 76, 77, 78, 79, 80, 81, 82, 83, 84, 85, 86, 87, 88, 89, 90, 91, 92, 93, 94, 95, 96, 97, 98, 99, 100, 101, 102, 103, 104, 105, 106, 107, 108, 109, 110, 111, 112, 113, 114, 115, 116, 117, 118, 119, 120, 121, 122, 123, 124, 125, 126, 127, 128, 129, 130, 131, 132, 133, 134, 135, 136, 137, 138, 139, 140, 141, 142, 143, 144, 145, 146, 147, 148, 149, 150, 151, 152, 153, 154, 155, 156, 157, 158, 159, 160, 161, 162, 163, 164, 165, 166, 167, 168, 169, 170, 171, 172, 173, 174, 175, 176, 177, 178, 179, 180, 181, 182, 183, 184, 185, 186, 187, 188, 189, 190, 191, 192, 193, 194, 195, 196, 197, 198, 199, 200, 201, 202, 203, 204, 205, 206, 207, 208, 209, 210, 211, 212, 213, 214, 215, 216, 217, 218, 219]), (1000003, [2, 3, 5, 6, 7, 8, 9, 12, 13, 14, 15, 16, 17, 18, 19, 20, 21, 22, 23, 24, 25, 26, 27, 28, 29, 30, 31, 32, 33, 34, 35, 36, 37, 38, 39, 40, 41, 42, 43, 44, 45, 46, 47, 48, 49, 50, 51, 52, 53, 54, 55, 56, 57, 58, 59, 60, 61, 62, 63, 64, 65, 66, 67, 68, 69, 70, 71, 72, 73, 74, 75, 76, 77, 78, 79, 80, 81, 82, 83, 84, 85, 86, 87, 88, 89, 90, 91, 92, 93, 94, 95, 96, 97, 98, 99, 100, 101, 102, 103, 104, 105, 106, 107, 108, 109, 110, 111, 112, 113, 114, 115, 116, 117, 118, 119, 120, 121, 122, 123, 124, 125, 126, 127, 128, 129, 130, 131, 132, 133, 134, 135, 136, 137, 138, 139, 140, 141, 142, 143, 144, 145, 146, 147, 148, 149, 150, 151, 152, 153, 154, 155, 156, 157, 158, 159, 160, 161, 162, 163, 164, 165, 166, 167, 168, 169, 170, 171, 172, 173, 174, 175, 176, 177, 178, 179, 180, 181, 182, 183, 184, 185, 186, 187, 188, 189, 190, 191, 192, 193, 194, 195, 196, 197, 198, 199, 200, 201, 202, 203, 204, 205, 206, 207, 208, 209, 210, 211, 212, 213, 214, 215, 216, 217, 218, 219]), (1000009, [1, 2, 3, 4, 5, 6, 7, 8, 9, 11, 12, 14, 15, 16, 17, 18, 19, 20, 21, 22, 23, 24, 25, 26, 27, 28, 29, 30, 31, 32, 33, 34, 35, 36, 37, 38, 39, 40, 41, 42, 43, 44, 45, 46, 47, 48, 49, 50, 51, 52, 53, 54, 55, 56, 57, 58, 59, 60, 61, 62, 63, 64, 65, 66, 67, 68, 69, 70, 71, 72, 73, 74, 75, 76, 77, 78, 79, 80, 81, 82, 83, 84, 85, 86, 87, 88, 89, 90, 91, 92, 93, 94, 95, 96, 97, 98, 99, 100, 101, 102, 103, 104, 105, 106, 107, 108, 109, 110, 111, 112, 113, 114, 115, 116, 117, 118, 119, 120, 121, 122, 123, 124, 125, 126, 127, 128, 129, 130, 131, 132, 133, 134, 135, 136, 137, 138, 139, 140, 141, 142, 143, 144, 145, 146, 147, 148, 149, 150, 151, 152, 153, 154, 155, 156, 157, 158, 159, 160, 161, 162, 163, 164, 165, 166, 167, 168, 169, 170, 171, 172, 173, 174, 175, 176, 177, 178, 179, 180, 181, 182, 183, 184, 185, 186, 187, 188, 189, 190, 191, 192, 193, 194, 195, 196, 197, 198, 199, 200, 201, 202, 203, 204, 205, 206, 207, 208, 209, 210, 211, 212, 213, 214, 215, 216, 217, 218, 219]), (1000015, [1, 3, 5, 6, 7, 8, 9, 10, 11, 12, 13, 16, 17, 18, 19, 20, 21, 22, 23, 24, 25, 26, 27, 28, 29, 30, 31, 32, 33, 34, 35, 36, 37, 38, 39, 40, 41, 42, 43, 44, 45, 46, 47, 48, 49, 50, 51, 52, 53, 54, 55, 56, 57, 58, 59, 60, 61, 62, 63, 64, 65, 66, 67, 68, 69, 70, 71, 72, 73, 74, 75, 76, 77, 78, 79, 80, 81, 82, 83, 84, 85, 86, 87, 88, 89, 90, 91, 92, 93, 94, 95, 96, 97, 98, 99, 100, 101, 102, 103, 104, 105, 106, 107, 108, 109, 110, 111, 112, 113, 114, 115, 116, 117, 118, 119, 120, 121, 122, 123, 124, 125, 126, 127, 128, 129, 130, 131, 132, 133, 134, 135, 136, 137, 138, 139, 140, 141, 142, 143, 144, 145, 146, 147, 148, 149, 150, 151, 152, 153, 154, 155, 156, 157, 158, 159, 160, 161, 162, 163, 164, 165, 166, 167, 168, 169, 170, 171, 172, 173, 174, 175, 176, 177, 178, 179, 180, 181, 182, 183, 184, 185, 186, 187, 188, 189, 190, 191, 192, 193, 194, 195, 196, 197, 198, 199, 200, 201, 202, 203, 204, 205, 206, 207, 208, 209, 210, 211, 212, 213, 214, 215, 216, 217, 218, 219]), (1000021, [1, 2, 3, 4, 5, 6, 7, 8, 9, 10, 11, 12, 13, 15, 16, 18, 19, 20, 21, 22, 23, 24, 25, 26, 27, 28, 29, 30, 31, 32, 33, 34, 35, 36, 37, 38, 39, 40, 41, 42, 43, 44, 45, 46, 47, 48, 49, 50, 51, 52, 53, 54, 55, 56, 57, 58, 59, 60, 61, 62, 63, 64, 65, 66, 67, 68, 69, 70, 71, 72, 73, 74, 75, 76, 77, 78, 79, 80, 81, 82, 83, 84, 85, 86, 87, 88, 89, 90, 91, 92, 93, 94, 95, 96, 97, 98, 99, 100, 101, 102, 103, 104, 105, 106, 107, 108, 109, 110, 111, 112, 113, 114, 115, 116, 117, 118, 119, 120, 121, 122, 123, 124, 125, 126, 127, 128, 129, 130, 131, 132, 133, 134, 135, 136, 137, 138, 139, 140, 141, 142, 143, 144, 145, 146, 147, 148, 149, 150, 151, 152, 153, 154, 155, 156, 157, 158, 159, 160, 161, 162, 163, 164, 165, 166, 167, 168, 169, 170, 171, 172, 173, 174, 175, 176, 177, 178, 179, 180, 181, 182, 183, 184, 185, 186, 187, 188, 189, 190, 191, 192, 193, 194, 195, 196, 197, 198, 199, 200, 201, 202, 203, 204, 205, 206, 207, 208, 209, 210, 211, 212, 213, 214, 215, 216, 217, 218, 219]), (1000033, [5, 6, 7, 8, 9, 10, 11, 12, 13, 14, 15, 16, 17, 23, 24, 25, 26, 27, 28, 29, 30, 31, 32, 33, 34, 35, 36, 37, 38, 39, 40, 41, 42, 43, 44, 45, 46, 47, 48, 49, 50, 51, 52, 53, 54, 55, 56, 57, 58, 59, 60, 61, 62, 63, 64, 65, 66, 67, 68, 69, 70, 71, 72, 73, 74, 75, 76, 77, 78, 79, 80, 81, 82, 83, 84, 85, 86, 87, 88, 89, 90, 91, 92, 93, 94, 95, 96, 97, 98, 99, 100, 101, 102, 103, 104, 105, 106, 107, 108, 109, 110, 111, 112, 113, 114, 115, 116, 117, 118, 119, 120, 121, 122, 123, 124, 125, 126, 127, 128, 129, 130, 131, 132, 133, 134, 135, 136, 137, 138, 139, 140, 141, 142, 143, 144, 145, 146, 147, 148, 149, 150, 151, 152, 153, 154, 155, 156, 157, 158, 159, 160, 161, 162, 163, 164, 165, 166, 167, 168, 169, 170, 171, 172, 173, 174, 175, 176, 177, 178, 179, 180, 181, 182, 183, 184, 185, 186, 187, 188, 189, 190, 191, 192, 193, 194, 195, 196, 197, 198, 199, 200, 201, 202, 203, 204, 205, 206, 207, 208, 209, 210, 211, 212, 213, 214, 215, 216, 217, 218, 219])], [], [(5, [0, 1, 2, 5, 6, 3, 4, 7, 8, 9, 10]), (11, [0, 1, 2, 3, 4, 5, 6, 7, 10, 11, 8, 9, 12, 13, 14, 15, 16, 17]), (17, [0, 1, 2, 5, 6, 3, 4, 7, 8, 9, 10, 11]), (23, [0, 1, 2, 3, 4, 5, 6, 7, 10, 11, 8, 9, 12, 13, 14, 15, 16, 17]), (35, [0, 1, 2, 3, 4, 7, 8, 5, 6, 9, 10, 11, 12, 13])], [], []⟩⟩, ⟨44, Try.f44, ⟨[], [(4, [1, 3, 5, 6, 7, 8, 9, 12, 13, 14, 15, 16, 17, 18, 19, 20, 21, 22, 23, 24, 25, 26, 27, 28, 29, 30, 31, 32, 33, 34, 35, 36, 37, 38, 39, 40, 41, 42, 43, 44, 45, 46, 47, 48, 49, 50, 51, 52, 53, 54, 55, 56, 57]), (6, [1, 3, 5, 6, 7, 8, 9, 12, 13, 14, 15, 16, 17, 18, 19, 20, 21, 22, 23, 24, 25, 26, 27, 28, 29, 30, 31, 32, 33, 34, 35, 36, 37, 38, 39, 40, 41, 42, 43, 44, 45, 46, 47, 48, 49, 50, 51, 52, 53, 54, 55, 56, 57]), (8, [1, 3, 5, 6, 7, 8, 9, 11, 12, 13, 14, 15, 16, 17, 18, 19, 20, 21, 22, 23, 24, 25, 26, 27, 28, 29, 30, 31, 32, 33, 34, 35, 36, 37, 38, 39, 40, 41, 42, 43, 44, 45, 46, 47, 48, 49, 50, 51, 52, 53, 54, 55, 56, 57]), (1000002, [1, 3, 5, 6, 7, 8, 9, 12, 13, 14, 15, 16, 17, 18, 19, 20, 21, 22, 23, 24, 25, 26, 27, 28, 29, 30, 31, 32, 33, 34, 35, 36, 37, 38, 39, 40, 41, 42, 43, 44, 45, 46, 47, 48, 49, 50, 51, 52, 53, 54, 55, 56, 57])], [], [], [], []⟩⟩, ⟨45, Try.f45, ⟨[], [(1000001, [4, 5, 6, 7, 8, 9, 11, 12, 13, 14, 15, 16, 17, 18, 19, 20, 21, 22, 23, 24, 25, 26, 27, 28, 29, 30, 31, 32, 33, 34, 35, 36, 37])], [], [(3, [0, 1, 2, 3, 4, 5, 6, 7, 8, 9, 10, 11, 14, 15, 16, 17, 12, 13, 18, 19, 20, 21, 22, 23])], [], []⟩⟩]
theorem I_ok : ∀ i ∈ I, Try.prog.funcs[i.f]? = some i.fn ∧ (i.fn.name == "runtime.NumGoroutine") = false := by
  intro i hi
  simp only [I, List.mem_cons, List.not_mem_nil, or_false] at hi
  rcases hi with rfl | rfl | rfl
  all_goals exact ⟨by kernel_rfl, by kernel_rfl⟩
noncomputable abbrev L0 (fuel n : Nat) (s : St) (k : Kont) := lAt Try.prog X I fuel false 4 false 42 (bodyOf Try.f42) [0, 1, 0, 1, 1, 0, 0] n s k
noncomputable abbrev k0  (fuel : Nat) : Kont := (kAt Try.prog X I fuel false 4 false 42 (bodyOf Try.f42) [0, 1, 0, 1, 1, 0, 0] [] (endK Try.prog Try.f42))
noncomputable def t0 (p1 : Int) (p4d : List Q → Bool) (p4g : List Q → Int) (p0 : List Int) (x0q3 : Int) (x0q4 : Int) : St := ⟨[(.all 1000000000 1), (.imm (.int .i64 p1)), .dead, .dead, (.imm (.fn false p4d p4g)), .dead, .dead, .dead, .dead, .dead, (.imm (.int .i64 x0q3)), (.imm (.int .i64 x0q4)), .dead, .dead, .dead, .dead, .dead, .dead, .dead, .dead, .dead, .dead, .dead, .dead, .dead, .dead, .dead, .dead, .dead, .dead, .dead, .dead, .dead, .dead, .dead, .dead, .dead, .dead, .dead, .dead, .dead, .dead, .dead, .dead, .dead, .dead, .dead, .dead, .dead, .dead, .dead, .dead, .dead, .dead, .dead, .dead, .dead, .dead, .dead, .dead, .dead, .dead, .dead, .dead, .dead, .dead, .dead, .dead, .dead, .dead, .dead, .dead, .dead, .dead, .dead, .dead, .dead, .dead, .dead, .dead, .dead, .dead, .dead, .dead, .dead, .dead, .dead, .dead, .dead, .dead, .dead, .dead, .dead, .dead, .dead, .dead, .dead, .dead, .dead, .dead, .dead, .dead, .dead, .dead, .dead, .dead, .dead, .dead, .dead, .dead, .dead, .dead, .dead, .dead, .dead, .dead, .dead, .dead, .dead, .dead, .dead, .dead, .dead, .dead, .dead, .dead, .dead, .dead, .dead, .dead, .dead, .dead, .dead, .dead, .dead, .dead, .dead, .dead, .dead, .dead, .dead, .dead, .dead, .dead, .dead, .dead, .dead, .dead, .dead, .dead, .dead, .dead, .dead, .dead, .dead, .dead, .dead, .dead, .dead, .dead, .dead, .dead, .dead, .dead, .dead, .dead, .dead, .dead, .dead, .dead, .dead, .dead, .dead, .dead, .dead, .dead, .dead, .dead, .dead, .dead, .dead, .dead, .dead, .dead, .dead, .dead, .dead, .dead, .dead, .dead, .dead, .dead, .dead, .dead, .dead, .dead, .dead, .dead, .dead, .dead, .dead, .dead, .dead, .dead, .dead, .dead, .dead, .dead, .dead, .dead, .dead, .dead, .dead, .dead, .dead, .dead, .dead, .dead, .dead, .dead], hOf [(1000000000, (.ints .i64 p0))], [(.all 1000000000 1)], []⟩
noncomputable abbrev L1 (fuel n : Nat) (s : St) (k : Kont) := lAt Try.prog X I fuel false 4 false 42 (bodyOf Try.f42) [0, 1, 0, 1, 1, 1, 0, 1, 0] n s k
noncomputable abbrev k1  (fuel : Nat) : Kont := (kAt Try.prog X I fuel false 4 false 42 (bodyOf Try.f42) [0, 1, 0, 1, 1, 1, 0, 1, 0] [] (endK Try.prog Try.f42))
noncomputable def t1 (x0q3 : Int) (x1q1 : Int) (x1q2 : List Int) : St := ⟨[(.all 1000000000 1), .dead, .dead, .dead, .dead, .dead, .dead, .dead, .dead, .dead, (.imm (.int .i64 x0q3)), .dead, .dead, (.imm (.int .i64 x1q1)), .dead, .dead, .dead, .dead, .dead, .dead, .dead, .dead, .dead, .dead, .dead, .dead, .dead, .dead, .dead, .dead, .dead, .dead, .dead, .dead, .dead, .dead, .dead, .dead, .dead, .dead, .dead, .dead, .dead, .dead, .dead, .dead, .dead, .dead, .dead, .dead, .dead, .dead, .dead, .dead, .dead, .dead, .dead, .dead, .dead, .dead, .dead, .dead, .dead, .dead, .dead, .dead, .dead, .dead, .dead, .dead, .dead, .dead, .dead, .dead, .dead, .dead, .dead, .dead, .dead, .dead, .dead, .dead, .dead, .dead, .dead, .dead, .dead, .dead, .dead, .dead, .dead, .dead, .dead, .dead, .dead, .dead, .dead, .dead, .dead, .dead, .dead, .dead, .dead, .dead, .dead, .dead, .dead, .dead, .dead, .dead, .dead, .dead, .dead, .dead, .dead, .dead, .dead, .dead, .dead, .dead, .dead, .dead, .dead, .dead, .dead, .dead, .dead, .dead, .dead, .dead, .dead, .dead, .dead, .dead, .dead, .dead, .dead, .dead, .dead, .dead, .dead, .dead, .dead, .dead, .dead, .dead, .dead, .dead, .dead, .dead, .dead, .dead, .dead, .dead, .dead, .dead, .dead, .dead, .dead, .dead, .dead, .dead, .dead, .dead, .dead, .dead, .dead, .dead, .dead, .dead, .dead, .dead, .dead, .dead, .dead, .dead, .dead, .dead, .dead, .dead, .dead, .dead, .dead, .dead, .dead, .dead, .dead, .dead, .dead, .dead, .dead, .dead, .dead, .dead, .dead, .dead, .dead, .dead, .dead, .dead, .dead, .dead, .dead, .dead, .dead, .dead, .dead, .dead, .dead, .dead, .dead, .dead, .dead, .dead, .dead, .dead, .dead, .dead, .dead, .dead], hOf [(1000000000, (.ints .i64 x1q2))], [(.all 1000000000 1)], []⟩
noncomputable abbrev L2 (fuel n : Nat) (s : St) (k : Kont) := lAt Try.prog X I fuel false 4 false 42 (bodyOf Try.f42) [1, 0, 1, 0, 1, 1, 0, 0] n s k
noncomputable abbrev k2  (fuel : Nat) : Kont := (kAt Try.prog X I fuel false 4 false 42 (bodyOf Try.f42) [1, 0, 1, 0, 1, 1, 0, 0] [] (endK Try.prog Try.f42))
noncomputable def t2 (p2 : Int) (p4d : List Q → Bool) (p4g : List Q → Int) (p0 : List Int) (x2q3 : Int) (x2q4 : Int) : St := ⟨[(.all 1000000000 1), .dead, (.imm (.int .i64 p2)), .dead, (.imm (.fn false p4d p4g)), .dead, .dead, .dead, .dead, .dead, .dead, .dead, .dead, .dead, (.imm (.int .i64 x2q3)), (.imm (.int .i64 x2q4)), .dead, .dead, .dead, .dead, .dead, .dead, .dead, .dead, .dead, .dead, .dead, .dead, .dead, .dead, .dead, .dead, .dead, .dead, .dead, .dead, .dead, .dead, .dead, .dead, .dead, .dead, .dead, .dead, .dead, .dead, .dead, .dead, .dead, .dead, .dead, .dead, .dead, .dead, .dead, .dead, .dead, .dead, .dead, .dead, .dead, .dead, .dead, .dead, .dead, .dead, .dead, .dead, .dead, .dead, .dead, .dead, .dead, .dead, .dead, .dead, .dead, .dead, .dead, .dead, .dead, .dead, .dead, .dead, .dead, .dead, .dead, .dead, .dead, .dead, .dead, .dead, .dead, .dead, .dead, .dead, .dead, .dead, .dead, .dead, .dead, .dead, .dead, .dead, .dead, .dead, .dead, .dead, .dead, .dead, .dead, .dead, .dead, .dead, .dead, .dead, .dead, .dead, .dead, .dead, .dead, .dead, .dead, .dead, .dead, .dead, .dead, .dead, .dead, .dead, .dead, .dead, .dead, .dead, .dead, .dead, .dead, .dead, .dead, .dead, .dead, .dead, .dead, .dead, .dead, .dead, .dead, .dead, .dead, .dead, .dead, .dead, .dead, .dead, .dead, .dead, .dead, .dead, .dead, .dead, .dead, .dead, .dead, .dead, .dead, .dead, .dead, .dead, .dead, .dead, .dead, .dead, .dead, .dead, .dead, .dead, .dead, .dead, .dead, .dead, .dead, .dead, .dead, .dead, .dead, .dead, .dead, .dead, .dead, .dead, .dead, .dead, .dead, .dead, .dead, .dead, .dead, .dead, .dead, .dead, .dead, .dead, .dead, .dead, .dead, .dead, .dead, .dead, .dead, .dead, .dead, .dead, .dead, .dead, .dead, .dead, .dead, .dead, .dead, .dead], hOf [(1000000000, (.ints .i64 p0))], [(.all 1000000000 1)], []⟩
noncomputable abbrev L3 (fuel n : Nat) (s : St) (k : Kont) := lAt Try.prog X I fuel false 4 false 42 (bodyOf Try.f42) [1, 0, 1, 0, 1, 1, 1, 0, 1, 0] n s k
noncomputable abbrev k3  (fuel : Nat) : Kont := (kAt Try.prog X I fuel false 4 false 42 (bodyOf Try.f42) [1, 0, 1, 0, 1, 1, 1, 0, 1, 0] [] (endK Try.prog Try.f42))
noncomputable def t3 (x2q3 : Int) (x3q1 : Int) (x3q2 : List Int) : St := ⟨[(.all 1000000000 1), .dead, .dead, .dead, .dead, .dead, .dead, .dead, .dead, .dead, .dead, .dead, .dead, .dead, (.imm (.int .i64 x2q3)), .dead, .dead, (.imm (.int .i64 x3q1)), .dead, .dead, .dead, .dead, .dead, .dead, .dead, .dead, .dead, .dead, .dead, .dead, .dead, .dead, .dead, .dead, .dead, .dead, .dead, .dead, .dead, .dead, .dead, .dead, .dead, .dead, .dead, .dead, .dead, .dead, .dead, .dead, .dead, .dead, .dead, .dead, .dead, .dead, .dead, .dead, .dead, .dead, .dead, .dead, .dead, .dead, .dead, .dead, .dead, .dead, .dead, .dead, .dead, .dead, .dead, .dead, .dead, .dead, .dead, .dead, .dead, .dead, .dead, .dead, .dead, .dead, .dead, .dead, .dead, .dead, .dead, .dead, .dead, .dead, .dead, .dead, .dead, .dead, .dead, .dead, .dead, .dead, .dead, .dead, .dead, .dead, .dead, .dead, .dead, .dead, .dead, .dead, .dead, .dead, .dead, .dead, .dead, .dead, .dead, .dead, .dead, .dead, .dead, .dead, .dead, .dead, .dead, .dead, .dead, .dead, .dead, .dead, .dead, .dead, .dead, .dead, .dead, .dead, .dead, .dead, .dead, .dead, .dead, .dead, .dead, .dead, .dead, .dead, .dead, .dead, .dead, .dead, .dead, .dead, .dead, .dead, .dead, .dead, .dead, .dead, .dead, .dead, .dead, .dead, .dead, .dead, .dead, .dead, .dead, .dead, .dead, .dead, .dead, .dead, .dead, .dead, .dead, .dead, .dead, .dead, .dead, .dead, .dead, .dead, .dead, .dead, .dead, .dead, .dead, .dead, .dead, .dead, .dead, .dead, .dead, .dead, .dead, .dead, .dead, .dead, .dead, .dead, .dead, .dead, .dead, .dead, .dead, .dead, .dead, .dead, .dead, .dead, .dead, .dead, .dead, .dead, .dead, .dead, .dead, .dead, .dead, .dead], hOf [(1000000000, (.ints .i64 x3q2))], [(.all 1000000000 1)], []⟩
noncomputable abbrev L4 (fuel n : Nat) (s : St) (k : Kont) := lAt Try.prog X I fuel false 4 false 42 (bodyOf Try.f42) [1, 1, 1, 1, 1, 1, 1, 0, 0] n s k
noncomputable abbrev k4  (fuel : Nat) : Kont := (kAt Try.prog X I fuel false 4 false 42 (bodyOf Try.f42) [1, 1, 1, 1, 1, 1, 1, 0, 0] [] (endK Try.prog Try.f42))
noncomputable def t4 (p1 : Int) (p2 : Int) (p3 : Int) (p4d : List Q → Bool) (p4g : List Q → Int) (p0 : List Int) (x4q7 : Int) (x4q8 : Int) : St := ⟨[(.all 1000000000 1), (.imm (.int .i64 p1)), (.imm (.int .i64 p2)), (.imm (.int .i64 p3)), (.imm (.fn false p4d p4g)), .dead, .dead, .dead, .dead, .dead, .dead, .dead, .dead, .dead, .dead, .dead, .dead, .dead, (.imm (.int .i64 (halfI p1 p3))), (.imm (.int .i64 (IntKind.wrap .i64 ((halfI p1 p3) + p2)))), (.imm (.int .i64 x4q7)), (.imm (.int .i64 x4q8)), (.imm (.int .i64 (IntKind.wrap .i64 ((IntKind.wrap .i64 ((halfI p1 p3) + p2)) - 1)))), .dead, .dead, .dead, .dead, .dead, .dead, .dead, .dead, .dead, .dead, .dead, .dead, .dead, .dead, .dead, .dead, .dead, .dead, .dead, .dead, .dead, .dead, .dead, .dead, .dead, .dead, .dead, .dead, .dead, .dead, .dead, .dead, .dead, .dead, .dead, .dead, .dead, .dead, .dead, .dead, .dead, .dead, .dead, .dead, .dead, .dead, .dead, .dead, .dead, .dead, .dead, .dead, .dead, .dead, .dead, .dead, .dead, .dead, .dead, .dead, .dead, .dead, .dead, .dead, .dead, .dead, .dead, .dead, .dead, .dead, .dead, .dead, .dead, .dead, .dead, .dead, .dead, .dead, .dead, .dead, .dead, .dead, .dead, .dead, .dead, .dead, .dead, .dead, .dead, .dead, .dead, .dead, .dead, .dead, .dead, .dead, .dead, .dead, .dead, .dead, .dead, .dead, .dead, .dead, .dead, .dead, .dead, .dead, .dead, .dead, .dead, .dead, .dead, .dead, .dead, .dead, .dead, .dead, .dead, .dead, .dead, .dead, .dead, .dead, .dead, .dead, .dead, .dead, .dead, .dead, .dead, .dead, .dead, .dead, .dead, .dead, .dead, .dead, .dead, .dead, .dead, .dead, .dead, .dead, .dead, .dead, .dead, .dead, .dead, .dead, .dead, .dead, .dead, .dead, .dead, .dead, .dead, .dead, .dead, .dead, .dead, .dead, .dead, .dead, .dead, .dead, .dead, .dead, .dead, .dead, .dead, .dead, .dead, .dead, .dead, .dead, .dead, .dead, .dead, .dead, .dead, .dead, .dead, .dead, .dead, .dead, .dead, .dead, .dead, .dead, .dead, .dead, .dead, .dead, .dead, .dead, .dead], hOf [(1000000000, (.ints .i64 p0))], [(.all 1000000000 1)], []⟩
noncomputable abbrev L5 (fuel n : Nat) (s : St) (k : Kont) := lAt Try.prog X I fuel false 3 false 44 (bodyOf Try.f44) [1, 1, 0, 0] n s k
noncomputable abbrev k5  (fuel : Nat) : Kont := (kAt Try.prog X I fuel false 3 false 44 (bodyOf Try.f44) [1, 1, 0, 0] [] (endFn Try.prog Try.f44 220 (kOp Try.prog X I fuel false 4 42 (cAt (bodyOf Try.f42) [1, 1, 1, 1, 1, 1, 1, 1, 1, 0, 1, 0]) 5 (kAt Try.prog X I fuel false 4 false 42 (bodyOf Try.f42) [1, 1, 1, 1, 1, 1, 1, 1, 1, 0, 1, 0] [] (endK Try.prog Try.f42)))))
noncomputable def t5 (p2 : Int) (p4d : List Q → Bool) (p4g : List Q → Int) (p1 : Int) (p3 : Int) (x4q7 : Int) (x5q3 : Int) (x5q4 : Int) (x5q5 : List Int) : St := ⟨[(.all 1000000000 1), .dead, (.imm (.int .i64 p2)), .dead, (.imm (.fn false p4d p4g)), .dead, .dead, .dead, .dead, .dead, (.imm (.int .i64 x5q3)), (.imm (.int .i64 x5q4)), .dead, .dead, .dead, .dead, .dead, .dead, .dead, .dead, .dead, .dead, .dead, .dead, .dead, .dead, .dead, .dead, .dead, .dead, .dead, .dead, .dead, .dead, .dead, .dead, .dead, .dead, .dead, .dead, .dead, .dead, .dead, .dead, .dead, .dead, .dead, .dead, .dead, .dead, .dead, .dead, .dead, .dead, .dead, .dead, .dead, .dead], hOf [(1000000000, (.ints .i64 x5q5))], [(.all 1000000000 1), (.imm (.int .i64 p1)), (.imm (.int .i64 p2)), (.imm (.int .i64 p3)), (.imm (.fn false p4d p4g)), .dead, .dead, .dead, .dead, .dead, .dead, .dead, .dead, .dead, .dead, .dead, .dead, .dead, (.imm (.int .i64 (halfI p1 p3))), .dead, (.imm (.int .i64 x4q7)), .dead, .dead, .dead, (.imm (.int .i64 (IntKind.wrap .i64 ((IntKind.wrap .i64 ((halfI p1 p3) + p2)) - x4q7)))), .dead, .dead, .dead, .dead, .dead, .dead, .dead, .dead, .dead, .dead, .dead, .dead, .dead, .dead, .dead, .dead, .dead, .dead, .dead, .dead, .dead, .dead, .dead, .dead, .dead, .dead, .dead, .dead, .dead, .dead, .dead, .dead, .dead, .dead, .dead, .dead, .dead, .dead, .dead, .dead, .dead, .dead, .dead, .dead, .dead, .dead, .dead, .dead, .dead, .dead, .dead, .dead, .dead, .dead, .dead, .dead, .dead, .dead, .dead, .dead, .dead, .dead, .dead, .dead, .dead, .dead, .dead, .dead, .dead, .dead, .dead, .dead, .dead, .dead, .dead, .dead, .dead, .dead, .dead, .dead, .dead, .dead, .dead, .dead, .dead, .dead, .dead, .dead, .dead, .dead, .dead, .dead, .dead, .dead, .dead, .dead, .dead, .dead, .dead, .dead, .dead, .dead, .dead, .dead, .dead, .dead, .dead, .dead, .dead, .dead, .dead, .dead, .dead, .dead, .dead, .dead, .dead, .dead, .dead, .dead, .dead, .dead, .dead, .dead, .dead, .dead, .dead, .dead, .dead, .dead, .dead, .dead, .dead, .dead, .dead, .dead, .dead, .dead, .dead, .dead, .dead, .dead, .dead, .dead, .dead, .dead, .dead, .dead, .dead, .dead, .dead, .dead, .dead, .dead, .dead, .dead, .dead, .dead, .dead, .dead, .dead, (.all 1000000000 1), (.imm (.int .i64 x4q7)), (.imm (.int .i64 p2)), (.imm (.int .i64 (IntKind.wrap .i64 ((IntKind.wrap .i64 ((halfI p1 p3) + p2)) - x4q7)))), (.imm (.fn false p4d p4g)), .dead, .dead, .dead, .dead, .dead, .dead, .dead, .dead, .dead, .dead, .dead, .dead, .dead, .dead, .dead, .dead, .dead, .dead, .dead, .dead, .dead, .dead, .dead, .dead, .dead, .dead, .dead, .dead, .dead, (.tup []), (.all 1000000000 1)], []⟩
noncomputable abbrev L6 (fuel n : Nat) (s : St) (k : Kont) := lAt Try.prog X I fuel false 2 false 45 (bodyOf Try.f45) [1, 0] n s k
noncomputable abbrev k6 (n5 : Nat) (fuel : Nat) : Kont := (kAt Try.prog X I fuel false 2 false 45 (bodyOf Try.f45) [1, 0] [] (endFn Try.prog Try.f45 58 (kOp Try.prog X I fuel false 3 44 (cAt (bodyOf Try.f44) [1, 1, 0, 0, 0, 1, 0, 1, 0, 0]) 7 (kAt Try.prog X I fuel false 3 false 44 (bodyOf Try.f44) [1, 1, 0, 0, 0, 1, 0, 1, 0, 0] [n5] (endFn Try.prog Try.f44 220 (kOp Try.prog X I fuel false 4 42 (cAt (bodyOf Try.f42) [1, 1, 1, 1, 1, 1, 1, 1, 1, 0, 1, 0]) 5 (kAt Try.prog X I fuel false 4 false 42 (bodyOf Try.f42) [1, 1, 1, 1, 1, 1, 1, 1, 1, 0, 1, 0] [] (endK Try.prog Try.f42))))))))
noncomputable def t6 (p2 : Int) (x5q3 : Int) (x5q4 : Int) (p4d : List Q → Bool) (p4g : List Q → Int) (p1 : Int) (p3 : Int) (x4q7 : Int) (x6q3 : Int) (x6q4 : List Int) : St := ⟨[(.all 1000000000 1), (.imm (.int .i64 (IntKind.wrap .i64 (p2 - x5q3)))), (.imm (.int .i64 p2)), (.imm (.int .i64 x5q4)), .dead, .dead, .dead, .dead, .dead, .dead, (.imm (.int .i64 x6q3)), .dead, .dead, .dead, .dead, .dead, .dead, .dead, .dead, .dead, .dead, .dead, .dead, .dead, .dead, .dead, .dead, .dead, .dead, .dead, .dead, .dead, .dead, .dead, .dead, .dead, .dead, .dead], hOf [(1000000000, (.ints .i64 x6q4))], [(.all 1000000000 1), .dead, (.imm (.int .i64 p2)), .dead, (.imm (.fn false p4d p4g)), .dead, .dead, .dead, .dead, .dead, (.imm (.int .i64 x5q3)), (.imm (.int .i64 x5q4)), .dead, .dead, .dead, .dead, .dead, .dead, .dead, .dead, .dead, .dead, .dead, .dead, (.all 1000000000 1), (.imm (.int .i64 p2)), (.imm (.int .i64 x5q3)), (.imm (.int .i64 (IntKind.wrap .i64 (p2 - x5q3)))), (.imm (.int .i64 p2)), (.imm (.int .i64 x5q4)), (.imm (.fn false p4d p4g)), .dead, .dead, .dead, .dead, .dead, .dead, .dead, .dead, .dead, .dead, .dead, .dead, .dead, .dead, .dead, .dead, .dead, .dead, .dead, .dead, .dead, .dead, .dead, .dead, .dead, .dead, .dead, (.tup []), (.all 1000000000 1), (.imm (.int .i64 p1)), (.imm (.int .i64 p2)), (.imm (.int .i64 p3)), (.imm (.fn false p4d p4g)), .dead, .dead, .dead, .dead, .dead, .dead, .dead, .dead, .dead, .dead, .dead, .dead, .dead, (.imm (.int .i64 (halfI p1 p3))), .dead, (.imm (.int .i64 x4q7)), .dead, .dead, .dead, (.imm (.int .i64 (IntKind.wrap .i64 ((IntKind.wrap .i64 ((halfI p1 p3) + p2)) - x4q7)))), .dead, .dead, .dead, .dead, .dead, .dead, .dead, .dead, .dead, .dead, .dead, .dead, .dead, .dead, .dead, .dead, .dead, .dead, .dead, .dead, .dead, .dead, .dead, .dead, .dead, .dead, .dead, .dead, .dead, .dead, .dead, .dead, .dead, .dead, .dead, .dead, .dead, .dead, .dead, .dead, .dead, .dead, .dead, .dead, .dead, .dead, .dead, .dead, .dead, .dead, .dead, .dead, .dead, .dead, .dead, .dead, .dead, .dead, .dead, .dead, .dead, .dead, .dead, .dead, .dead, .dead, .dead, .dead, .dead, .dead, .dead, .dead, .dead, .dead, .dead, .dead, .dead, .dead, .dead, .dead, .dead, .dead, .dead, .dead, .dead, .dead, .dead, .dead, .dead, .dead, .dead, .dead, .dead, .dead, .dead, .dead, .dead, .dead, .dead, .dead, .dead, .dead, .dead, .dead, .dead, .dead, .dead, .dead, .dead, .dead, .dead, .dead, .dead, .dead, .dead, .dead, .dead, .dead, .dead, .dead, .dead, .dead, .dead, .dead, .dead, .dead, .dead, .dead, .dead, .dead, .dead, .dead, .dead, .dead, .dead, .dead, .dead, .dead, .dead, .dead, .dead, .dead, .dead, .dead, .dead, .dead, .dead, .dead, .dead, .dead, .dead, .dead, .dead, .dead, .dead, .dead, .dead, .dead, .dead, .dead, .dead, (.all 1000000000 1), (.imm (.int .i64 x4q7)), (.imm (.int .i64 p2)), (.imm (.int .i64 (IntKind.wrap .i64 ((IntKind.wrap .i64 ((halfI p1 p3) + p2)) - x4q7)))), (.imm (.fn false p4d p4g)), .dead, .dead, .dead, .dead, .dead, .dead, .dead, .dead, .dead, .dead, .dead, .dead, .dead, .dead, .dead, .dead, .dead, .dead, .dead, .dead, .dead, .dead, .dead, .dead, .dead, .dead, .dead, .dead, .dead, (.tup []), (.all 1000000000 1)], []⟩
noncomputable abbrev L7 (fuel n : Nat) (s : St) (k : Kont) := lAt Try.prog X I fuel false 2 false 45 (bodyOf Try.f45) [1, 0] n s k
noncomputable abbrev k7 (n5 : Nat) (fuel : Nat) : Kont := (kAt Try.prog X I fuel false 2 false 45 (bodyOf Try.f45) [1, 0] [] (endFn Try.prog Try.f45 58 (kOp Try.prog X I fuel false 3 44 (cAt (bodyOf Try.f44) [1, 1, 0, 0, 0, 1, 0, 1, 1, 0]) 11 (kAt Try.prog X I fuel false 3 false 44 (bodyOf Try.f44) [1, 1, 0, 0, 0, 1, 0, 1, 1, 0] [n5] (endFn Try.prog Try.f44 220 (kOp Try.prog X I fuel false 4 42 (cAt (bodyOf Try.f42) [1, 1, 1, 1, 1, 1, 1, 1, 1, 0, 1, 0]) 5 (kAt Try.prog X I fuel false 4 false 42 (bodyOf Try.f42) [1, 1, 1, 1, 1, 1, 1, 1, 1, 0, 1, 0] [] (endK Try.prog Try.f42))))))))
noncomputable def t7 (p2 : Int) (x5q3 : Int) (x5q4 : Int) (p4d : List Q → Bool) (p4g : List Q → Int) (p1 : Int) (p3 : Int) (x4q7 : Int) (x7q3 : Int) (x7q4 : List Int) : St := ⟨[(.all 1000000000 1), (.imm (.int .i64 (IntKind.wrap .i64 (p2 - x5q3)))), (.imm (.int .i64 (IntKind.wrap .i64 ((IntKind.wrap .i64 (p2 + x5q4)) - x5q3)))), (.imm (.int .i64 x5q3)), .dead, .dead, .dead, .dead, .dead, .dead, (.imm (.int .i64 x7q3)), .dead, .dead, .dead, .dead, .dead, .dead, .dead, .dead, .dead, .dead, .dead, .dead, .dead, .dead, .dead, .dead, .dead, .dead, .dead, .dead, .dead, .dead, .dead, .dead, .dead, .dead, .dead], hOf [(1000000000, (.ints .i64 x7q4))], [(.all 1000000000 1), .dead, (.imm (.int .i64 p2)), .dead, (.imm (.fn false p4d p4g)), .dead, .dead, .dead, .dead, .dead, (.imm (.int .i64 x5q3)), (.imm (.int .i64 x5q4)), .dead, .dead, .dead, .dead, .dead, .dead, .dead, .dead, .dead, .dead, .dead, .dead, .dead, .dead, .dead, .dead, .dead, .dead, .dead, .dead, .dead, .dead, .dead, (.all 1000000000 1), (.imm (.int .i64 p2)), (.imm (.int .i64 x5q3)), (.imm (.int .i64 (IntKind.wrap .i64 (p2 - x5q3)))), (.imm (.int .i64 p2)), (.imm (.int .i64 x5q4)), (.imm (.int .i64 (IntKind.wrap .i64 (p2 + x5q4)))), (.imm (.int .i64 x5q3)), (.imm (.int .i64 (IntKind.wrap .i64 ((IntKind.wrap .i64 (p2 + x5q4)) - x5q3)))), (.imm (.int .i64 x5q3)), (.imm (.fn false p4d p4g)), .dead, .dead, .dead, .dead, .dead, .dead, .dead, .dead, .dead, .dead, .dead, .dead, (.tup []), (.all 1000000000 1), (.imm (.int .i64 p1)), (.imm (.int .i64 p2)), (.imm (.int .i64 p3)), (.imm (.fn false p4d p4g)), .dead, .dead, .dead, .dead, .dead, .dead, .dead, .dead, .dead, .dead, .dead, .dead, .dead, (.imm (.int .i64 (halfI p1 p3))), .dead, (.imm (.int .i64 x4q7)), .dead, .dead, .dead, (.imm (.int .i64 (IntKind.wrap .i64 ((IntKind.wrap .i64 ((halfI p1 p3) + p2)) - x4q7)))), .dead, .dead, .dead, .dead, .dead, .dead, .dead, .dead, .dead, .dead, .dead, .dead, .dead, .dead, .dead, .dead, .dead, .dead, .dead, .dead, .dead, .dead, .dead, .dead, .dead, .dead, .dead, .dead, .dead, .dead, .dead, .dead, .dead, .dead, .dead, .dead, .dead, .dead, .dead, .dead, .dead, .dead, .dead, .dead, .dead, .dead, .dead, .dead, .dead, .dead, .dead, .dead, .dead, .dead, .dead, .dead, .dead, .dead, .dead, .dead, .dead, .dead, .dead, .dead, .dead, .dead, .dead, .dead, .dead, .dead, .dead, .dead, .dead, .dead, .dead, .dead, .dead, .dead, .dead, .dead, .dead, .dead, .dead, .dead, .dead, .dead, .dead, .dead, .dead, .dead, .dead, .dead, .dead, .dead, .dead, .dead, .dead, .dead, .dead, .dead, .dead, .dead, .dead, .dead, .dead, .dead, .dead, .dead, .dead, .dead, .dead, .dead, .dead, .dead, .dead, .dead, .dead, .dead, .dead, .dead, .dead, .dead, .dead, .dead, .dead, .dead, .dead, .dead, .dead, .dead, .dead, .dead, .dead, .dead, .dead, .dead, .dead, .dead, .dead, .dead, .dead, .dead, .dead, .dead, .dead, .dead, .dead, .dead, .dead, .dead, .dead, .dead, .dead, .dead, .dead, .dead, .dead, .dead, .dead, .dead, .dead, (.all 1000000000 1), (.imm (.int .i64 x4q7)), (.imm (.int .i64 p2)), (.imm (.int .i64 (IntKind.wrap .i64 ((IntKind.wrap .i64 ((halfI p1 p3) + p2)) - x4q7)))), (.imm (.fn false p4d p4g)), .dead, .dead, .dead, .dead, .dead, .dead, .dead, .dead, .dead, .dead, .dead, .dead, .dead, .dead, .dead, .dead, .dead, .dead, .dead, .dead, .dead, .dead, .dead, .dead, .dead, .dead, .dead, .dead, .dead, (.tup []), (.all 1000000000 1)], []⟩
noncomputable abbrev L8 (fuel n : Nat) (s : St) (k : Kont) := lAt Try.prog X I fuel false 2 false 45 (bodyOf Try.f45) [1, 0] n s k
noncomputable abbrev k8  (fuel : Nat) : Kont := (kAt Try.prog X I fuel false 2 false 45 (bodyOf Try.f45) [1, 0] [] (endFn Try.prog Try.f45 58 (kOp Try.prog X I fuel false 3 44 (cAt (bodyOf Try.f44) [1, 1, 1]) 7 (kAt Try.prog X I fuel false 3 false 44 (bodyOf Try.f44) [1, 1, 1] [] (endFn Try.prog Try.f44 220 (kOp Try.prog X I fuel false 4 42 (cAt (bodyOf Try.f42) [1, 1, 1, 1, 1, 1, 1, 1, 1, 0, 1, 0]) 5 (kAt Try.prog X I fuel false 4 false 42 (bodyOf Try.f42) [1, 1, 1, 1, 1, 1, 1, 1, 1, 0, 1, 0] [] (endK Try.prog Try.f42))))))))
noncomputable def t8 (p2 : Int) (x5q3 : Int) (p4d : List Q → Bool) (p4g : List Q → Int) (p1 : Int) (p3 : Int) (x4q7 : Int) (x8q3 : Int) (x8q4 : List Int) : St := ⟨[(.all 1000000000 1), (.imm (.int .i64 (IntKind.wrap .i64 (p2 - x5q3)))), (.imm (.int .i64 p2)), (.imm (.int .i64 x5q3)), .dead, .dead, .dead, .dead, .dead, .dead, (.imm (.int .i64 x8q3)), .dead, .dead, .dead, .dead, .dead, .dead, .dead, .dead, .dead, .dead, .dead, .dead, .dead, .dead, .dead, .dead, .dead, .dead, .dead, .dead, .dead, .dead, .dead, .dead, .dead, .dead, .dead], hOf [(1000000000, (.ints .i64 x8q4))], [(.all 1000000000 1), .dead, (.imm (.int .i64 p2)), .dead, (.imm (.fn false p4d p4g)), .dead, .dead, .dead, .dead, .dead, (.imm (.int .i64 x5q3)), .dead, .dead, .dead, .dead, .dead, .dead, .dead, .dead, .dead, .dead, .dead, .dead, .dead, .dead, .dead, .dead, .dead, .dead, .dead, .dead, .dead, .dead, .dead, .dead, .dead, .dead, .dead, .dead, .dead, .dead, .dead, .dead, .dead, .dead, .dead, .dead, .dead, .dead, .dead, (.all 1000000000 1), (.imm (.int .i64 p2)), (.imm (.int .i64 x5q3)), (.imm (.int .i64 (IntKind.wrap .i64 (p2 - x5q3)))), (.imm (.int .i64 p2)), (.imm (.int .i64 x5q3)), (.imm (.fn false p4d p4g)), .dead, (.tup []), (.all 1000000000 1), (.imm (.int .i64 p1)), (.imm (.int .i64 p2)), (.imm (.int .i64 p3)), (.imm (.fn false p4d p4g)), .dead, .dead, .dead, .dead, .dead, .dead, .dead, .dead, .dead, .dead, .dead, .dead, .dead, (.imm (.int .i64 (halfI p1 p3))), .dead, (.imm (.int .i64 x4q7)), .dead, .dead, .dead, (.imm (.int .i64 (IntKind.wrap .i64 ((IntKind.wrap .i64 ((halfI p1 p3) + p2)) - x4q7)))), .dead, .dead, .dead, .dead, .dead, .dead, .dead, .dead, .dead, .dead, .dead, .dead, .dead, .dead, .dead, .dead, .dead, .dead, .dead, .dead, .dead, .dead, .dead, .dead, .dead, .dead, .dead, .dead, .dead, .dead, .dead, .dead, .dead, .dead, .dead, .dead, .dead, .dead, .dead, .dead, .dead, .dead, .dead, .dead, .dead, .dead, .dead, .dead, .dead, .dead, .dead, .dead, .dead, .dead, .dead, .dead, .dead, .dead, .dead, .dead, .dead, .dead, .dead, .dead, .dead, .dead, .dead, .dead, .dead, .dead, .dead, .dead, .dead, .dead, .dead, .dead, .dead, .dead, .dead, .dead, .dead, .dead, .dead, .dead, .dead, .dead, .dead, .dead, .dead, .dead, .dead, .dead, .dead, .dead, .dead, .dead, .dead, .dead, .dead, .dead, .dead, .dead, .dead, .dead, .dead, .dead, .dead, .dead, .dead, .dead, .dead, .dead, .dead, .dead, .dead, .dead, .dead, .dead, .dead, .dead, .dead, .dead, .dead, .dead, .dead, .dead, .dead, .dead, .dead, .dead, .dead, .dead, .dead, .dead, .dead, .dead, .dead, .dead, .dead, .dead, .dead, .dead, .dead, .dead, .dead, .dead, .dead, .dead, .dead, .dead, .dead, .dead, .dead, .dead, .dead, .dead, .dead, .dead, .dead, .dead, .dead, (.all 1000000000 1), (.imm (.int .i64 x4q7)), (.imm (.int .i64 p2)), (.imm (.int .i64 (IntKind.wrap .i64 ((IntKind.wrap .i64 ((halfI p1 p3) + p2)) - x4q7)))), (.imm (.fn false p4d p4g)), .dead, .dead, .dead, .dead, .dead, .dead, .dead, .dead, .dead, .dead, .dead, .dead, .dead, .dead, .dead, .dead, .dead, .dead, .dead, .dead, .dead, .dead, .dead, .dead, .dead, .dead, .dead, .dead, .dead, (.tup []), (.all 1000000000 1)], []⟩
theorem e (fuel : Nat) (p0 : List Int) (p1 : Int) (p2 : Int) (p3 : Int) (p4d : List Q → Bool) (p4g : List Q → Int) : runF Try.prog X I 4 fuel 42 Try.f42 [.rows true [(.i64, p0)], .d (.int .i64 p1), .d (.int .i64 p2), .d (.int .i64 p3), .d (.fn false p4d p4g)] =
  (bif (((IntKind.wrap .i64 (p2 - p1)) : Int) == 1) then
  L0 fuel fuel (t0 p1 p4d p4g p0 p2 p3) (k0  fuel)
  else
  (bif (((IntKind.wrap .i64 (p3 - p2)) : Int) == 1) then
  L2 fuel fuel (t2 p2 p4d p4g p0 p1 p2) (k2  fuel)
  else
  (bif (decide ((p2 : Int) > (halfI p1 p3))) then
  L4 fuel fuel (t4 p1 p2 p3 p4d p4g p0 ((IntKind.wrap .i64 ((IntKind.wrap .i64 ((halfI p1 p3) + p2)) - p3))) ((halfI p1 p3))) (k4  fuel)
  else
  L4 fuel fuel (t4 p1 p2 p3 p4d p4g p0 p1 p2) (k4  fuel)))) := by kernel_rfl
theorem s0 (fuel n0 : Nat) (p1 : Int) (p4d : List Q → Bool) (p4g : List Q → Int) (p0 : List Int) (x0q3 : Int) (x0q4 : Int) : L0 fuel (n0 + 1) (t0 p1 p4d p4g p0 x0q3 x0q4) (k0  fuel) =
  (bif (decide ((x0q3 : Int) < x0q4)) then
  (idx (halfI x0q3 x0q4) p0.length).bind fun j39 =>
  (p0[j39]?).bind fun v40 =>
  (idx p1 p0.length).bind fun j41 =>
  (p0[j41]?).bind fun v42 =>
  (bif (p4d [Q.i v40, Q.i v42]) then
  (bif (decide (((p4g [Q.i v40, Q.i v42]) : Int) < 0)) then
  L0 fuel n0 (t0 p1 p4d p4g p0 ((IntKind.wrap .i64 ((halfI x0q3 x0q4) + 1))) x0q4) (k0  fuel)
  else
  L0 fuel n0 (t0 p1 p4d p4g p0 x0q3 ((halfI x0q3 x0q4))) (k0  fuel))
  else
  none)
  else
  L1 fuel fuel (t1 x0q3 p1 p0) (k1  fuel)) := by kernel_rfl
theorem s1 (fuel n1 : Nat) (x0q3 : Int) (x1q1 : Int) (x1q2 : List Int) : L1 fuel (n1 + 1) (t1 x0q3 x1q1 x1q2) (k1  fuel) =
  (bif (decide ((x1q1 : Int) < (IntKind.wrap .i64 (x0q3 - 1)))) then
  (idx (IntKind.wrap .i64 (x1q1 + 1)) x1q2.length).bind fun j49 =>
  (x1q2[j49]?).bind fun v50 =>
  (idx x1q1 x1q2.length).bind fun j51 =>
  (x1q2[j51]?).bind fun v52 =>
  (idx x1q1 x1q2.length).bind fun j53 =>
  (bif decide (j53 < x1q2.length) then
  (idx (IntKind.wrap .i64 (x1q1 + 1)) (x1q2.set j53 v50).length).bind fun j54 =>
  (bif decide (j54 < (x1q2.set j53 v50).length) then
  L1 fuel n1 (t1 x0q3 ((IntKind.wrap .i64 (x1q1 + 1))) (((x1q2.set j53 v50).set j54 v52))) (k1  fuel)
  else
  none)
  else
  none)
  else
  some ([], [[(.ints .i64 x1q2)]])) := by kernel_rfl
theorem s2 (fuel n2 : Nat) (p2 : Int) (p4d : List Q → Bool) (p4g : List Q → Int) (p0 : List Int) (x2q3 : Int) (x2q4 : Int) : L2 fuel (n2 + 1) (t2 p2 p4d p4g p0 x2q3 x2q4) (k2  fuel) =
  (bif (decide ((x2q3 : Int) < x2q4)) then
  (idx p2 p0.length).bind fun j93 =>
  (p0[j93]?).bind fun v94 =>
  (idx (halfI x2q3 x2q4) p0.length).bind fun j95 =>
  (p0[j95]?).bind fun v96 =>
  (bif (p4d [Q.i v94, Q.i v96]) then
  (bif (!(decide (((p4g [Q.i v94, Q.i v96]) : Int) < 0))) then
  L2 fuel n2 (t2 p2 p4d p4g p0 ((IntKind.wrap .i64 ((halfI x2q3 x2q4) + 1))) x2q4) (k2  fuel)
  else
  L2 fuel n2 (t2 p2 p4d p4g p0 x2q3 ((halfI x2q3 x2q4))) (k2  fuel))
  else
  none)
  else
  L3 fuel fuel (t3 x2q3 p2 p0) (k3  fuel)) := by kernel_rfl
theorem s3 (fuel n3 : Nat) (x2q3 : Int) (x3q1 : Int) (x3q2 : List Int) : L3 fuel (n3 + 1) (t3 x2q3 x3q1 x3q2) (k3  fuel) =
  (bif (decide ((x3q1 : Int) > x2q3)) then
  (idx (IntKind.wrap .i64 (x3q1 - 1)) x3q2.length).bind fun j103 =>
  (x3q2[j103]?).bind fun v104 =>
  (idx x3q1 x3q2.length).bind fun j105 =>
  (x3q2[j105]?).bind fun v106 =>
  (idx x3q1 x3q2.length).bind fun j107 =>
  (bif decide (j107 < x3q2.length) then
  (idx (IntKind.wrap .i64 (x3q1 - 1)) (x3q2.set j107 v104).length).bind fun j108 =>
  (bif decide (j108 < (x3q2.set j107 v104).length) then
  L3 fuel n3 (t3 x2q3 ((IntKind.wrap .i64 (x3q1 - 1))) (((x3q2.set j107 v104).set j108 v106))) (k3  fuel)
  else
  none)
  else
  none)
  else
  some ([], [[(.ints .i64 x3q2)]])) := by kernel_rfl
theorem s4 (fuel n4 : Nat) (p1 : Int) (p2 : Int) (p3 : Int) (p4d : List Q → Bool) (p4g : List Q → Int) (p0 : List Int) (x4q7 : Int) (x4q8 : Int) : L4 fuel (n4 + 1) (t4 p1 p2 p3 p4d p4g p0 x4q7 x4q8) (k4  fuel) =
  (bif (decide ((x4q7 : Int) < x4q8)) then
  (idx (IntKind.wrap .i64 ((IntKind.wrap .i64 ((IntKind.wrap .i64 ((halfI p1 p3) + p2)) - 1)) - (halfI x4q7 x4q8))) p0.length).bind fun j315 =>
  (p0[j315]?).bind fun v316 =>
  (idx (halfI x4q7 x4q8) p0.length).bind fun j317 =>
  (p0[j317]?).bind fun v318 =>
  (bif (p4d [Q.i v316, Q.i v318]) then
  (bif (!(decide (((p4g [Q.i v316, Q.i v318]) : Int) < 0))) then
  L4 fuel n4 (t4 p1 p2 p3 p4d p4g p0 ((IntKind.wrap .i64 ((halfI x4q7 x4q8) + 1))) x4q8) (k4  fuel)
  else
  L4 fuel n4 (t4 p1 p2 p3 p4d p4g p0 x4q7 ((halfI x4q7 x4q8))) (k4  fuel))
  else
  none)
  else
  (bif (decide ((x4q7 : Int) < p2)) then
  (bif (decide ((p2 : Int) < (IntKind.wrap .i64 ((IntKind.wrap .i64 ((halfI p1 p3) + p2)) - x4q7)))) then
  L5 fuel fuel (t5 p2 p4d p4g p1 p3 x4q7 ((IntKind.wrap .i64 (p2 - x4q7))) ((IntKind.wrap .i64 ((IntKind.wrap .i64 ((IntKind.wrap .i64 ((halfI p1 p3) + p2)) - x4q7)) - p2))) p0) (k5  fuel)
  else
  (bif (decide ((p1 : Int) < x4q7)) then
  (bif (decide ((x4q7 : Int) < (halfI p1 p3))) then
  none
  else
  (bif (decide (((halfI p1 p3) : Int) < (IntKind.wrap .i64 ((IntKind.wrap .i64 ((halfI p1 p3) + p2)) - x4q7)))) then
  (bif (decide (((IntKind.wrap .i64 ((IntKind.wrap .i64 ((halfI p1 p3) + p2)) - x4q7)) : Int) < p3)) then
  none
  else
  some ([], [[(.ints .i64 p0)]]))
  else
  some ([], [[(.ints .i64 p0)]])))
  else
  (bif (decide (((halfI p1 p3) : Int) < (IntKind.wrap .i64 ((IntKind.wrap .i64 ((halfI p1 p3) + p2)) - x4q7)))) then
  (bif (decide (((IntKind.wrap .i64 ((IntKind.wrap .i64 ((halfI p1 p3) + p2)) - x4q7)) : Int) < p3)) then
  none
  else
  some ([], [[(.ints .i64 p0)]]))
  else
  some ([], [[(.ints .i64 p0)]]))))
  else
  (bif (decide ((p1 : Int) < x4q7)) then
  (bif (decide ((x4q7 : Int) < (halfI p1 p3))) then
  none
  else
  (bif (decide (((halfI p1 p3) : Int) < (IntKind.wrap .i64 ((IntKind.wrap .i64 ((halfI p1 p3) + p2)) - x4q7)))) then
  (bif (decide (((IntKind.wrap .i64 ((IntKind.wrap .i64 ((halfI p1 p3) + p2)) - x4q7)) : Int) < p3)) then
  none
  else
  some ([], [[(.ints .i64 p0)]]))
  else
  some ([], [[(.ints .i64 p0)]])))
  else
  (bif (decide (((halfI p1 p3) : Int) < (IntKind.wrap .i64 ((IntKind.wrap .i64 ((halfI p1 p3) + p2)) - x4q7)))) then
  (bif (decide (((IntKind.wrap .i64 ((IntKind.wrap .i64 ((halfI p1 p3) + p2)) - x4q7)) : Int) < p3)) then
  none
  else
  some ([], [[(.ints .i64 p0)]]))
  else
  some ([], [[(.ints .i64 p0)]]))))) := by kernel_rfl
theorem s5 (fuel n5 : Nat) (p2 : Int) (p4d : List Q → Bool) (p4g : List Q → Int) (p1 : Int) (p3 : Int) (x4q7 : Int) (x5q3 : Int) (x5q4 : Int) (x5q5 : List Int) : L5 fuel (n5 + 1) (t5 p2 p4d p4g p1 p3 x4q7 x5q3 x5q4 x5q5) (k5  fuel) =
  (bif ((x5q3 : Int) != x5q4) then
  (bif (decide ((x5q3 : Int) > x5q4)) then
  L6 fuel fuel (t6 p2 x5q3 x5q4 p4d p4g p1 p3 x4q7 0 x5q5) (k6 n5 fuel)
  else
  L7 fuel fuel (t7 p2 x5q3 x5q4 p4d p4g p1 p3 x4q7 0 x5q5) (k7 n5 fuel))
  else
  L8 fuel fuel (t8 p2 x5q3 p4d p4g p1 p3 x4q7 0 x5q5) (k8  fuel)) := by kernel_rfl
theorem s6 (fuel n5 n6 : Nat) (p2 : Int) (x5q3 : Int) (x5q4 : Int) (p4d : List Q → Bool) (p4g : List Q → Int) (p1 : Int) (p3 : Int) (x4q7 : Int) (x6q3 : Int) (x6q4 : List Int) : L6 fuel (n6 + 1) (t6 p2 x5q3 x5q4 p4d p4g p1 p3 x4q7 x6q3 x6q4) (k6 n5 fuel) =
  (bif (decide ((x6q3 : Int) < x5q4)) then
  (idx (IntKind.wrap .i64 (p2 + x6q3)) x6q4.length).bind fun j361 =>
  (x6q4[j361]?).bind fun v362 =>
  (idx (IntKind.wrap .i64 ((IntKind.wrap .i64 (p2 - x5q3)) + x6q3)) x6q4.length).bind fun j363 =>
  (x6q4[j363]?).bind fun v364 =>
  (idx (IntKind.wrap .i64 ((IntKind.wrap .i64 (p2 - x5q3)) + x6q3)) x6q4.length).bind fun j365 =>
  (bif decide (j365 < x6q4.length) then
  (idx (IntKind.wrap .i64 (p2 + x6q3)) (x6q4.set j365 v362).length).bind fun j366 =>
  (bif decide (j366 < (x6q4.set j365 v362).length) then
  L6 fuel n6 (t6 p2 x5q3 x5q4 p4d p4g p1 p3 x4q7 ((IntKind.wrap .i64 (x6q3 + 1))) (((x6q4.set j365 v362).set j366 v364))) (k6 n5 fuel)
  else
  none)
  else
  none)
  else
  L5 fuel n5 (t5 p2 p4d p4g p1 p3 x4q7 ((IntKind.wrap .i64 (x5q3 - x5q4))) x5q4 x6q4) (k5  fuel)) := by kernel_rfl
theorem s7 (fuel n5 n7 : Nat) (p2 : Int) (x5q3 : Int) (x5q4 : Int) (p4d : List Q → Bool) (p4g : List Q → Int) (p1 : Int) (p3 : Int) (x4q7 : Int) (x7q3 : Int) (x7q4 : List Int) : L7 fuel (n7 + 1) (t7 p2 x5q3 x5q4 p4d p4g p1 p3 x4q7 x7q3 x7q4) (k7 n5 fuel) =
  (bif (decide ((x7q3 : Int) < x5q3)) then
  (idx (IntKind.wrap .i64 ((IntKind.wrap .i64 ((IntKind.wrap .i64 (p2 + x5q4)) - x5q3)) + x7q3)) x7q4.length).bind fun j373 =>
  (x7q4[j373]?).bind fun v374 =>
  (idx (IntKind.wrap .i64 ((IntKind.wrap .i64 (p2 - x5q3)) + x7q3)) x7q4.length).bind fun j375 =>
  (x7q4[j375]?).bind fun v376 =>
  (idx (IntKind.wrap .i64 ((IntKind.wrap .i64 (p2 - x5q3)) + x7q3)) x7q4.length).bind fun j377 =>
  (bif decide (j377 < x7q4.length) then
  (idx (IntKind.wrap .i64 ((IntKind.wrap .i64 ((IntKind.wrap .i64 (p2 + x5q4)) - x5q3)) + x7q3)) (x7q4.set j377 v374).length).bind fun j378 =>
  (bif decide (j378 < (x7q4.set j377 v374).length) then
  L7 fuel n7 (t7 p2 x5q3 x5q4 p4d p4g p1 p3 x4q7 ((IntKind.wrap .i64 (x7q3 + 1))) (((x7q4.set j377 v374).set j378 v376))) (k7 n5 fuel)
  else
  none)
  else
  none)
  else
  L5 fuel n5 (t5 p2 p4d p4g p1 p3 x4q7 x5q3 ((IntKind.wrap .i64 (x5q4 - x5q3))) x7q4) (k5  fuel)) := by kernel_rfl
theorem s8 (fuel n8 : Nat) (p2 : Int) (x5q3 : Int) (p4d : List Q → Bool) (p4g : List Q → Int) (p1 : Int) (p3 : Int) (x4q7 : Int) (x8q3 : Int) (x8q4 : List Int) : L8 fuel (n8 + 1) (t8 p2 x5q3 p4d p4g p1 p3 x4q7 x8q3 x8q4) (k8  fuel) =
  (bif (decide ((x8q3 : Int) < x5q3)) then
  (idx (IntKind.wrap .i64 (p2 + x8q3)) x8q4.length).bind fun j385 =>
  (x8q4[j385]?).bind fun v386 =>
  (idx (IntKind.wrap .i64 ((IntKind.wrap .i64 (p2 - x5q3)) + x8q3)) x8q4.length).bind fun j387 =>
  (x8q4[j387]?).bind fun v388 =>
  (idx (IntKind.wrap .i64 ((IntKind.wrap .i64 (p2 - x5q3)) + x8q3)) x8q4.length).bind fun j389 =>
  (bif decide (j389 < x8q4.length) then
  (idx (IntKind.wrap .i64 (p2 + x8q3)) (x8q4.set j389 v386).length).bind fun j390 =>
  (bif decide (j390 < (x8q4.set j389 v386).length) then
  L8 fuel n8 (t8 p2 x5q3 p4d p4g p1 p3 x4q7 ((IntKind.wrap .i64 (x8q3 + 1))) (((x8q4.set j389 v386).set j390 v388))) (k8  fuel)
  else
  none)
  else
  none)
  else
  (bif (decide ((p1 : Int) < x4q7)) then
  (bif (decide ((x4q7 : Int) < (halfI p1 p3))) then
  none
  else
  (bif (decide (((halfI p1 p3) : Int) < (IntKind.wrap .i64 ((IntKind.wrap .i64 ((halfI p1 p3) + p2)) - x4q7)))) then
  (bif (decide (((IntKind.wrap .i64 ((IntKind.wrap .i64 ((halfI p1 p3) + p2)) - x4q7)) : Int) < p3)) then
  none
  else
  some ([], [[(.ints .i64 x8q4)]]))
  else
  some ([], [[(.ints .i64 x8q4)]])))
  else
  (bif (decide (((halfI p1 p3) : Int) < (IntKind.wrap .i64 ((IntKind.wrap .i64 ((halfI p1 p3) + p2)) - x4q7)))) then
  (bif (decide (((IntKind.wrap .i64 ((IntKind.wrap .i64 ((halfI p1 p3) + p2)) - x4q7)) : Int) < p3)) then
  none
  else
  some ([], [[(.ints .i64 x8q4)]]))
  else
  some ([], [[(.ints .i64 x8q4)]])))) := by kernel_rfl
end smv1
theorem smv1.ok_of (hX : ∀ E ∈ smv1.X, CallSpec Try.prog E) (h : ∀ (xs : List Int) (a : Int) (m : Int) (b : Int) (dom : List Q → Bool) (G : List Q → Int), (decide ((xs : List Int).length ≤ 60) && domA dom xs && mgW G xs a m b && decide (0 ≤ a) && decide (a < m) && decide (m < b) && decide (b - a ≤ 2)) = true → ∃ fuel, runF Try.prog smv1.X smv1.I 4 fuel 42 Try.f42 [.rows true [(.i64, xs)], .d (.int .i64 a), .d (.int .i64 m), .d (.int .i64 b), .d (.fn false dom G)] = some ([], [[(.ints .i64 (segS (ltG G) a.toNat b.toNat xs))]])) : CallSpec Try.prog smv1.E :=
  callSpec_of (d := 4) hX (by kernel_rfl) smv1.I_ok (by kernel_rfl) (by kernel_rfl) (by kernel_rfl) (fun _ _ _ _ h => by dsimp only [smv1.E] at h; cases h) (fun xs hp => by
    dsimp only [smv1.E] at hp ⊢
    split at hp
    · exact h _ _ _ _ _ _ hp
    · cases hp)
theorem smv1.shift {F : Nat} {xs : List Int} {a i : Nat} (hl : xs.length ≤ 60) (hi : a + 1 ≤ i) (hib : i ≤ xs.length) (hF : 200 < F) :
    smv1.L1 F F (smv1.t1 (i : Int) (a : Int) xs) (smv1.k1 F) = some ([], [[(.ints .i64 (shU a (i - 1 - a) xs))]]) := by
  refine run_loop (N := i - 1 - a) (fun n c ys => smv1.L1 F n (smv1.t1 (i : Int) ((a + c : Nat) : Int) ys) (smv1.k1 F)) (fun c ys => ys = shU a c xs) ?_ ?_ F 0 xs (by omega) (by omega) rfl
  · rintro n ys rfl
    rw [smv1.s1, wS (by omega) (by omega), decide_eq_false (by omega)]
    rfl
  · rintro n c ys hc rfl
    have hyl := shU_len a c xs
    refine ⟨_, rfl, ?_⟩
    rw [smv1.s1, wS (x := (i : Int) - 1) (by omega) (by omega), decide_eq_true (by omega), cond_true, w1 (by omega), idx_nat (j := a + c + 1) (by omega), idx_nat (j := a + c) (by omega)]
    simp only [Option.bind_some, getD_get (show a + c + 1 < (shU a c xs).length by omega), getD_get (show a + c < (shU a c xs).length by omega)]
    rw [decide_eq_true (show a + c < (shU a c xs).length by omega), cond_true, List.length_set, idx_nat (j := a + c + 1) (by omega)]
    simp only [Option.bind_some, List.length_set]
    rw [decide_eq_true (show a + c + 1 < (shU a c xs).length by omega), cond_true]
    rfl
theorem smv1.left {F : Nat} {xs : List Int} {a b : Nat} {dom : List Q → Bool} {G : List Q → Int} {da : List Int} (hd : domA dom xs = true) (hlt : ltG G = ltD da) (hl : xs.length ≤ 60) (h : MG da a (a + 1) b xs) (hF : 200 < F) : ∀ (d n i j : Nat), j - i ≤ d → a + 1 ≤ i → i ≤ j → j ≤ b → (i = a + 1 ∨ ltD da (xs.getD (i - 1) 0) (xs.getD a 0) = true) → (j = b ∨ ltD da (xs.getD j 0) (xs.getD a 0) = false) → d < n →
    smv1.L0 F n (smv1.t0 (a : Int) dom G xs (i : Int) (j : Int)) (smv1.k0 F) = some ([], [[(.ints .i64 (segS (ltD da) a b xs))]]) := by
  have hb := h.bl
  have hfin : ∀ n i : Nat, a + 1 ≤ i → i ≤ b → (i = a + 1 ∨ ltD da (xs.getD (i - 1) 0) (xs.getD a 0) = true) → (i = b ∨ ltD da (xs.getD i 0) (xs.getD a 0) = false) → smv1.L0 F (n + 1) (smv1.t0 (a : Int) dom G xs (i : Int) (i : Int)) (smv1.k0 F) = some ([], [[(.ints .i64 (segS (ltD da) a b xs))]]) := by
    intro n i h1 h2 h3 h4
    rw [smv1.s0, decide_eq_false (by omega), cond_false, smv1.shift hl h1 (by omega) hF, mg_left' h h1 h2 h3 h4]
  intro d
  induction d with
  | zero =>
    intro n i j h1 h2 h3 h4 h5 h6 h7
    obtain ⟨n, rfl⟩ : ∃ k, n = k + 1 := ⟨n - 1, by omega⟩
    obtain rfl : i = j := by omega
    exact hfin n i h2 h4 h5 h6
  | succ d ih =>
    intro n i j h1 h2 h3 h4 h5 h6 h7
    obtain ⟨n, rfl⟩ : ∃ k, n = k + 1 := ⟨n - 1, by omega⟩
    by_cases hj : i < j
    · have hh : (i + j) / 2 < xs.length := by omega
      have ha : a < xs.length := by omega
      have hdm := domA_get hd (mem_getD hh) (mem_getD ha)
      have hlx := ltG_at hlt (xs.getD ((i + j) / 2) 0) (xs.getD a 0)
      rw [smv1.s0, decide_eq_true (by omega), cond_true, halfV (by omega), idx_nat hh, idx_nat ha]
      simp only [Option.bind_some, getD_get hh, getD_get ha, hdm, hlx, cond_true]
      cases hc : ltD da (xs.getD ((i + j) / 2) 0) (xs.getD a 0) with
      | true =>
        rw [cond_true, w1 (by omega)]
        exact ih n ((i + j) / 2 + 1) j (by omega) (by omega) (by omega) h4 (.inr (by rw [Nat.add_sub_cancel]; exact hc)) h6 (by omega)
      | false =>
        rw [cond_false]
        exact ih n i ((i + j) / 2) (by omega) h2 (by omega) (by omega) h5 (.inr hc) (by omega)
    · obtain rfl : i = j := by omega
      exact hfin n i h2 h4 h5 h6
theorem smv1.down {F : Nat} {xs : List Int} {m i : Nat} (hl : xs.length ≤ 60) (hi : i ≤ m) (hm : m < xs.length) (hF : 200 < F) :
    smv1.L3 F F (smv1.t3 (i : Int) (m : Int) xs) (smv1.k3 F) = some ([], [[(.ints .i64 (shD m (m - i) xs))]]) := by
  refine run_loop (N := m - i) (fun n c ys => smv1.L3 F n (smv1.t3 (i : Int) ((m - c : Nat) : Int) ys) (smv1.k3 F)) (fun c ys => ys = shD m c xs) ?_ ?_ F 0 xs (by omega) (by omega) rfl
  · rintro n ys rfl
    rw [smv1.s3, decide_eq_false (by omega)]
    rfl
  · rintro n c ys hc rfl
    have hyl := shD_len m c xs
    refine ⟨_, rfl, ?_⟩
    have e1 : IntKind.wrap .i64 (((m - c : Nat) : Int) - 1) = ((m - c - 1 : Nat) : Int) := by rw [wS (by omega) (by omega)]; omega
    rw [smv1.s3, decide_eq_true (by omega), cond_true, e1, idx_nat (j := m - c - 1) (by omega), idx_nat (j := m - c) (by omega)]
    simp only [Option.bind_some, getD_get (show m - c - 1 < (shD m c xs).length by omega), getD_get (show m - c < (shD m c xs).length by omega)]
    rw [decide_eq_true (show m - c < (shD m c xs).length by omega), cond_true, List.length_set, idx_nat (j := m - c - 1) (by omega)]
    simp only [Option.bind_some, List.length_set]
    rw [decide_eq_true (show m - c - 1 < (shD m c xs).length by omega), cond_true, show m - (c + 1) = m - c - 1 by omega]
    rfl
theorem smv1.right {F : Nat} {xs : List Int} {a m : Nat} {dom : List Q → Bool} {G : List Q → Int} {da : List Int} (hd : domA dom xs = true) (hlt : ltG G = ltD da) (hl : xs.length ≤ 60) (h : MG da a m (m + 1) xs) (hF : 200 < F) : ∀ (d n i j : Nat), j - i ≤ d → a ≤ i → i ≤ j → j ≤ m → (i = a ∨ ltD da (xs.getD m 0) (xs.getD (i - 1) 0) = false) → (j = m ∨ ltD da (xs.getD m 0) (xs.getD j 0) = true) → d < n →
    smv1.L2 F n (smv1.t2 (m : Int) dom G xs (i : Int) (j : Int)) (smv1.k2 F) = some ([], [[(.ints .i64 (segS (ltD da) a (m + 1) xs))]]) := by
  have hb := h.bl
  have hfin : ∀ n i : Nat, a ≤ i → i ≤ m → (i = a ∨ ltD da (xs.getD m 0) (xs.getD (i - 1) 0) = false) → (i = m ∨ ltD da (xs.getD m 0) (xs.getD i 0) = true) → smv1.L2 F (n + 1) (smv1.t2 (m : Int) dom G xs (i : Int) (i : Int)) (smv1.k2 F) = some ([], [[(.ints .i64 (segS (ltD da) a (m + 1) xs))]]) := by
    intro n i h1 h2 h3 h4
    rw [smv1.s2, decide_eq_false (by omega), cond_false, smv1.down hl h2 (by omega) hF, mg_right' h h1 h2 h3 h4]
  intro d
  induction d with
  | zero =>
    intro n i j h1 h2 h3 h4 h5 h6 h7
    obtain ⟨n, rfl⟩ : ∃ k, n = k + 1 := ⟨n - 1, by omega⟩
    obtain rfl : i = j := by omega
    exact hfin n i h2 h4 h5 h6
  | succ d ih =>
    intro n i j h1 h2 h3 h4 h5 h6 h7
    obtain ⟨n, rfl⟩ : ∃ k, n = k + 1 := ⟨n - 1, by omega⟩
    by_cases hj : i < j
    · have hh : (i + j) / 2 < xs.length := by omega
      have hm : m < xs.length := by omega
      have hdm := domA_get hd (mem_getD hm) (mem_getD hh)
      have hlx := ltG_at hlt (xs.getD m 0) (xs.getD ((i + j) / 2) 0)
      rw [smv1.s2, decide_eq_true (by omega), cond_true, halfV (by omega), idx_nat hh, idx_nat hm]
      simp only [Option.bind_some, getD_get hh, getD_get hm, hdm, hlx, cond_true]
      cases hc : ltD da (xs.getD m 0) (xs.getD ((i + j) / 2) 0) with
      | false =>
        rw [Bool.not_false, cond_true, w1 (by omega)]
        exact ih n ((i + j) / 2 + 1) j (by omega) (by omega) (by omega) h4 (.inr (by rw [Nat.add_sub_cancel]; exact hc)) h6 (by omega)
      | true =>
        rw [Bool.not_true, cond_false]
        exact ih n i ((i + j) / 2) (by omega) h2 (by omega) (by omega) h5 (.inr hc) (by omega)
    · obtain rfl : i = j := by omega
      exact hfin n i h2 h4 h5 h6
theorem smv1.ok : CallSpec Try.prog smv1.E := smv1.ok_of (by simp [smv1.X, slices_symMergeCmpFunc_int.ok]) fun xs a m b dom G h => by
  obtain ⟨F, hF⟩ : ∃ F : Nat, 200 < F := ⟨201, by omega⟩
  refine ⟨F, ?_⟩
  simp only [Bool.and_eq_true, decide_eq_true_eq] at h
  obtain ⟨⟨⟨⟨⟨⟨hl, hd⟩, hu⟩, h0⟩, h1⟩, h2⟩, h4⟩ := h
  obtain ⟨a, rfl⟩ : ∃ n : Nat, a = n := ⟨a.toNat, by omega⟩
  obtain ⟨m, rfl⟩ : ∃ n : Nat, m = n := ⟨m.toNat, by omega⟩
  obtain ⟨b, rfl⟩ : ∃ n : Nat, b = n := ⟨b.toNat, by omega⟩
  obtain ⟨da, hlt, hm⟩ := mgW_inv hu
  have hb := hm.bl
  rw [smv1.e, wS (x := (m : Int) - (a : Int)) (by omega) (by omega), wS (x := (b : Int) - (m : Int)) (by omega) (by omega), Int.toNat_natCast, Int.toNat_natCast, hlt]
  by_cases e1 : m = a + 1
  · subst e1
    rw [show ((((a + 1 : Nat) : Int) - (a : Int)) == 1) = true from beq_iff_eq.2 (by omega), cond_true]
    exact smv1.left hd hlt hl hm hF 100 F (a + 1) b (by omega) (by omega) (by omega) (by omega) (.inl rfl) (.inl rfl) (by omega)
  rw [show (((m : Int) - (a : Int)) == 1) = false from beq_eq_false_iff_ne.2 (by omega), cond_false]
  by_cases e2 : b = m + 1
  · subst e2
    rw [show ((((m + 1 : Nat) : Int) - (m : Int)) == 1) = true from beq_iff_eq.2 (by omega), cond_true]
    exact smv1.right hd hlt hl hm hF 100 F a m (by omega) (by omega) (by omega) (by omega) (.inl rfl) (.inl rfl) (by omega)
  rw [show (((b : Int) - (m : Int)) == 1) = false from beq_eq_false_iff_ne.2 (by omega), cond_false]
  exfalso; omega

namespace smv2
noncomputable def E : Entry := ⟨42, false, true, fun | [.rows true [(.i64, xs)], .d (.int .i64 a), .d (.int .i64 m), .d (.int .i64 b), .d (.fn false dom G)] => decide ((xs : List Int).length ≤ 60) && domA dom xs && mgW G xs a m b && decide (0 ≤ a) && decide (a < m) && decide (m < b) && decide (b - a ≤ 4) | _ => false, fun | [.rows true [(.i64, xs)], .d (.int .i64 a), .d (.int .i64 m), .d (.int .i64 b), .d (.fn false dom G)] => ([], [[(.ints .i64 (segS (ltG G) a.toNat b.toNat xs))]]) | _ => ([], []), fun _ => [], false, fun _ => none⟩
end smv2
namespace smv2
noncomputable def X : List Entry := [smv1.E]
noncomputable def I : List Inl := [⟨42, Try.f42, ⟨[], [(40, [5, 6, 7, 8, 9, 10, 11, 12, 13, 14, 15, 16, 17, 19, 21, 22, 23, 25, 26, 27, 28, 29, 30, 31, 32, 33, 34, 35, 36, 37, 38, 39, 40, 41, 42, 43, 44, 45, 46, 47, 48, 49, 50, 51, 52, 53, 54, 55, 56, 57, 58, 59, 60, 61, 62, 63, 64, 65, 66, 67, 68, 69, 70, 71, 72, 73, 74, 75, 76, 77, 78, 79, 80, 81, 82, 83, 84, 85, 86, 87, 88, 89, 90, 91, 92, 93, 94, 95, 96, 97, 98, 99, 100, 101, 102, 103, 104, 105, 106, 107, 108, 109, 110, 111, 112, 113, 114, 115, 116, 117, 118, 119, 120, 121, 122, 123, 124, 125, 126, 127, 128, 129, 130, 131, 132, 133, 134, 135, 136, 137, 138, 139, 140, 141, 142, 143, 144, 145, 146, 147, 148, 149, 150, 151, 152, 153, 154, 155, 156, 157, 158, 159, 160, 161, 162, 163, 164, 165, 166, 167, 168, 169, 170, 171, 172, 173, 174, 175, 176, 177, 178, 179, 180, 181, 182, 183, 184, 185, 186, 187, 188, 189, 190, 191, 192, 193, 194, 195, 196, 197, 198, 199, 200, 201, 202, 203, 204, 205, 206, 207, 208, 209, 210, 211, 212, 213, 214, 215, 216, 217, 218, 219]), (1000003, [2, 3, 5, 6, 7, 8, 9, 12, 13, 14, 15, 16, 17, 18, 19, 20, 21, 22, 23, 24, 25, 26, 27, 28, 29, 30, 31, 32, 33, 34, 35, 36, 37, 38, 39, 40, 41, 42, 43, 44, 45, 46, 47, 48, 49, 50, 51, 52, 53, 54, 55, 56, 57, 58, 59, 60, 61, 62, 63, 64, 65, 66, 67, 68, 69, 70, 71, 72, 73, 74, 75, 76, 77, 78, 79, 80, 81, 82, 83, 84, 85, 86, 87, 88, 89, 90, 91, 92, 93, 94, 95, 96, 97, 98, 99, 100, 101, 102, 103, 104, 105, 106, 107, 108, 109, 110, 111, 112, 113, 114, 115, 116, 117, 118, 119, 120, 121, 122, 123, 124, 125, 126, 127, 128, 129, 130, 131, 132, 133, 134, 135, 136, 137, 138, 139, 140, 141, 142, 143, 144, 145, 146, 147, 148, 149, 150, 151, 152, 153, 154, 155, 156, 157, 158, 159, 160, 161, 162, 163, 164, 165, 166, 167, 168, 169, 170, 171, 172, 173, 174, 175, 176, 177, 178, 179, 180, 181, 182, 183, 184, 185, 186, 187, 188, 189, 190, 191, 192, 193, 194, 195, 196, 197, 198, 199, 200, 201, 202, 203, 204, 205, 206, 207, 208, 209, 210, 211, 212, 213, 214, 215, 216, 217, 218, 219]), (1000009, [1, 2, 3, 4, 5, 6, 7, 8, 9, 11, 12, 14, 15, 16, 17, 18, 19, 20, 21, 22, 23, 24, 25, 26, 27, 28, 29, 30, 31, 32, 33, 34, 35, 36, 37, 38, 39, 40, 41, 42, 43, 44, 45, 46, 47, 48, 49, 50, 51, 52, 53, 54, 55, 56, 57, 58, 59, 60, 61, 62, 63, 64, 65, 66, 67, 68, 69, 70, 71, 72, 73, 74, 75, 76, 77, 78, 79, 80, 81, 82, 83, 84, 85, 86, 87, 88, 89, 90, 91, 92, 93, 94, 95, 96, 97, 98, 99, 100, 101, 102, 103, 104, 105, 106, 107, 108, 109, 110, 111, 112, 113, 114, 115, 116, 117, 118, 119, 120, 121, 122, 123, 124, 125, 126, 127, 128, 129, 130, 131, 132, 133, 134, 135, 136, 137, 138, 139, 140, 141, 142, 143, 144, 145, 146, 147, 148, 149, 150, 151, 152, 153, 154, 155, 156, 157, 158, 159, 160, 161, 162, 163, 164, 165, 166, 167, 168, 169, 170, 171, 172, 173, 174, 175, 176, 177, 178, 179, 180, 181, 182, 183, 184, 185, 186, 187, 188, 189, 190, 191, 192, 193, 194, 195, 196, 197, 198, 199, 200, 201, 202, 203, 204, 205, 206, 207, 208, 209, 210, 211, 212, 213, 214, 215, 216, 217, 218, 219]), (1000015, [1, 3, 5, 6, 7, 8, 9, 10, 11, 12, 13, 16, 17, 18, 19, 20, 21, 22, 23, 24, 25, 26, 27, 28, 29, 30, 31, 32, 33, 34, 35, 36, 37, 38, 39, 40, 41, 42, 43, 44, 45, 46, 47, 48, 49, 50, 51, 52, 53, 54, 55, 56, 57, 58, 59, 60, 61, 62, 63, 64, 65, 66, 67, 68, 69, 70, 71, 72, 73, 74, 75, 76, 77, 78, 79, 80, 81, 82, 83, 84, 85, 86, 87, 88, 89, 90, 91, 92, 93, 94, 95, 96, 97, 98, 99, 100, 101, 102, 103, 104, 105, 106, 107, 108, 109, 110, 111, 112, 113, 114, 115, 116, 117, 118, 119, 120, 121, 122, 123, 124, 125, 126, 127, 128, 129, 130, 131, 132, 133, 134, 135, 136, 137, 138, 139, 140, 141, 142, 143, 144, 145, 146, 147, 148, 149, 150, 151, 152, 153, 154, 155, 156, 157, 158, 159, 160, 161, 162, 163, 164, 165, 166, 167, 168, 169, 170, 171, 172, 173, 174, 175, 176, 177, 178, 179, 180, 181, 182, 183, 184, 185, 186, 187, 188, 189, 190, 191, 192, 193, 194, 195, 196, 197, 198, 199, 200, 201, 202, 203, 204, 205, 206, 207, 208, 209, 210, 211, 212, 213, 214, 215, 216, 217, 218, 219]), (1000021, [1, 2, 3, 4, 5, 6, 7, 8, 9, 10, 11, 12, 13, 15, 16, 18, 19, 20, 21, 22, 23, 24, 25, 26, 27, 28, 29, 30, 31, 32, 33, 34, 35, 36, 37, 38, 39, 40, 41, 42, 43, 44, 45, 46, 47, 48, 49, 50, 51, 52, 53, 54, 55, 56, 57, 58, 59, 60, 61, 62, 63, 64, 65, 66, 67, 68, 69, 70, 71, 72, 73, 74, 75, 76, 77, 78, 79, 80, 81, 82, 83, 84, 85, 86, 87, 88, 89, 90, 91, 92, 93, 94, 95, 96, 97, 98, 99, 100, 101, 102, 103, 104, 105, 106, 107, 108, 109, 110, 111, 112, 113, 114, 115, 116, 117, 118, 119, 120, 121, 122, 123, 124, 125, 126, 127, 128, 129, 130, 131, 132, 133, 134, 135, 136, 137, 138, 139, 140, 141, 142, 143, 144, 145, 146, 147, 148, 149, 150, 151, 152, 153, 154, 155, 156, 157, 158, 159, 160, 161, 162, 163, 164, 165, 166, 167, 168, 169, 170, 171, 172, 173, 174, 175, 176, 177, 178, 179, 180, 181, 182, 183, 184, 185, 186, 187, 188, 189, 190, 191, 192, 193, 194, 195, 196, 197, 198, 199, 200, 201, 202, 203, 204, 205, 206, 207, 208, 209, 210, 211, 212, 213, 214, 215, 216, 217, 218, 219]), (1000033, [5, 6, 7, 8, 9, 10, 11, 12, 13, 14, 15, 16, 17, 23, 24, 25, 26, 27, 28, 29, 30, 31, 32, 33, 34, 35, 36, 37, 38, 39, 40, 41, 42, 43, 44, 45, 46, 47, 48, 49, 50, 51, 52, 53, 54, 55, 56, 57, 58, 59, 60, 61, 62, 63, 64, 65, 66, 67, 68, 69, 70, 71, 72, 73, 74, 75, 76, 77, 78, 79, 80, 81, 82, 83, 84, 85, 86, 87, 88, 89, 90, 91, 92, 93, 94, 95, 96, 97, 98, 99, 100, 101, 102, 103, 104, 105, 106, 107, 108, 109, 110, 111, 112, 113, 114, 115, 116, 117, 118, 119, 120, 121, 122, 123, 124, 125, 126, 127, 128, 129, 130, 131, 132, 133, 134, 135, 136, 137, 138, 139, 140, 141, 142, 143, 144, 145, 146, 147, 148, 149, 150, 151, 152, 153, 154, 155, 156, 157, 158, 159, 160, 161, 162, 163, 164, 165, 166, 167, 168, 169, 170, 171, 172, 173, 174, 175, 176, 177, 178, 179, 180, 181, 182, 183, 184, 185, 186, 187, 188, 189, 190, 191, 192, 193, 194, 195, 196, 197, 198, 199, 200, 201, 202, 203, 204, 205, 206, 207, 208, 209, 210, 211, 212, 213, 214, 215, 216, 217, 218, 219])], [], [(5, [0, 1, 2, 5, 6, 3, 4, 7, 8, 9, 10]), (11, [0, 1, 2, 3, 4, 5, 6, 7, 10, 11, 8, 9, 12, 13, 14, 15, 16, 17]), (17, [0, 1, 2, 5, 6, 3, 4, 7, 8, 9, 10, 11]), (23, [0, 1, 2, 3, 4, 5, 6, 7, 10, 11, 8, 9, 12, 13, 14, 15, 16, 17]), (35, [0, 1, 2, 3, 4, 7, 8, 5, 6, 9, 10, 11, 12, 13])], [], []⟩⟩, ⟨44, Try.f44, ⟨[], [(4, [1, 3, 5, 6, 7, 8, 9, 12, 13, 14, 15, 16, 17, 18, 19, 20, 21, 22, 23, 24, 25, 26, 27, 28, 29, 30, 31, 32, 33, 34, 35, 36, 37, 38, 39, 40, 41, 42, 43, 44, 45, 46, 47, 48, 49, 50, 51, 52, 53, 54, 55, 56, 57]), (6, [1, 3, 5, 6, 7, 8, 9, 12, 13, 14, 15, 16, 17, 18, 19, 20, 21, 22, 23, 24, 25, 26, 27, 28, 29, 30, 31, 32, 33, 34, 35, 36, 37, 38, 39, 40, 41, 42, 43, 44, 45, 46, 47, 48, 49, 50, 51, 52, 53, 54, 55, 56, 57]), (8, [1, 3, 5, 6, 7, 8, 9, 11, 12, 13, 14, 15, 16, 17, 18, 19, 20, 21, 22, 23, 24, 25, 26, 27, 28, 29, 30, 31, 32, 33, 34, 35, 36, 37, 38, 39, 40, 41, 42, 43, 44, 45, 46, 47, 48, 49, 50, 51, 52, 53, 54, 55, 56, 57]), (1000002, [1, 3, 5, 6, 7, 8, 9, 12, 13, 14, 15, 16, 17, 18, 19, 20, 21, 22, 23, 24, 25, 26, 27, 28, 29, 30, 31, 32, 33, 34, 35, 36, 37, 38, 39, 40, 41, 42, 43, 44, 45, 46, 47, 48, 49, 50, 51, 52, 53, 54, 55, 56, 57])], [], [], [], []⟩⟩, ⟨45, Try.f45, ⟨[], [(1000001, [4, 5, 6, 7, 8, 9, 11, 12, 13, 14, 15, 16, 17, 18, 19, 20, 21, 22, 23, 24, 25, 26, 27, 28, 29, 30, 31, 32, 33, 34, 35, 36, 37])], [], [(3, [0, 1, 2, 3, 4, 5, 6, 7, 8, 9, 10, 11, 14, 15, 16, 17, 12, 13, 18, 19, 20, 21, 22, 23])], [], []⟩⟩]
theorem I_ok : ∀ i ∈ I, Try.prog.funcs[i.f]? = some i.fn ∧ (i.fn.name == "runtime.NumGoroutine") = false := by
  intro i hi
  simp only [I, List.mem_cons, List.not_mem_nil, or_false] at hi
  rcases hi with rfl | rfl | rfl
  all_goals exact ⟨by kernel_rfl, by kernel_rfl⟩
noncomputable abbrev L0 (fuel n : Nat) (s : St) (k : Kont) := lAt Try.prog X I fuel false 4 false 42 (bodyOf Try.f42) [0, 1, 0, 1, 1, 0, 0] n s k
noncomputable abbrev k0  (fuel : Nat) : Kont := (kAt Try.prog X I fuel false 4 false 42 (bodyOf Try.f42) [0, 1, 0, 1, 1, 0, 0] [] (endK Try.prog Try.f42))
noncomputable def t0 (p1 : Int) (p4d : List Q → Bool) (p4g : List Q → Int) (p0 : List Int) (x0q3 : Int) (x0q4 : Int) : St := ⟨[(.all 1000000000 1), (.imm (.int .i64 p1)), .dead, .dead, (.imm (.fn false p4d p4g)), .dead, .dead, .dead, .dead, .dead, (.imm (.int .i64 x0q3)), (.imm (.int .i64 x0q4)), .dead, .dead, .dead, .dead, .dead, .dead, .dead, .dead, .dead, .dead, .dead, .dead, .dead, .dead, .dead, .dead, .dead, .dead, .dead, .dead, .dead, .dead, .dead, .dead, .dead, .dead, .dead, .dead, .dead, .dead, .dead, .dead, .dead, .dead, .dead, .dead, .dead, .dead, .dead, .dead, .dead, .dead, .dead, .dead, .dead, .dead, .dead, .dead, .dead, .dead, .dead, .dead, .dead, .dead, .dead, .dead, .dead, .dead, .dead, .dead, .dead, .dead, .dead, .dead, .dead, .dead, .dead, .dead, .dead, .dead, .dead, .dead, .dead, .dead, .dead, .dead, .dead, .dead, .dead, .dead, .dead, .dead, .dead, .dead, .dead, .dead, .dead, .dead, .dead, .dead, .dead, .dead, .dead, .dead, .dead, .dead, .dead, .dead, .dead, .dead, .dead, .dead, .dead, .dead, .dead, .dead, .dead, .dead, .dead, .dead, .dead, .dead, .dead, .dead, .dead, .dead, .dead, .dead, .dead, .dead, .dead, .dead, .dead, .dead, .dead, .dead, .dead, .dead, .dead, .dead, .dead, .dead, .dead, .dead, .dead, .dead, .dead, .dead, .dead, .dead, .dead, .dead, .dead, .dead, .dead, .dead, .dead, .dead, .dead, .dead, .dead, .dead, .dead, .dead, .dead, .dead, .dead, .dead, .dead, .dead, .dead, .dead, .dead, .dead, .dead, .dead, .dead, .dead, .dead, .dead, .dead, .dead, .dead, .dead, .dead, .dead, .dead, .dead, .dead, .dead, .dead, .dead, .dead, .dead, .dead, .dead, .dead, .dead, .dead, .dead, .dead, .dead, .dead, .dead, .dead, .dead, .dead, .dead, .dead, .dead, .dead, .dead, .dead, .dead, .dead, .dead, .dead, .dead], hOf [(1000000000, (.ints .i64 p0))], [(.all 1000000000 1)], []⟩
noncomputable abbrev L1 (fuel n : Nat) (s : St) (k : Kont) := lAt Try.prog X I fuel false 4 false 42 (bodyOf Try.f42) [0, 1, 0, 1, 1, 1, 0, 1, 0] n s k
noncomputable abbrev k1  (fuel : Nat) : Kont := (kAt Try.prog X I fuel false 4 false 42 (bodyOf Try.f42) [0, 1, 0, 1, 1, 1, 0, 1, 0] [] (endK Try.prog Try.f42))
noncomputable def t1 (x0q3 : Int) (x1q1 : Int) (x1q2 : List Int) : St := ⟨[(.all 1000000000 1), .dead, .dead, .dead, .dead, .dead, .dead, .dead, .dead, .dead, (.imm (.int .i64 x0q3)), .dead, .dead, (.imm (.int .i64 x1q1)), .dead, .dead, .dead, .dead, .dead, .dead, .dead, .dead, .dead, .dead, .dead, .dead, .dead, .dead, .dead, .dead, .dead, .dead, .dead, .dead, .dead, .dead, .dead, .dead, .dead, .dead, .dead, .dead, .dead, .dead, .dead, .dead, .dead, .dead, .dead, .dead, .dead, .dead, .dead, .dead, .dead, .dead, .dead, .dead, .dead, .dead, .dead, .dead, .dead, .dead, .dead, .dead, .dead, .dead, .dead, .dead, .dead, .dead, .dead, .dead, .dead, .dead, .dead, .dead, .dead, .dead, .dead, .dead, .dead, .dead, .dead, .dead, .dead, .dead, .dead, .dead, .dead, .dead, .dead, .dead, .dead, .dead, .dead, .dead, .dead, .dead, .dead, .dead, .dead, .dead, .dead, .dead, .dead, .dead, .dead, .dead, .dead, .dead, .dead, .dead, .dead, .dead, .dead, .dead, .dead, .dead, .dead, .dead, .dead, .dead, .dead, .dead, .dead, .dead, .dead, .dead, .dead, .dead, .dead, .dead, .dead, .dead, .dead, .dead, .dead, .dead, .dead, .dead, .dead, .dead, .dead, .dead, .dead, .dead, .dead, .dead, .dead, .dead, .dead, .dead, .dead, .dead, .dead, .dead, .dead, .dead, .dead, .dead, .dead, .dead, .dead, .dead, .dead, .dead, .dead, .dead, .dead, .dead, .dead, .dead, .dead, .dead, .dead, .dead, .dead, .dead, .dead, .dead, .dead, .dead, .dead, .dead, .dead, .dead, .dead, .dead, .dead, .dead, .dead, .dead, .dead, .dead, .dead, .dead, .dead, .dead, .dead, .dead, .dead, .dead, .dead, .dead, .dead, .dead, .dead, .dead, .dead, .dead, .dead, .dead, .dead, .dead, .dead, .dead, .dead, .dead], hOf [(1000000000, (.ints .i64 x1q2))], [(.all 1000000000 1)], []⟩
noncomputable abbrev L2 (fuel n : Nat) (s : St) (k : Kont) := lAt Try.prog X I fuel false 4 false 42 (bodyOf Try.f42) [1, 0, 1, 0, 1, 1, 0, 0] n s k
noncomputable abbrev k2  (fuel : Nat) : Kont := (kAt Try.prog X I fuel false 4 false 42 (bodyOf Try.f42) [1, 0, 1, 0, 1, 1, 0, 0] [] (endK Try.prog Try.f42))
noncomputable def t2 (p2 : Int) (p4d : List Q → Bool) (p4g : List Q → Int) (p0 : List Int) (x2q3 : Int) (x2q4 : Int) : St := ⟨[(.all 1000000000 1), .dead, (.imm (.int .i64 p2)), .dead, (.imm (.fn false p4d p4g)), .dead, .dead, .dead, .dead, .dead, .dead, .dead, .dead, .dead, (.imm (.int .i64 x2q3)), (.imm (.int .i64 x2q4)), .dead, .dead, .dead, .dead, .dead, .dead, .dead, .dead, .dead, .dead, .dead, .dead, .dead, .dead, .dead, .dead, .dead, .dead, .dead, .dead, .dead, .dead, .dead, .dead, .dead, .dead, .dead, .dead, .dead, .dead, .dead, .dead, .dead, .dead, .dead, .dead, .dead, .dead, .dead, .dead, .dead, .dead, .dead, .dead, .dead, .dead, .dead, .dead, .dead, .dead, .dead, .dead, .dead, .dead, .dead, .dead, .dead, .dead, .dead, .dead, .dead, .dead, .dead, .dead, .dead, .dead, .dead, .dead, .dead, .dead, .dead, .dead, .dead, .dead, .dead, .dead, .dead, .dead, .dead, .dead, .dead, .dead, .dead, .dead, .dead, .dead, .dead, .dead, .dead, .dead, .dead, .dead, .dead, .dead, .dead, .dead, .dead, .dead, .dead, .dead, .dead, .dead, .dead, .dead, .dead, .dead, .dead, .dead, .dead, .dead, .dead, .dead, .dead, .dead, .dead, .dead, .dead, .dead, .dead, .dead, .dead, .dead, .dead, .dead, .dead, .dead, .dead, .dead, .dead, .dead, .dead, .dead, .dead, .dead, .dead, .dead, .dead, .dead, .dead, .dead, .dead, .dead, .dead, .dead, .dead, .dead, .dead, .dead, .dead, .dead, .dead, .dead, .dead, .dead, .dead, .dead, .dead, .dead, .dead, .dead, .dead, .dead, .dead, .dead, .dead, .dead, .dead, .dead, .dead, .dead, .dead, .dead, .dead, .dead, .dead, .dead, .dead, .dead, .dead, .dead, .dead, .dead, .dead, .dead, .dead, .dead, .dead, .dead, .dead, .dead, .dead, .dead, .dead, .dead, .dead, .dead, .dead, .dead, .dead, .dead, .dead, .dead, .dead, .dead], hOf [(1000000000, (.ints .i64 p0))], [(.all 1000000000 1)], []⟩
noncomputable abbrev L3 (fuel n : Nat) (s : St) (k : Kont) := lAt Try.prog X I fuel false 4 false 42 (bodyOf Try.f42) [1, 0, 1, 0, 1, 1, 1, 0, 1, 0] n s k
noncomputable abbrev k3  (fuel : Nat) : Kont := (kAt Try.prog X I fuel false 4 false 42 (bodyOf Try.f42) [1, 0, 1, 0, 1, 1, 1, 0, 1, 0] [] (endK Try.prog Try.f42))
noncomputable def t3 (x2q3 : Int) (x3q1 : Int) (x3q2 : List Int) : St := ⟨[(.all 1000000000 1), .dead, .dead, .dead, .dead, .dead, .dead, .dead, .dead, .dead, .dead, .dead, .dead, .dead, (.imm (.int .i64 x2q3)), .dead, .dead, (.imm (.int .i64 x3q1)), .dead, .dead, .dead, .dead, .dead, .dead, .dead, .dead, .dead, .dead, .dead, .dead, .dead, .dead, .dead, .dead, .dead, .dead, .dead, .dead, .dead, .dead, .dead, .dead, .dead, .dead, .dead, .dead, .dead, .dead, .dead, .dead, .dead, .dead, .dead, .dead, .dead, .dead, .dead, .dead, .dead, .dead, .dead, .dead, .dead, .dead, .dead, .dead, .dead, .dead, .dead, .dead, .dead, .dead, .dead, .dead, .dead, .dead, .dead, .dead, .dead, .dead, .dead, .dead, .dead, .dead, .dead, .dead, .dead, .dead, .dead, .dead, .dead, .dead, .dead, .dead, .dead, .dead, .dead, .dead, .dead, .dead, .dead, .dead, .dead, .dead, .dead, .dead, .dead, .dead, .dead, .dead, .dead, .dead, .dead, .dead, .dead, .dead, .dead, .dead, .dead, .dead, .dead, .dead, .dead, .dead, .dead, .dead, .dead, .dead, .dead, .dead, .dead, .dead, .dead, .dead, .dead, .dead, .dead, .dead, .dead, .dead, .dead, .dead, .dead, .dead, .dead, .dead, .dead, .dead, .dead, .dead, .dead, .dead, .dead, .dead, .dead, .dead, .dead, .dead, .dead, .dead, .dead, .dead, .dead, .dead, .dead, .dead, .dead, .dead, .dead, .dead, .dead, .dead, .dead, .dead, .dead, .dead, .dead, .dead, .dead, .dead, .dead, .dead, .dead, .dead, .dead, .dead, .dead, .dead, .dead, .dead, .dead, .dead, .dead, .dead, .dead, .dead, .dead, .dead, .dead, .dead, .dead, .dead, .dead, .dead, .dead, .dead, .dead, .dead, .dead, .dead, .dead, .dead, .dead, .dead, .dead, .dead, .dead, .dead, .dead, .dead], hOf [(1000000000, (.ints .i64 x3q2))], [(.all 1000000000 1)], []⟩
noncomputable abbrev L4 (fuel n : Nat) (s : St) (k : Kont) := lAt Try.prog X I fuel false 4 false 42 (bodyOf Try.f42) [1, 1, 1, 1, 1, 1, 1, 0, 0] n s k
noncomputable abbrev k4  (fuel : Nat) : Kont := (kAt Try.prog X I fuel false 4 false 42 (bodyOf Try.f42) [1, 1, 1, 1, 1, 1, 1, 0, 0] [] (endK Try.prog Try.f42))
noncomputable def t4 (p1 : Int) (p2 : Int) (p3 : Int) (p4d : List Q → Bool) (p4g : List Q → Int) (p0 : List Int) (x4q7 : Int) (x4q8 : Int) : St := ⟨[(.all 1000000000 1), (.imm (.int .i64 p1)), (.imm (.int .i64 p2)), (.imm (.int .i64 p3)), (.imm (.fn false p4d p4g)), .dead, .dead, .dead, .dead, .dead, .dead, .dead, .dead, .dead, .dead, .dead, .dead, .dead, (.imm (.int .i64 (halfI p1 p3))), (.imm (.int .i64 (IntKind.wrap .i64 ((halfI p1 p3) + p2)))), (.imm (.int .i64 x4q7)), (.imm (.int .i64 x4q8)), (.imm (.int .i64 (IntKind.wrap .i64 ((IntKind.wrap .i64 ((halfI p1 p3) + p2)) - 1)))), .dead, .dead, .dead, .dead, .dead, .dead, .dead, .dead, .dead, .dead, .dead, .dead, .dead, .dead, .dead, .dead, .dead, .dead, .dead, .dead, .dead, .dead, .dead, .dead, .dead, .dead, .dead, .dead, .dead, .dead, .dead, .dead, .dead, .dead, .dead, .dead, .dead, .dead, .dead, .dead, .dead, .dead, .dead, .dead, .dead, .dead, .dead, .dead, .dead, .dead, .dead, .dead, .dead, .dead, .dead, .dead, .dead, .dead, .dead, .dead, .dead, .dead, .dead, .dead, .dead, .dead, .dead, .dead, .dead, .dead, .dead, .dead, .dead, .dead, .dead, .dead, .dead, .dead, .dead, .dead, .dead, .dead, .dead, .dead, .dead, .dead, .dead, .dead, .dead, .dead, .dead, .dead, .dead, .dead, .dead, .dead, .dead, .dead, .dead, .dead, .dead, .dead, .dead, .dead, .dead, .dead, .dead, .dead, .dead, .dead, .dead, .dead, .dead, .dead, .dead, .dead, .dead, .dead, .dead, .dead, .dead, .dead, .dead, .dead, .dead, .dead, .dead, .dead, .dead, .dead, .dead, .dead, .dead, .dead, .dead, .dead, .dead, .dead, .dead, .dead, .dead, .dead, .dead, .dead, .dead, .dead, .dead, .dead, .dead, .dead, .dead, .dead, .dead, .dead, .dead, .dead, .dead, .dead, .dead, .dead, .dead, .dead, .dead, .dead, .dead, .dead, .dead, .dead, .dead, .dead, .dead, .dead, .dead, .dead, .dead, .dead, .dead, .dead, .dead, .dead, .dead, .dead, .dead, .dead, .dead, .dead, .dead, .dead, .dead, .dead, .dead, .dead, .dead, .dead, .dead, .dead, .dead], hOf [(1000000000, (.ints .i64 p0))], [(.all 1000000000 1)], []⟩
noncomputable abbrev L5 (fuel n : Nat) (s : St) (k : Kont) := lAt Try.prog X I fuel false 3 false 44 (bodyOf Try.f44) [1, 1, 0, 0] n s k
noncomputable abbrev k5  (fuel : Nat) : Kont := (kAt Try.prog X I fuel false 3 false 44 (bodyOf Try.f44) [1, 1, 0, 0] [] (endFn Try.prog Try.f44 220 (kOp Try.prog X I fuel false 4 42 (cAt (bodyOf Try.f42) [1, 1, 1, 1, 1, 1, 1, 1, 1, 0, 1, 0]) 5 (kAt Try.prog X I fuel false 4 false 42 (bodyOf Try.f42) [1, 1, 1, 1, 1, 1, 1, 1, 1, 0, 1, 0] [] (endK Try.prog Try.f42)))))
noncomputable def t5 (p2 : Int) (p4d : List Q → Bool) (p4g : List Q → Int) (p1 : Int) (p3 : Int) (x4q7 : Int) (x5q3 : Int) (x5q4 : Int) (x5q5 : List Int) : St := ⟨[(.all 1000000000 1), .dead, (.imm (.int .i64 p2)), .dead, (.imm (.fn false p4d p4g)), .dead, .dead, .dead, .dead, .dead, (.imm (.int .i64 x5q3)), (.imm (.int .i64 x5q4)), .dead, .dead, .dead, .dead, .dead, .dead, .dead, .dead, .dead, .dead, .dead, .dead, .dead, .dead, .dead, .dead, .dead, .dead, .dead, .dead, .dead, .dead, .dead, .dead, .dead, .dead, .dead, .dead, .dead, .dead, .dead, .dead, .dead, .dead, .dead, .dead, .dead, .dead, .dead, .dead, .dead, .dead, .dead, .dead, .dead, .dead], hOf [(1000000000, (.ints .i64 x5q5))], [(.all 1000000000 1), (.imm (.int .i64 p1)), (.imm (.int .i64 p2)), (.imm (.int .i64 p3)), (.imm (.fn false p4d p4g)), .dead, .dead, .dead, .dead, .dead, .dead, .dead, .dead, .dead, .dead, .dead, .dead, .dead, (.imm (.int .i64 (halfI p1 p3))), .dead, (.imm (.int .i64 x4q7)), .dead, .dead, .dead, (.imm (.int .i64 (IntKind.wrap .i64 ((IntKind.wrap .i64 ((halfI p1 p3) + p2)) - x4q7)))), .dead, .dead, .dead, .dead, .dead, .dead, .dead, .dead, .dead, .dead, .dead, .dead, .dead, .dead, .dead, .dead, .dead, .dead, .dead, .dead, .dead, .dead, .dead, .dead, .dead, .dead, .dead, .dead, .dead, .dead, .dead, .dead, .dead, .dead, .dead, .dead, .dead, .dead, .dead, .dead, .dead, .dead, .dead, .dead, .dead, .dead, .dead, .dead, .dead, .dead, .dead, .dead, .dead, .dead, .dead, .dead, .dead, .dead, .dead, .dead, .dead, .dead, .dead, .dead, .dead, .dead, .dead, .dead, .dead, .dead, .dead, .dead, .dead, .dead, .dead, .dead, .dead, .dead, .dead, .dead, .dead, .dead, .dead, .dead, .dead, .dead, .dead, .dead, .dead, .dead, .dead, .dead, .dead, .dead, .dead, .dead, .dead, .dead, .dead, .dead, .dead, .dead, .dead, .dead, .dead, .dead, .dead, .dead, .dead, .dead, .dead, .dead, .dead, .dead, .dead, .dead, .dead, .dead, .dead, .dead, .dead, .dead, .dead, .dead, .dead, .dead, .dead, .dead, .dead, .dead, .dead, .dead, .dead, .dead, .dead, .dead, .dead, .dead, .dead, .dead, .dead, .dead, .dead, .dead, .dead, .dead, .dead, .dead, .dead, .dead, .dead, .dead, .dead, .dead, .dead, .dead, .dead, .dead, .dead, .dead, .dead, (.all 1000000000 1), (.imm (.int .i64 x4q7)), (.imm (.int .i64 p2)), (.imm (.int .i64 (IntKind.wrap .i64 ((IntKind.wrap .i64 ((halfI p1 p3) + p2)) - x4q7)))), (.imm (.fn false p4d p4g)), .dead, .dead, .dead, .dead, .dead, .dead, .dead, .dead, .dead, .dead, .dead, .dead, .dead, .dead, .dead, .dead, .dead, .dead, .dead, .dead, .dead, .dead, .dead, .dead, .dead, .dead, .dead, .dead, .dead, (.tup []), (.all 1000000000 1)], []⟩
noncomputable abbrev L6 (fuel n : Nat) (s : St) (k : Kont) := lAt Try.prog X I fuel false 2 false 45 (bodyOf Try.f45) [1, 0] n s k
noncomputable abbrev k6 (n5 : Nat) (fuel : Nat) : Kont := (kAt Try.prog X I fuel false 2 false 45 (bodyOf Try.f45) [1, 0] [] (endFn Try.prog Try.f45 58 (kOp Try.prog X I fuel false 3 44 (cAt (bodyOf Try.f44) [1, 1, 0, 0, 0, 1, 0, 1, 0, 0]) 7 (kAt Try.prog X I fuel false 3 false 44 (bodyOf Try.f44) [1, 1, 0, 0, 0, 1, 0, 1, 0, 0] [n5] (endFn Try.prog Try.f44 220 (kOp Try.prog X I fuel false 4 42 (cAt (bodyOf Try.f42) [1, 1, 1, 1, 1, 1, 1, 1, 1, 0, 1, 0]) 5 (kAt Try.prog X I fuel false 4 false 42 (bodyOf Try.f42) [1, 1, 1, 1, 1, 1, 1, 1, 1, 0, 1, 0] [] (endK Try.prog Try.f42))))))))
noncomputable def t6 (p2 : Int) (x5q3 : Int) (x5q4 : Int) (p4d : List Q → Bool) (p4g : List Q → Int) (p1 : Int) (p3 : Int) (x4q7 : Int) (x6q3 : Int) (x6q4 : List Int) : St := ⟨[(.all 1000000000 1), (.imm (.int .i64 (IntKind.wrap .i64 (p2 - x5q3)))), (.imm (.int .i64 p2)), (.imm (.int .i64 x5q4)), .dead, .dead, .dead, .dead, .dead, .dead, (.imm (.int .i64 x6q3)), .dead, .dead, .dead, .dead, .dead, .dead, .dead, .dead, .dead, .dead, .dead, .dead, .dead, .dead, .dead, .dead, .dead, .dead, .dead, .dead, .dead, .dead, .dead, .dead, .dead, .dead, .dead], hOf [(1000000000, (.ints .i64 x6q4))], [(.all 1000000000 1), .dead, (.imm (.int .i64 p2)), .dead, (.imm (.fn false p4d p4g)), .dead, .dead, .dead, .dead, .dead, (.imm (.int .i64 x5q3)), (.imm (.int .i64 x5q4)), .dead, .dead, .dead, .dead, .dead, .dead, .dead, .dead, .dead, .dead, .dead, .dead, (.all 1000000000 1), (.imm (.int .i64 p2)), (.imm (.int .i64 x5q3)), (.imm (.int .i64 (IntKind.wrap .i64 (p2 - x5q3)))), (.imm (.int .i64 p2)), (.imm (.int .i64 x5q4)), (.imm (.fn false p4d p4g)), .dead, .dead, .dead, .dead, .dead, .dead, .dead, .dead, .dead, .dead, .dead, .dead, .dead, .dead, .dead, .dead, .dead, .dead, .dead, .dead, .dead, .dead, .dead, .dead, .dead, .dead, .dead, (.tup []), (.all 1000000000 1), (.imm (.int .i64 p1)), (.imm (.int .i64 p2)), (.imm (.int .i64 p3)), (.imm (.fn false p4d p4g)), .dead, .dead, .dead, .dead, .dead, .dead, .dead, .dead, .dead, .dead, .dead, .dead, .dead, (.imm (.int .i64 (halfI p1 p3))), .dead, (.imm (.int .i64 x4q7)), .dead, .dead, .dead, (.imm (.int .i64 (IntKind.wrap .i64 ((IntKind.wrap .i64 ((halfI p1 p3) + p2)) - x4q7)))), .dead, .dead, .dead, .dead, .dead, .dead, .dead, .dead, .dead, .dead, .dead, .dead, .dead, .dead, .dead, .dead, .dead, .dead, .dead, .dead, .dead, .dead, .dead, .dead, .dead, .dead, .dead, .dead, .dead, .dead, .dead, .dead, .dead, .dead, .dead, .dead, .dead, .dead, .dead, .dead, .dead, .dead, .dead, .dead, .dead, .dead, .dead, .dead, .dead, .dead, .dead, .dead, .dead, .dead, .dead, .dead, .dead, .dead, .dead, .dead, .dead, .dead, .dead, .dead, .dead, .dead, .dead, .dead, .dead, .dead, .dead, .dead, .dead, .dead, .dead, .dead, .dead, .dead, .dead, .dead, .dead, .dead, .dead, .dead, .dead, .dead, .dead, .dead, .dead, .dead, .dead, .dead, .dead, .dead, .dead, .dead, .dead, .dead, .dead, .dead, .dead, .dead, .dead, .dead, .dead, .dead, .dead, .dead, .dead, .dead, .dead, .dead, .dead, .dead, .dead, .dead, .dead, .dead, .dead, .dead, .dead, .dead, .dead, .dead, .dead, .dead, .dead, .dead, .dead, .dead, .dead, .dead, .dead, .dead, .dead, .dead, .dead, .dead, .dead, .dead, .dead, .dead, .dead, .dead, .dead, .dead, .dead, .dead, .dead, .dead, .dead, .dead, .dead, .dead, .dead, .dead, .dead, .dead, .dead, .dead, .dead, (.all 1000000000 1), (.imm (.int .i64 x4q7)), (.imm (.int .i64 p2)), (.imm (.int .i64 (IntKind.wrap .i64 ((IntKind.wrap .i64 ((halfI p1 p3) + p2)) - x4q7)))), (.imm (.fn false p4d p4g)), .dead, .dead, .dead, .dead, .dead, .dead, .dead, .dead, .dead, .dead, .dead, .dead, .dead, .dead, .dead, .dead, .dead, .dead, .dead, .dead, .dead, .dead, .dead, .dead, .dead, .dead, .dead, .dead, .dead, (.tup []), (.all 1000000000 1)], []⟩
noncomputable abbrev L7 (fuel n : Nat) (s : St) (k : Kont) := lAt Try.prog X I fuel false 2 false 45 (bodyOf Try.f45) [1, 0] n s k
noncomputable abbrev k7 (n5 : Nat) (fuel : Nat) : Kont := (kAt Try.prog X I fuel false 2 false 45 (bodyOf Try.f45) [1, 0] [] (endFn Try.prog Try.f45 58 (kOp Try.prog X I fuel false 3 44 (cAt (bodyOf Try.f44) [1, 1, 0, 0, 0, 1, 0, 1, 1, 0]) 11 (kAt Try.prog X I fuel false 3 false 44 (bodyOf Try.f44) [1, 1, 0, 0, 0, 1, 0, 1, 1, 0] [n5] (endFn Try.prog Try.f44 220 (kOp Try.prog X I fuel false 4 42 (cAt (bodyOf Try.f42) [1, 1, 1, 1, 1, 1, 1, 1, 1, 0, 1, 0]) 5 (kAt Try.prog X I fuel false 4 false 42 (bodyOf Try.f42) [1, 1, 1, 1, 1, 1, 1, 1, 1, 0, 1, 0] [] (endK Try.prog Try.f42))))))))
noncomputable def t7 (p2 : Int) (x5q3 : Int) (x5q4 : Int) (p4d : List Q → Bool) (p4g : List Q → Int) (p1 : Int) (p3 : Int) (x4q7 : Int) (x7q3 : Int) (x7q4 : List Int) : St := ⟨[(.all 1000000000 1), (.imm (.int .i64 (IntKind.wrap .i64 (p2 - x5q3)))), (.imm (.int .i64 (IntKind.wrap .i64 ((IntKind.wrap .i64 (p2 + x5q4)) - x5q3)))), (.imm (.int .i64 x5q3)), .dead, .dead, .dead, .dead, .dead, .dead, (.imm (.int .i64 x7q3)), .dead, .dead, .dead, .dead, .dead, .dead, .dead, .dead, .dead, .dead, .dead, .dead, .dead, .dead, .dead, .dead, .dead, .dead, .dead, .dead, .dead, .dead, .dead, .dead, .dead, .dead, .dead], hOf [(1000000000, (.ints .i64 x7q4))], [(.all 1000000000 1), .dead, (.imm (.int .i64 p2)), .dead, (.imm (.fn false p4d p4g)), .dead, .dead, .dead, .dead, .dead, (.imm (.int .i64 x5q3)), (.imm (.int .i64 x5q4)), .dead, .dead, .dead, .dead, .dead, .dead, .dead, .dead, .dead, .dead, .dead, .dead, .dead, .dead, .dead, .dead, .dead, .dead, .dead, .dead, .dead, .dead, .dead, (.all 1000000000 1), (.imm (.int .i64 p2)), (.imm (.int .i64 x5q3)), (.imm (.int .i64 (IntKind.wrap .i64 (p2 - x5q3)))), (.imm (.int .i64 p2)), (.imm (.int .i64 x5q4)), (.imm (.int .i64 (IntKind.wrap .i64 (p2 + x5q4)))), (.imm (.int .i64 x5q3)), (.imm (.int .i64 (IntKind.wrap .i64 ((IntKind.wrap .i64 (p2 + x5q4)) - x5q3)))), (.imm (.int .i64 x5q3)), (.imm (.fn false p4d p4g)), .dead, .dead, .dead, .dead, .dead, .dead, .dead, .dead, .dead, .dead, .dead, .dead, (.tup []), (.all 1000000000 1), (.imm (.int .i64 p1)), (.imm (.int .i64 p2)), (.imm (.int .i64 p3)), (.imm (.fn false p4d p4g)), .dead, .dead, .dead, .dead, .dead, .dead, .dead, .dead, .dead, .dead, .dead, .dead, .dead, (.imm (.int .i64 (halfI p1 p3))), .dead, (.imm (.int .i64 x4q7)), .dead, .dead, .dead, (.imm (.int .i64 (IntKind.wrap .i64 ((IntKind.wrap .i64 ((halfI p1 p3) + p2)) - x4q7)))), .dead, .dead, .dead, .dead, .dead, .dead, .dead, .dead, .dead, .dead, .dead, .dead, .dead, .dead, .dead, .dead, .dead, .dead, .dead, .dead, .dead, .dead, .dead, .dead, .dead, .dead, .dead, .dead, .dead, .dead, .dead, .dead, .dead, .dead, .dead, .dead, .dead, .dead, .dead, .dead, .dead, .dead, .dead, .dead, .dead, .dead, .dead, .dead, .dead, .dead, .dead, .dead, .dead, .dead, .dead, .dead, .dead, .dead, .dead, .dead, .dead, .dead, .dead, .dead, .dead, .dead, .dead, .dead, .dead, .dead, .dead, .dead, .dead, .dead, .dead, .dead, .dead, .dead, .dead, .dead, .dead, .dead, .dead, .dead, .dead, .dead, .dead, .dead, .dead, .dead, .dead, .dead, .dead, .dead, .dead, .dead, .dead, .dead, .dead, .dead, .dead, .dead, .dead, .dead, .dead, .dead, .dead, .dead, .dead, .dead, .dead, .dead, .dead, .dead, .dead, .dead, .dead, .dead, .dead, .dead, .dead, .dead, .dead, .dead, .dead, .dead, .dead, .dead, .dead, .dead, .dead, .dead, .dead, .dead, .dead, .dead, .dead, .dead, .dead, .dead, .dead, .dead, .dead, .dead, .dead, .dead, .dead, .dead, .dead, .dead, .dead, .dead, .dead, .dead, .dead, .dead, .dead, .dead, .dead, .dead, .dead, (.all 1000000000 1), (.imm (.int .i64 x4q7)), (.imm (.int .i64 p2)), (.imm (.int .i64 (IntKind.wrap .i64 ((IntKind.wrap .i64 ((halfI p1 p3) + p2)) - x4q7)))), (.imm (.fn false p4d p4g)), .dead, .dead, .dead, .dead, .dead, .dead, .dead, .dead, .dead, .dead, .dead, .dead, .dead, .dead, .dead, .dead, .dead, .dead, .dead, .dead, .dead, .dead, .dead, .dead, .dead, .dead, .dead, .dead, .dead, (.tup []), (.all 1000000000 1)], []⟩
noncomputable abbrev L8 (fuel n : Nat) (s : St) (k : Kont) := lAt Try.prog X I fuel false 2 false 45 (bodyOf Try.f45) [1, 0] n s k
noncomputable abbrev k8  (fuel : Nat) : Kont := (kAt Try.prog X I fuel false 2 false 45 (bodyOf Try.f45) [1, 0] [] (endFn Try.prog Try.f45 58 (kOp Try.prog X I fuel false 3 44 (cAt (bodyOf Try.f44) [1, 1, 1]) 7 (kAt Try.prog X I fuel false 3 false 44 (bodyOf Try.f44) [1, 1, 1] [] (endFn Try.prog Try.f44 220 (kOp Try.prog X I fuel false 4 42 (cAt (bodyOf Try.f42) [1, 1, 1, 1, 1, 1, 1, 1, 1, 0, 1, 0]) 5 (kAt Try.prog X I fuel false 4 false 42 (bodyOf Try.f42) [1, 1, 1, 1, 1, 1, 1, 1, 1, 0, 1, 0] [] (endK Try.prog Try.f42))))))))
noncomputable def t8 (p2 : Int) (x5q3 : Int) (p4d : List Q → Bool) (p4g : List Q → Int) (p1 : Int) (p3 : Int) (x4q7 : Int) (x8q3 : Int) (x8q4 : List Int) : St := ⟨[(.all 1000000000 1), (.imm (.int .i64 (IntKind.wrap .i64 (p2 - x5q3)))), (.imm (.int .i64 p2)), (.imm (.int .i64 x5q3)), .dead, .dead, .dead, .dead, .dead, .dead, (.imm (.int .i64 x8q3)), .dead, .dead, .dead, .dead, .dead, .dead, .dead, .dead, .dead, .dead, .dead, .dead, .dead, .dead, .dead, .dead, .dead, .dead, .dead, .dead, .dead, .dead, .dead, .dead, .dead, .dead, .dead], hOf [(1000000000, (.ints .i64 x8q4))], [(.all 1000000000 1), .dead, (.imm (.int .i64 p2)), .dead, (.imm (.fn false p4d p4g)), .dead, .dead, .dead, .dead, .dead, (.imm (.int .i64 x5q3)), .dead, .dead, .dead, .dead, .dead, .dead, .dead, .dead, .dead, .dead, .dead, .dead, .dead, .dead, .dead, .dead, .dead, .dead, .dead, .dead, .dead, .dead, .dead, .dead, .dead, .dead, .dead, .dead, .dead, .dead, .dead, .dead, .dead, .dead, .dead, .dead, .dead, .dead, .dead, (.all 1000000000 1), (.imm (.int .i64 p2)), (.imm (.int .i64 x5q3)), (.imm (.int .i64 (IntKind.wrap .i64 (p2 - x5q3)))), (.imm (.int .i64 p2)), (.imm (.int .i64 x5q3)), (.imm (.fn false p4d p4g)), .dead, (.tup []), (.all 1000000000 1), (.imm (.int .i64 p1)), (.imm (.int .i64 p2)), (.imm (.int .i64 p3)), (.imm (.fn false p4d p4g)), .dead, .dead, .dead, .dead, .dead, .dead, .dead, .dead, .dead, .dead, .dead, .dead, .dead, (.imm (.int .i64 (halfI p1 p3))), .dead, (.imm (.int .i64 x4q7)), .dead, .dead, .dead, (.imm (.int .i64 (IntKind.wrap .i64 ((IntKind.wrap .i64 ((halfI p1 p3) + p2)) - x4q7)))), .dead, .dead, .dead, .dead, .dead, .dead, .dead, .dead, .dead, .dead, .dead, .dead, .dead, .dead, .dead, .dead, .dead, .dead, .dead, .dead, .dead, .dead, .dead, .dead, .dead, .dead, .dead, .dead, .dead, .dead, .dead, .dead, .dead, .dead, .dead, .dead, .dead, .dead, .dead, .dead, .dead, .dead, .dead, .dead, .dead, .dead, .dead, .dead, .dead, .dead, .dead, .dead, .dead, .dead, .dead, .dead, .dead, .dead, .dead, .dead, .dead, .dead, .dead, .dead, .dead, .dead, .dead, .dead, .dead, .dead, .dead, .dead, .dead, .dead, .dead, .dead, .dead, .dead, .dead, .dead, .dead, .dead, .dead, .dead, .dead, .dead, .dead, .dead, .dead, .dead, .dead, .dead, .dead, .dead, .dead, .dead, .dead, .dead, .dead, .dead, .dead, .dead, .dead, .dead, .dead, .dead, .dead, .dead, .dead, .dead, .dead, .dead, .dead, .dead, .dead, .dead, .dead, .dead, .dead, .dead, .dead, .dead, .dead, .dead, .dead, .dead, .dead, .dead, .dead, .dead, .dead, .dead, .dead, .dead, .dead, .dead, .dead, .dead, .dead, .dead, .dead, .dead, .dead, .dead, .dead, .dead, .dead, .dead, .dead, .dead, .dead, .dead, .dead, .dead, .dead, .dead, .dead, .dead, .dead, .dead, .dead, (.all 1000000000 1), (.imm (.int .i64 x4q7)), (.imm (.int .i64 p2)), (.imm (.int .i64 (IntKind.wrap .i64 ((IntKind.wrap .i64 ((halfI p1 p3) + p2)) - x4q7)))), (.imm (.fn false p4d p4g)), .dead, .dead, .dead, .dead, .dead, .dead, .dead, .dead, .dead, .dead, .dead, .dead, .dead, .dead, .dead, .dead, .dead, .dead, .dead, .dead, .dead, .dead, .dead, .dead, .dead, .dead, .dead, .dead, .dead, (.tup []), (.all 1000000000 1)], []⟩
theorem e (fuel : Nat) (p0 : List Int) (p1 : Int) (p2 : Int) (p3 : Int) (p4d : List Q → Bool) (p4g : List Q → Int) : runF Try.prog X I 4 fuel 42 Try.f42 [.rows true [(.i64, p0)], .d (.int .i64 p1), .d (.int .i64 p2), .d (.int .i64 p3), .d (.fn false p4d p4g)] =
  (bif (((IntKind.wrap .i64 (p2 - p1)) : Int) == 1) then
  L0 fuel fuel (t0 p1 p4d p4g p0 p2 p3) (k0  fuel)
  else
  (bif (((IntKind.wrap .i64 (p3 - p2)) : Int) == 1) then
  L2 fuel fuel (t2 p2 p4d p4g p0 p1 p2) (k2  fuel)
  else
  (bif (decide ((p2 : Int) > (halfI p1 p3))) then
  L4 fuel fuel (t4 p1 p2 p3 p4d p4g p0 ((IntKind.wrap .i64 ((IntKind.wrap .i64 ((halfI p1 p3) + p2)) - p3))) ((halfI p1 p3))) (k4  fuel)
  else
  L4 fuel fuel (t4 p1 p2 p3 p4d p4g p0 p1 p2) (k4  fuel)))) := by kernel_rfl
theorem s0 (fuel n0 : Nat) (p1 : Int) (p4d : List Q → Bool) (p4g : List Q → Int) (p0 : List Int) (x0q3 : Int) (x0q4 : Int) : L0 fuel (n0 + 1) (t0 p1 p4d p4g p0 x0q3 x0q4) (k0  fuel) =
  (bif (decide ((x0q3 : Int) < x0q4)) then
  (idx (halfI x0q3 x0q4) p0.length).bind fun j39 =>
  (p0[j39]?).bind fun v40 =>
  (idx p1 p0.length).bind fun j41 =>
  (p0[j41]?).bind fun v42 =>
  (bif (p4d [Q.i v40, Q.i v42]) then
  (bif (decide (((p4g [Q.i v40, Q.i v42]) : Int) < 0)) then
  L0 fuel n0 (t0 p1 p4d p4g p0 ((IntKind.wrap .i64 ((halfI x0q3 x0q4) + 1))) x0q4) (k0  fuel)
  else
  L0 fuel n0 (t0 p1 p4d p4g p0 x0q3 ((halfI x0q3 x0q4))) (k0  fuel))
  else
  none)
  else
  L1 fuel fuel (t1 x0q3 p1 p0) (k1  fuel)) := by kernel_rfl
theorem s1 (fuel n1 : Nat) (x0q3 : Int) (x1q1 : Int) (x1q2 : List Int) : L1 fuel (n1 + 1) (t1 x0q3 x1q1 x1q2) (k1  fuel) =
  (bif (decide ((x1q1 : Int) < (IntKind.wrap .i64 (x0q3 - 1)))) then
  (idx (IntKind.wrap .i64 (x1q1 + 1)) x1q2.length).bind fun j49 =>
  (x1q2[j49]?).bind fun v50 =>
  (idx x1q1 x1q2.length).bind fun j51 =>
  (x1q2[j51]?).bind fun v52 =>
  (idx x1q1 x1q2.length).bind fun j53 =>
  (bif decide (j53 < x1q2.length) then
  (idx (IntKind.wrap .i64 (x1q1 + 1)) (x1q2.set j53 v50).length).bind fun j54 =>
  (bif decide (j54 < (x1q2.set j53 v50).length) then
  L1 fuel n1 (t1 x0q3 ((IntKind.wrap .i64 (x1q1 + 1))) (((x1q2.set j53 v50).set j54 v52))) (k1  fuel)
  else
  none)
  else
  none)
  else
  some ([], [[(.ints .i64 x1q2)]])) := by kernel_rfl
theorem s2 (fuel n2 : Nat) (p2 : Int) (p4d : List Q → Bool) (p4g : List Q → Int) (p0 : List Int) (x2q3 : Int) (x2q4 : Int) : L2 fuel (n2 + 1) (t2 p2 p4d p4g p0 x2q3 x2q4) (k2  fuel) =
  (bif (decide ((x2q3 : Int) < x2q4)) then
  (idx p2 p0.length).bind fun j93 =>
  (p0[j93]?).bind fun v94 =>
  (idx (halfI x2q3 x2q4) p0.length).bind fun j95 =>
  (p0[j95]?).bind fun v96 =>
  (bif (p4d [Q.i v94, Q.i v96]) then
  (bif (!(decide (((p4g [Q.i v94, Q.i v96]) : Int) < 0))) then
  L2 fuel n2 (t2 p2 p4d p4g p0 ((IntKind.wrap .i64 ((halfI x2q3 x2q4) + 1))) x2q4) (k2  fuel)
  else
  L2 fuel n2 (t2 p2 p4d p4g p0 x2q3 ((halfI x2q3 x2q4))) (k2  fuel))
  else
  none)
  else
  L3 fuel fuel (t3 x2q3 p2 p0) (k3  fuel)) := by kernel_rfl
theorem s3 (fuel n3 : Nat) (x2q3 : Int) (x3q1 : Int) (x3q2 : List Int) : L3 fuel (n3 + 1) (t3 x2q3 x3q1 x3q2) (k3  fuel) =
  (bif (decide ((x3q1 : Int) > x2q3)) then
  (idx (IntKind.wrap .i64 (x3q1 - 1)) x3q2.length).bind fun j103 =>
  (x3q2[j103]?).bind fun v104 =>
  (idx x3q1 x3q2.length).bind fun j105 =>
  (x3q2[j105]?).bind fun v106 =>
  (idx x3q1 x3q2.length).bind fun j107 =>
  (bif decide (j107 < x3q2.length) then
  (idx (IntKind.wrap .i64 (x3q1 - 1)) (x3q2.set j107 v104).length).bind fun j108 =>
  (bif decide (j108 < (x3q2.set j107 v104).length) then
  L3 fuel n3 (t3 x2q3 ((IntKind.wrap .i64 (x3q1 - 1))) (((x3q2.set j107 v104).set j108 v106))) (k3  fuel)
  else
  none)
  else
  none)
  else
  some ([], [[(.ints .i64 x3q2)]])) := by kernel_rfl
theorem s4 (fuel n4 : Nat) (p1 : Int) (p2 : Int) (p3 : Int) (p4d : List Q → Bool) (p4g : List Q → Int) (p0 : List Int) (x4q7 : Int) (x4q8 : Int) : L4 fuel (n4 + 1) (t4 p1 p2 p3 p4d p4g p0 x4q7 x4q8) (k4  fuel) =
  (bif (decide ((x4q7 : Int) < x4q8)) then
  (idx (IntKind.wrap .i64 ((IntKind.wrap .i64 ((IntKind.wrap .i64 ((halfI p1 p3) + p2)) - 1)) - (halfI x4q7 x4q8))) p0.length).bind fun j315 =>
  (p0[j315]?).bind fun v316 =>
  (idx (halfI x4q7 x4q8) p0.length).bind fun j317 =>
  (p0[j317]?).bind fun v318 =>
  (bif (p4d [Q.i v316, Q.i v318]) then
  (bif (!(decide (((p4g [Q.i v316, Q.i v318]) : Int) < 0))) then
  L4 fuel n4 (t4 p1 p2 p3 p4d p4g p0 ((IntKind.wrap .i64 ((halfI x4q7 x4q8) + 1))) x4q8) (k4  fuel)
  else
  L4 fuel n4 (t4 p1 p2 p3 p4d p4g p0 x4q7 ((halfI x4q7 x4q8))) (k4  fuel))
  else
  none)
  else
  (bif (decide ((x4q7 : Int) < p2)) then
  (bif (decide ((p2 : Int) < (IntKind.wrap .i64 ((IntKind.wrap .i64 ((halfI p1 p3) + p2)) - x4q7)))) then
  L5 fuel fuel (t5 p2 p4d p4g p1 p3 x4q7 ((IntKind.wrap .i64 (p2 - x4q7))) ((IntKind.wrap .i64 ((IntKind.wrap .i64 ((IntKind.wrap .i64 ((halfI p1 p3) + p2)) - x4q7)) - p2))) p0) (k5  fuel)
  else
  (tailM ((2 : Nat) : Int) p4d p4g p1 x4q7 (halfI p1 p3) (IntKind.wrap .i64 ((IntKind.wrap .i64 ((halfI p1 p3) + p2)) - x4q7)) p3 p0))
  else
  (tailM ((2 : Nat) : Int) p4d p4g p1 x4q7 (halfI p1 p3) (IntKind.wrap .i64 ((IntKind.wrap .i64 ((halfI p1 p3) + p2)) - x4q7)) p3 p0))) := by kernel_rfl
theorem s5 (fuel n5 : Nat) (p2 : Int) (p4d : List Q → Bool) (p4g : List Q → Int) (p1 : Int) (p3 : Int) (x4q7 : Int) (x5q3 : Int) (x5q4 : Int) (x5q5 : List Int) : L5 fuel (n5 + 1) (t5 p2 p4d p4g p1 p3 x4q7 x5q3 x5q4 x5q5) (k5  fuel) =
  (bif ((x5q3 : Int) != x5q4) then
  (bif (decide ((x5q3 : Int) > x5q4)) then
  L6 fuel fuel (t6 p2 x5q3 x5q4 p4d p4g p1 p3 x4q7 0 x5q5) (k6 n5 fuel)
  else
  L7 fuel fuel (t7 p2 x5q3 x5q4 p4d p4g p1 p3 x4q7 0 x5q5) (k7 n5 fuel))
  else
  L8 fuel fuel (t8 p2 x5q3 p4d p4g p1 p3 x4q7 0 x5q5) (k8  fuel)) := by kernel_rfl
theorem s6 (fuel n5 n6 : Nat) (p2 : Int) (x5q3 : Int) (x5q4 : Int) (p4d : List Q → Bool) (p4g : List Q → Int) (p1 : Int) (p3 : Int) (x4q7 : Int) (x6q3 : Int) (x6q4 : List Int) : L6 fuel (n6 + 1) (t6 p2 x5q3 x5q4 p4d p4g p1 p3 x4q7 x6q3 x6q4) (k6 n5 fuel) =
  (bif (decide ((x6q3 : Int) < x5q4)) then
  (idx (IntKind.wrap .i64 (p2 + x6q3)) x6q4.length).bind fun j361 =>
  (x6q4[j361]?).bind fun v362 =>
  (idx (IntKind.wrap .i64 ((IntKind.wrap .i64 (p2 - x5q3)) + x6q3)) x6q4.length).bind fun j363 =>
  (x6q4[j363]?).bind fun v364 =>
  (idx (IntKind.wrap .i64 ((IntKind.wrap .i64 (p2 - x5q3)) + x6q3)) x6q4.length).bind fun j365 =>
  (bif decide (j365 < x6q4.length) then
  (idx (IntKind.wrap .i64 (p2 + x6q3)) (x6q4.set j365 v362).length).bind fun j366 =>
  (bif decide (j366 < (x6q4.set j365 v362).length) then
  L6 fuel n6 (t6 p2 x5q3 x5q4 p4d p4g p1 p3 x4q7 ((IntKind.wrap .i64 (x6q3 + 1))) (((x6q4.set j365 v362).set j366 v364))) (k6 n5 fuel)
  else
  none)
  else
  none)
  else
  L5 fuel n5 (t5 p2 p4d p4g p1 p3 x4q7 ((IntKind.wrap .i64 (x5q3 - x5q4))) x5q4 x6q4) (k5  fuel)) := by kernel_rfl
theorem s7 (fuel n5 n7 : Nat) (p2 : Int) (x5q3 : Int) (x5q4 : Int) (p4d : List Q → Bool) (p4g : List Q → Int) (p1 : Int) (p3 : Int) (x4q7 : Int) (x7q3 : Int) (x7q4 : List Int) : L7 fuel (n7 + 1) (t7 p2 x5q3 x5q4 p4d p4g p1 p3 x4q7 x7q3 x7q4) (k7 n5 fuel) =
  (bif (decide ((x7q3 : Int) < x5q3)) then
  (idx (IntKind.wrap .i64 ((IntKind.wrap .i64 ((IntKind.wrap .i64 (p2 + x5q4)) - x5q3)) + x7q3)) x7q4.length).bind fun j373 =>
  (x7q4[j373]?).bind fun v374 =>
  (idx (IntKind.wrap .i64 ((IntKind.wrap .i64 (p2 - x5q3)) + x7q3)) x7q4.length).bind fun j375 =>
  (x7q4[j375]?).bind fun v376 =>
  (idx (IntKind.wrap .i64 ((IntKind.wrap .i64 (p2 - x5q3)) + x7q3)) x7q4.length).bind fun j377 =>
  (bif decide (j377 < x7q4.length) then
  (idx (IntKind.wrap .i64 ((IntKind.wrap .i64 ((IntKind.wrap .i64 (p2 + x5q4)) - x5q3)) + x7q3)) (x7q4.set j377 v374).length).bind fun j378 =>
  (bif decide (j378 < (x7q4.set j377 v374).length) then
  L7 fuel n7 (t7 p2 x5q3 x5q4 p4d p4g p1 p3 x4q7 ((IntKind.wrap .i64 (x7q3 + 1))) (((x7q4.set j377 v374).set j378 v376))) (k7 n5 fuel)
  else
  none)
  else
  none)
  else
  L5 fuel n5 (t5 p2 p4d p4g p1 p3 x4q7 x5q3 ((IntKind.wrap .i64 (x5q4 - x5q3))) x7q4) (k5  fuel)) := by kernel_rfl
theorem s8 (fuel n8 : Nat) (p2 : Int) (x5q3 : Int) (p4d : List Q → Bool) (p4g : List Q → Int) (p1 : Int) (p3 : Int) (x4q7 : Int) (x8q3 : Int) (x8q4 : List Int) : L8 fuel (n8 + 1) (t8 p2 x5q3 p4d p4g p1 p3 x4q7 x8q3 x8q4) (k8  fuel) =
  (bif (decide ((x8q3 : Int) < x5q3)) then
  (idx (IntKind.wrap .i64 (p2 + x8q3)) x8q4.length).bind fun j385 =>
  (x8q4[j385]?).bind fun v386 =>
  (idx (IntKind.wrap .i64 ((IntKind.wrap .i64 (p2 - x5q3)) + x8q3)) x8q4.length).bind fun j387 =>
  (x8q4[j387]?).bind fun v388 =>
  (idx (IntKind.wrap .i64 ((IntKind.wrap .i64 (p2 - x5q3)) + x8q3)) x8q4.length).bind fun j389 =>
  (bif decide (j389 < x8q4.length) then
  (idx (IntKind.wrap .i64 (p2 + x8q3)) (x8q4.set j389 v386).length).bind fun j390 =>
  (bif decide (j390 < (x8q4.set j389 v386).length) then
  L8 fuel n8 (t8 p2 x5q3 p4d p4g p1 p3 x4q7 ((IntKind.wrap .i64 (x8q3 + 1))) (((x8q4.set j389 v386).set j390 v388))) (k8  fuel)
  else
  none)
  else
  none)
  else
  (tailM ((2 : Nat) : Int) p4d p4g p1 x4q7 (halfI p1 p3) (IntKind.wrap .i64 ((IntKind.wrap .i64 ((halfI p1 p3) + p2)) - x4q7)) p3 x8q4)) := by kernel_rfl
end smv2
theorem smv2.ok_of (hX : ∀ E ∈ smv2.X, CallSpec Try.prog E) (h : ∀ (xs : List Int) (a : Int) (m : Int) (b : Int) (dom : List Q → Bool) (G : List Q → Int), (decide ((xs : List Int).length ≤ 60) && domA dom xs && mgW G xs a m b && decide (0 ≤ a) && decide (a < m) && decide (m < b) && decide (b - a ≤ 4)) = true → ∃ fuel, runF Try.prog smv2.X smv2.I 4 fuel 42 Try.f42 [.rows true [(.i64, xs)], .d (.int .i64 a), .d (.int .i64 m), .d (.int .i64 b), .d (.fn false dom G)] = some ([], [[(.ints .i64 (segS (ltG G) a.toNat b.toNat xs))]])) : CallSpec Try.prog smv2.E :=
  callSpec_of (d := 4) hX (by kernel_rfl) smv2.I_ok (by kernel_rfl) (by kernel_rfl) (by kernel_rfl) (fun _ _ _ _ h => by dsimp only [smv2.E] at h; cases h) (fun xs hp => by
    dsimp only [smv2.E] at hp ⊢
    split at hp
    · exact h _ _ _ _ _ _ hp
    · cases hp)
theorem smv2.shift {F : Nat} {xs : List Int} {a i : Nat} (hl : xs.length ≤ 60) (hi : a + 1 ≤ i) (hib : i ≤ xs.length) (hF : 200 < F) :
    smv2.L1 F F (smv2.t1 (i : Int) (a : Int) xs) (smv2.k1 F) = some ([], [[(.ints .i64 (shU a (i - 1 - a) xs))]]) := by
  refine run_loop (N := i - 1 - a) (fun n c ys => smv2.L1 F n (smv2.t1 (i : Int) ((a + c : Nat) : Int) ys) (smv2.k1 F)) (fun c ys => ys = shU a c xs) ?_ ?_ F 0 xs (by omega) (by omega) rfl
  · rintro n ys rfl
    rw [smv2.s1, wS (by omega) (by omega), decide_eq_false (by omega)]
    rfl
  · rintro n c ys hc rfl
    have hyl := shU_len a c xs
    refine ⟨_, rfl, ?_⟩
    rw [smv2.s1, wS (x := (i : Int) - 1) (by omega) (by omega), decide_eq_true (by omega), cond_true, w1 (by omega), idx_nat (j := a + c + 1) (by omega), idx_nat (j := a + c) (by omega)]
    simp only [Option.bind_some, getD_get (show a + c + 1 < (shU a c xs).length by omega), getD_get (show a + c < (shU a c xs).length by omega)]
    rw [decide_eq_true (show a + c < (shU a c xs).length by omega), cond_true, List.length_set, idx_nat (j := a + c + 1) (by omega)]
    simp only [Option.bind_some, List.length_set]
    rw [decide_eq_true (show a + c + 1 < (shU a c xs).length by omega), cond_true]
    rfl
theorem smv2.left {F : Nat} {xs : List Int} {a b : Nat} {dom : List Q → Bool} {G : List Q → Int} {da : List Int} (hd : domA dom xs = true) (hlt : ltG G = ltD da) (hl : xs.length ≤ 60) (h : MG da a (a + 1) b xs) (hF : 200 < F) : ∀ (d n i j : Nat), j - i ≤ d → a + 1 ≤ i → i ≤ j → j ≤ b → (i = a + 1 ∨ ltD da (xs.getD (i - 1) 0) (xs.getD a 0) = true) → (j = b ∨ ltD da (xs.getD j 0) (xs.getD a 0) = false) → d < n →
    smv2.L0 F n (smv2.t0 (a : Int) dom G xs (i : Int) (j : Int)) (smv2.k0 F) = some ([], [[(.ints .i64 (segS (ltD da) a b xs))]]) := by
  have hb := h.bl
  have hfin : ∀ n i : Nat, a + 1 ≤ i → i ≤ b → (i = a + 1 ∨ ltD da (xs.getD (i - 1) 0) (xs.getD a 0) = true) → (i = b ∨ ltD da (xs.getD i 0) (xs.getD a 0) = false) → smv2.L0 F (n + 1) (smv2.t0 (a : Int) dom G xs (i : Int) (i : Int)) (smv2.k0 F) = some ([], [[(.ints .i64 (segS (ltD da) a b xs))]]) := by
    intro n i h1 h2 h3 h4
    rw [smv2.s0, decide_eq_false (by omega), cond_false, smv2.shift hl h1 (by omega) hF, mg_left' h h1 h2 h3 h4]
  intro d
  induction d with
  | zero =>
    intro n i j h1 h2 h3 h4 h5 h6 h7
    obtain ⟨n, rfl⟩ : ∃ k, n = k + 1 := ⟨n - 1, by omega⟩
    obtain rfl : i = j := by omega
    exact hfin n i h2 h4 h5 h6
  | succ d ih =>
    intro n i j h1 h2 h3 h4 h5 h6 h7
    obtain ⟨n, rfl⟩ : ∃ k, n = k + 1 := ⟨n - 1, by omega⟩
    by_cases hj : i < j
    · have hh : (i + j) / 2 < xs.length := by omega
      have ha : a < xs.length := by omega
      have hdm := domA_get hd (mem_getD hh) (mem_getD ha)
      have hlx := ltG_at hlt (xs.getD ((i + j) / 2) 0) (xs.getD a 0)
      rw [smv2.s0, decide_eq_true (by omega), cond_true, halfV (by omega), idx_nat hh, idx_nat ha]
      simp only [Option.bind_some, getD_get hh, getD_get ha, hdm, hlx, cond_true]
      cases hc : ltD da (xs.getD ((i + j) / 2) 0) (xs.getD a 0) with
      | true =>
        rw [cond_true, w1 (by omega)]
        exact ih n ((i + j) / 2 + 1) j (by omega) (by omega) (by omega) h4 (.inr (by rw [Nat.add_sub_cancel]; exact hc)) h6 (by omega)
      | false =>
        rw [cond_false]
        exact ih n i ((i + j) / 2) (by omega) h2 (by omega) (by omega) h5 (.inr hc) (by omega)
    · obtain rfl : i = j := by omega
      exact hfin n i h2 h4 h5 h6
theorem smv2.down {F : Nat} {xs : List Int} {m i : Nat} (hl : xs.length ≤ 60) (hi : i ≤ m) (hm : m < xs.length) (hF : 200 < F) :
    smv2.L3 F F (smv2.t3 (i : Int) (m : Int) xs) (smv2.k3 F) = some ([], [[(.ints .i64 (shD m (m - i) xs))]]) := by
  refine run_loop (N := m - i) (fun n c ys => smv2.L3 F n (smv2.t3 (i : Int) ((m - c : Nat) : Int) ys) (smv2.k3 F)) (fun c ys => ys = shD m c xs) ?_ ?_ F 0 xs (by omega) (by omega) rfl
  · rintro n ys rfl
    rw [smv2.s3, decide_eq_false (by omega)]
    rfl
  · rintro n c ys hc rfl
    have hyl := shD_len m c xs
    refine ⟨_, rfl, ?_⟩
    have e1 : IntKind.wrap .i64 (((m - c : Nat) : Int) - 1) = ((m - c - 1 : Nat) : Int) := by rw [wS (by omega) (by omega)]; omega
    rw [smv2.s3, decide_eq_true (by omega), cond_true, e1, idx_nat (j := m - c - 1) (by omega), idx_nat (j := m - c) (by omega)]
    simp only [Option.bind_some, getD_get (show m - c - 1 < (shD m c xs).length by omega), getD_get (show m - c < (shD m c xs).length by omega)]
    rw [decide_eq_true (show m - c < (shD m c xs).length by omega), cond_true, List.length_set, idx_nat (j := m - c - 1) (by omega)]
    simp only [Option.bind_some, List.length_set]
    rw [decide_eq_true (show m - c - 1 < (shD m c xs).length by omega), cond_true, show m - (c + 1) = m - c - 1 by omega]
    rfl
theorem smv2.right {F : Nat} {xs : List Int} {a m : Nat} {dom : List Q → Bool} {G : List Q → Int} {da : List Int} (hd : domA dom xs = true) (hlt : ltG G = ltD da) (hl : xs.length ≤ 60) (h : MG da a m (m + 1) xs) (hF : 200 < F) : ∀ (d n i j : Nat), j - i ≤ d → a ≤ i → i ≤ j → j ≤ m → (i = a ∨ ltD da (xs.getD m 0) (xs.getD (i - 1) 0) = false) → (j = m ∨ ltD da (xs.getD m 0) (xs.getD j 0) = true) → d < n →
    smv2.L2 F n (smv2.t2 (m : Int) dom G xs (i : Int) (j : Int)) (smv2.k2 F) = some ([], [[(.ints .i64 (segS (ltD da) a (m + 1) xs))]]) := by
  have hb := h.bl
  have hfin : ∀ n i : Nat, a ≤ i → i ≤ m → (i = a ∨ ltD da (xs.getD m 0) (xs.getD (i - 1) 0) = false) → (i = m ∨ ltD da (xs.getD m 0) (xs.getD i 0) = true) → smv2.L2 F (n + 1) (smv2.t2 (m : Int) dom G xs (i : Int) (i : Int)) (smv2.k2 F) = some ([], [[(.ints .i64 (segS (ltD da) a (m + 1) xs))]]) := by
    intro n i h1 h2 h3 h4
    rw [smv2.s2, decide_eq_false (by omega), cond_false, smv2.down hl h2 (by omega) hF, mg_right' h h1 h2 h3 h4]
  intro d
  induction d with
  | zero =>
    intro n i j h1 h2 h3 h4 h5 h6 h7
    obtain ⟨n, rfl⟩ : ∃ k, n = k + 1 := ⟨n - 1, by omega⟩
    obtain rfl : i = j := by omega
    exact hfin n i h2 h4 h5 h6
  | succ d ih =>
    intro n i j h1 h2 h3 h4 h5 h6 h7
    obtain ⟨n, rfl⟩ : ∃ k, n = k + 1 := ⟨n - 1, by omega⟩
    by_cases hj : i < j
    · have hh : (i + j) / 2 < xs.length := by omega
      have hm : m < xs.length := by omega
      have hdm := domA_get hd (mem_getD hm) (mem_getD hh)
      have hlx := ltG_at hlt (xs.getD m 0) (xs.getD ((i + j) / 2) 0)
      rw [smv2.s2, decide_eq_true (by omega), cond_true, halfV (by omega), idx_nat hh, idx_nat hm]
      simp only [Option.bind_some, getD_get hh, getD_get hm, hdm, hlx, cond_true]
      cases hc : ltD da (xs.getD m 0) (xs.getD ((i + j) / 2) 0) with
      | false =>
        rw [Bool.not_false, cond_true, w1 (by omega)]
        exact ih n ((i + j) / 2 + 1) j (by omega) (by omega) (by omega) h4 (.inr (by rw [Nat.add_sub_cancel]; exact hc)) h6 (by omega)
      | true =>
        rw [Bool.not_true, cond_false]
        exact ih n i ((i + j) / 2) (by omega) h2 (by omega) (by omega) h5 (.inr hc) (by omega)
    · obtain rfl : i = j := by omega
      exact hfin n i h2 h4 h5 h6
theorem smv2.swap6 {F n5 : Nat} {a s b m i j : Nat} {dom : List Q → Bool} {G : List Q → Int} {ys : List Int} (hl : ys.length ≤ 60) (hi : i ≤ m) (hij : j < i) (hm : m + j ≤ ys.length) (hF : 200 < F) :
    smv2.L6 F F (smv2.t6 (m : Int) (i : Int) (j : Int) dom G (a : Int) (b : Int) (s : Int) 0 ys) (smv2.k6 n5 F) = smv2.L5 F n5 (smv2.t5 (m : Int) dom G (a : Int) (b : Int) (s : Int) ((i - j : Nat) : Int) (j : Int) (swR (m - i) m j ys)) (smv2.k5 F) := by
  refine run_loop (N := j) (fun n c zs => smv2.L6 F n (smv2.t6 (m : Int) (i : Int) (j : Int) dom G (a : Int) (b : Int) (s : Int) (c : Int) zs) (smv2.k6 n5 F)) (fun c zs => zs = swR (m - i) m c ys) ?_ ?_ F 0 ys (by omega) (by omega) rfl
  · rintro n zs rfl
    rw [smv2.s6, decide_eq_false (by omega), cond_false, wSub (by omega) (by omega)]
  · rintro n c zs hc rfl
    have hyl := swR_len (m - i) m c ys
    refine ⟨_, rfl, ?_⟩
    rw [smv2.s6, decide_eq_true (by omega), cond_true, wAdd (a := m) (by omega), wSub hi (by omega), wAdd (a := m - i) (by omega), w1 (by omega), idx_nat (j := m + c) (by omega), idx_nat (j := m - i + c) (by omega)]
    simp only [Option.bind_some, getD_get (show m + c < (swR (m - i) m c ys).length by omega), getD_get (show m - i + c < (swR (m - i) m c ys).length by omega)]
    rw [decide_eq_true (show m - i + c < (swR (m - i) m c ys).length by omega), cond_true, List.length_set, idx_nat (j := m + c) (by omega)]
    simp only [Option.bind_some, List.length_set]
    rw [decide_eq_true (show m + c < (swR (m - i) m c ys).length by omega), cond_true]
    rfl
theorem smv2.swap7 {F n5 : Nat} {a s b m i j : Nat} {dom : List Q → Bool} {G : List Q → Int} {ys : List Int} (hl : ys.length ≤ 60) (hi : i ≤ m) (hij : i < j) (hm : m + j ≤ ys.length) (hF : 200 < F) :
    smv2.L7 F F (smv2.t7 (m : Int) (i : Int) (j : Int) dom G (a : Int) (b : Int) (s : Int) 0 ys) (smv2.k7 n5 F) = smv2.L5 F n5 (smv2.t5 (m : Int) dom G (a : Int) (b : Int) (s : Int) (i : Int) ((j - i : Nat) : Int) (swR (m - i) (m + j - i) i ys)) (smv2.k5 F) := by
  refine run_loop (N := i) (fun n c zs => smv2.L7 F n (smv2.t7 (m : Int) (i : Int) (j : Int) dom G (a : Int) (b : Int) (s : Int) (c : Int) zs) (smv2.k7 n5 F)) (fun c zs => zs = swR (m - i) (m + j - i) c ys) ?_ ?_ F 0 ys (by omega) (by omega) rfl
  · rintro n zs rfl
    rw [smv2.s7, decide_eq_false (by omega), cond_false, wSub (by omega) (by omega)]
  · rintro n c zs hc rfl
    have hyl := swR_len (m - i) (m + j - i) c ys
    refine ⟨_, rfl, ?_⟩
    rw [smv2.s7, decide_eq_true (by omega), cond_true, wAdd (a := m) (b := j) (by omega), wSub (a := m + j) (by omega) (by omega), wAdd (a := m + j - i) (by omega), wSub hi (by omega), wAdd (a := m - i) (by omega), w1 (by omega), idx_nat (j := m + j - i + c) (by omega), idx_nat (j := m - i + c) (by omega)]
    simp only [Option.bind_some, getD_get (show m + j - i + c < (swR (m - i) (m + j - i) c ys).length by omega), getD_get (show m - i + c < (swR (m - i) (m + j - i) c ys).length by omega)]
    rw [decide_eq_true (show m - i + c < (swR (m - i) (m + j - i) c ys).length by omega), cond_true, List.length_set, idx_nat (j := m + j - i + c) (by omega)]
    simp only [Option.bind_some, List.length_set]
    rw [decide_eq_true (show m + j - i + c < (swR (m - i) (m + j - i) c ys).length by omega), cond_true]
    rfl
theorem smv2.swap8 {F : Nat} {a s b m i : Nat} {dom : List Q → Bool} {G : List Q → Int} {ys : List Int} (hl : ys.length ≤ 60) (hi : i ≤ m) (hm : m + i ≤ ys.length) (hF : 200 < F) (ham : a ≤ m) (hb : b ≤ 60) (hs : s ≤ m) :
    smv2.L8 F F (smv2.t8 (m : Int) (i : Int) dom G (a : Int) (b : Int) (s : Int) 0 ys) (smv2.k8 F) = tailM ((2 : Nat) : Int) dom G (a : Int) (s : Int) (((a + b) / 2 : Nat) : Int) (((a + b) / 2 + m - s : Nat) : Int) (b : Int) (swR (m - i) m i ys) := by
  refine run_loop (N := i) (fun n c zs => smv2.L8 F n (smv2.t8 (m : Int) (i : Int) dom G (a : Int) (b : Int) (s : Int) (c : Int) zs) (smv2.k8 F)) (fun c zs => zs = swR (m - i) m c ys) ?_ ?_ F 0 ys (by omega) (by omega) rfl
  · rintro n zs rfl
    rw [smv2.s8, decide_eq_false (by omega), cond_false, halfV (by omega), wAdd (a := (a + b) / 2) (by omega), wSub (a := (a + b) / 2 + m) (by omega) (by omega)]
  · rintro n c zs hc rfl
    have hyl := swR_len (m - i) m c ys
    refine ⟨_, rfl, ?_⟩
    rw [smv2.s8, decide_eq_true (by omega), cond_true, wAdd (a := m) (b := c) (by omega), wSub hi (by omega), wAdd (a := m - i) (by omega), w1 (by omega), idx_nat (j := m + c) (by omega), idx_nat (j := m - i + c) (by omega)]
    simp only [Option.bind_some, getD_get (show m + c < (swR (m - i) m c ys).length by omega), getD_get (show m - i + c < (swR (m - i) m c ys).length by omega)]
    rw [decide_eq_true (show m - i + c < (swR (m - i) m c ys).length by omega), cond_true, List.length_set, idx_nat (j := m + c) (by omega)]
    simp only [Option.bind_some, List.length_set]
    rw [decide_eq_true (show m + c < (swR (m - i) m c ys).length by omega), cond_true]
    rfl
theorem smv2.rot {F : Nat} {a s b m : Nat} {dom : List Q → Bool} {G : List Q → Int} (hF : 200 < F) (ham : a ≤ m) (hb : b ≤ 60) (hs : s ≤ m) : ∀ (d n i j : Nat) (ys : List Int), i + j ≤ d → 0 < i → 0 < j → i ≤ m → m + j ≤ ys.length → ys.length ≤ 60 → d < n →
    smv2.L5 F n (smv2.t5 (m : Int) dom G (a : Int) (b : Int) (s : Int) (i : Int) (j : Int) ys) (smv2.k5 F) = tailM ((2 : Nat) : Int) dom G (a : Int) (s : Int) (((a + b) / 2 : Nat) : Int) (((a + b) / 2 + m - s : Nat) : Int) (b : Int) (rotM (m - i) m (m + j) ys) := by
  intro d
  induction d with
  | zero => intro n i j ys h1 h2; omega
  | succ d ih =>
    intro n i j ys h1 h2 h3 h4 h5 h6 h7
    obtain ⟨n, rfl⟩ : ∃ k, n = k + 1 := ⟨n - 1, by omega⟩
    rw [smv2.s5]
    by_cases e1 : i = j
    · subst e1
      rw [show ((i : Int) != (i : Int)) = false by simp, cond_false, smv2.swap8 h6 h4 h5 hF ham hb hs, rotM_eq h4 h5]
    · rw [show ((i : Int) != (j : Int)) = true by rw [bne_iff_ne]; omega, cond_true]
      by_cases e2 : i > j
      · rw [decide_eq_true (by omega), cond_true, smv2.swap6 h6 h4 e2 h5 hF, rotM_gt h4 e2 h5]
        exact ih n (i - j) j _ (by omega) (by omega) h3 (by omega) (by rw [swR_len]; omega) (by rw [swR_len]; omega) (by omega)
      · rw [decide_eq_false (by omega), cond_false, smv2.swap7 h6 h4 (by omega) h5 hF, rotM_lt h4 (by omega) h5]
        exact ih n i (j - i) _ (by omega) h2 (by omega) h4 (by rw [swR_len]; omega) (by rw [swR_len]; omega) (by omega)
theorem smv2.seek {F : Nat} {xs : List Int} {a m b r0 s0 : Nat} {dom : List Q → Bool} {G : List Q → Int} {da : List Int} (hd : domA dom xs = true) (hlt : ltG G = ltD da) (hl : xs.length ≤ 60) (h : MG da a m b xs) (ham : a + 1 < m) (hmb : m + 1 < b) (hsz : b ≤ a + 4) (hF : 200 < F)
    (hr : (m > (a + b) / 2 ∧ r0 = (a + b) / 2 ∧ s0 + b = (a + b) / 2 + m) ∨ (m ≤ (a + b) / 2 ∧ r0 = m ∧ s0 = a)) : ∀ (d n s r : Nat), r - s ≤ d → s0 ≤ s → s ≤ r → r ≤ r0 → (s = s0 ∨ ltD da (xs.getD ((a + b) / 2 + m - s) 0) (xs.getD (s - 1) 0) = false) → (r = r0 ∨ ltD da (xs.getD ((a + b) / 2 + m - 1 - r) 0) (xs.getD r 0) = true) → d < n →
    smv2.L4 F n (smv2.t4 (a : Int) (m : Int) (b : Int) dom G xs (s : Int) (r : Int)) (smv2.k4 F) = some ([], [[(.ints .i64 (segS (ltD da) a b xs))]]) := by
  have hb := h.bl
  have hfin : ∀ n s : Nat, s0 ≤ s → s ≤ r0 → (s = s0 ∨ ltD da (xs.getD ((a + b) / 2 + m - s) 0) (xs.getD (s - 1) 0) = false) → (s = r0 ∨ ltD da (xs.getD ((a + b) / 2 + m - 1 - s) 0) (xs.getD s 0) = true) → smv2.L4 F (n + 1) (smv2.t4 (a : Int) (m : Int) (b : Int) dom G xs (s : Int) (s : Int)) (smv2.k4 F) = some ([], [[(.ints .i64 (segS (ltD da) a b xs))]]) := by
    intro n s g1 g2 g3 g4
    have c1 : s = a ∨ (a + b) / 2 + m - s = b ∨ lexD da (xs.getD (s - 1) 0) (xs.getD ((a + b) / 2 + m - s) 0) := by
      rcases g3 with g3 | g3
      · omega
      · by_cases e : s = a
        · exact .inl e
        by_cases e' : (a + b) / 2 + m - s = b
        · exact .inr (.inl e')
        exact .inr (.inr (lt_lex' g3 (h.lr _ _ (by omega) (by omega) (by omega) (by omega))))
    have c2 : s = m ∨ (a + b) / 2 + m - s = m ∨ lexD da (xs.getD ((a + b) / 2 + m - s - 1) 0) (xs.getD s 0) := by
      rcases g4 with g4 | g4
      · omega
      · refine .inr (.inr ?_)
        rw [show (a + b) / 2 + m - s - 1 = (a + b) / 2 + m - 1 - s by omega]
        exact lt_lex g4
    obtain ⟨j1, j2, j3⟩ := mg_join (q := (a + b) / 2) (e := (a + b) / 2 + m - s) h (by omega) (by omega) (by omega) (by omega) (by omega) (by omega) (by omega) c1 c2
    have hrl := rotM_len (s := s) (m := m) (e := (a + b) / 2 + m - s) (xs := xs) (by omega) (by omega) (by omega)
    have htail := tail_ok (z := 2) hlt (perm_dom hd (rotM_perm (s := s) (m := m) (e := (a + b) / 2 + m - s) (by omega) (by omega))) (by omega) j1 j2 (by omega) (by omega)
    rw [j3] at htail
    rw [smv2.s4, decide_eq_false (by omega), cond_false, halfV (by omega), wAdd (a := (a + b) / 2) (by omega), wSub (a := (a + b) / 2 + m) (by omega) (by omega)]
    by_cases d1 : s < m
    · rw [decide_eq_true (p := (s : Int) < (m : Int)) (by omega), cond_true]
      by_cases d2 : m < (a + b) / 2 + m - s
      · rw [decide_eq_true (p := (m : Int) < (((a + b) / 2 + m - s : Nat) : Int)) (by omega), cond_true, wSub (a := m) (by omega) (by omega), wSub (a := (a + b) / 2 + m - s) (by omega) (by omega)]
        have := smv2.rot (F := F) (a := a) (s := s) (b := b) (m := m) (dom := dom) (G := G) hF (by omega) (by omega) (by omega) 100 F (m - s) ((a + b) / 2 + m - s - m) xs (by omega) (by omega) (by omega) (by omega) (by omega) hl (by omega)
        rw [show m - (m - s) = s by omega, show m + ((a + b) / 2 + m - s - m) = (a + b) / 2 + m - s by omega] at this
        rw [this]
        exact htail
      · rw [rotM_self (by omega) (by omega) (by omega) (.inr (by omega))] at htail
        rw [decide_eq_false (p := (m : Int) < (((a + b) / 2 + m - s : Nat) : Int)) (by omega), cond_false]
        exact htail
    · rw [rotM_self (by omega) (by omega) (by omega) (.inl (by omega))] at htail
      rw [decide_eq_false (p := (s : Int) < (m : Int)) (by omega), cond_false]
      exact htail
  intro d
  induction d with
  | zero =>
    intro n s r h1 h2 h3 h4 h5 h6 h7
    obtain ⟨n, rfl⟩ : ∃ k, n = k + 1 := ⟨n - 1, by omega⟩
    obtain rfl : s = r := by omega
    exact hfin n s h2 h4 h5 h6
  | succ d ih =>
    intro n s r h1 h2 h3 h4 h5 h6 h7
    obtain ⟨n, rfl⟩ : ∃ k, n = k + 1 := ⟨n - 1, by omega⟩
    by_cases hj : s < r
    · have hh : (s + r) / 2 < xs.length := by omega
      have hp : (a + b) / 2 + m - 1 - (s + r) / 2 < xs.length := by omega
      have hdm := domA_get hd (mem_getD hp) (mem_getD hh)
      have hlx := ltG_at hlt (xs.getD ((a + b) / 2 + m - 1 - (s + r) / 2) 0) (xs.getD ((s + r) / 2) 0)
      rw [smv2.s4, decide_eq_true (by omega), cond_true, halfV (by omega), halfV (by omega), wAdd (by omega), wS (x := (((a + b) / 2 + m : Nat) : Int) - 1) (by omega) (by omega), wS (x := (((a + b) / 2 + m : Nat) : Int) - 1 - (((s + r) / 2 : Nat) : Int)) (by omega) (by omega), show (((a + b) / 2 + m : Nat) : Int) - 1 - (((s + r) / 2 : Nat) : Int) = (((a + b) / 2 + m - 1 - (s + r) / 2 : Nat) : Int) by omega, idx_nat hh, idx_nat hp]
      simp only [Option.bind_some, getD_get hh, getD_get hp, hdm, hlx, cond_true]
      cases hc : ltD da (xs.getD ((a + b) / 2 + m - 1 - (s + r) / 2) 0) (xs.getD ((s + r) / 2) 0) with
      | false =>
        rw [Bool.not_false, cond_true, w1 (by omega)]
        exact ih n ((s + r) / 2 + 1) r (by omega) (by omega) (by omega) h4 (.inr (by rw [Nat.add_sub_cancel, show (a + b) / 2 + m - ((s + r) / 2 + 1) = (a + b) / 2 + m - 1 - (s + r) / 2 by omega]; exact hc)) h6 (by omega)
      | true =>
        rw [Bool.not_true, cond_false]
        exact ih n s ((s + r) / 2) (by omega) h2 (by omega) (by omega) h5 (.inr hc) (by omega)
    · obtain rfl : s = r := by omega
      exact hfin n s h2 h4 h5 h6
theorem smv2.ok : CallSpec Try.prog smv2.E := smv2.ok_of (by simp [smv2.X, smv1.ok]) fun xs a m b dom G h => by
  obtain ⟨F, hF⟩ : ∃ F : Nat, 200 < F := ⟨201, by omega⟩
  refine ⟨F, ?_⟩
  simp only [Bool.and_eq_true, decide_eq_true_eq] at h
  obtain ⟨⟨⟨⟨⟨⟨hl, hd⟩, hu⟩, h0⟩, h1⟩, h2⟩, h4⟩ := h
  obtain ⟨a, rfl⟩ : ∃ n : Nat, a = n := ⟨a.toNat, by omega⟩
  obtain ⟨m, rfl⟩ : ∃ n : Nat, m = n := ⟨m.toNat, by omega⟩
  obtain ⟨b, rfl⟩ : ∃ n : Nat, b = n := ⟨b.toNat, by omega⟩
  obtain ⟨da, hlt, hm⟩ := mgW_inv hu
  have hb := hm.bl
  rw [smv2.e, wS (x := (m : Int) - (a : Int)) (by omega) (by omega), wS (x := (b : Int) - (m : Int)) (by omega) (by omega), Int.toNat_natCast, Int.toNat_natCast, hlt]
  by_cases e1 : m = a + 1
  · subst e1
    rw [show ((((a + 1 : Nat) : Int) - (a : Int)) == 1) = true from beq_iff_eq.2 (by omega), cond_true]
    exact smv2.left hd hlt hl hm hF 100 F (a + 1) b (by omega) (by omega) (by omega) (by omega) (.inl rfl) (.inl rfl) (by omega)
  rw [show (((m : Int) - (a : Int)) == 1) = false from beq_eq_false_iff_ne.2 (by omega), cond_false]
  by_cases e2 : b = m + 1
  · subst e2
    rw [show ((((m + 1 : Nat) : Int) - (m : Int)) == 1) = true from beq_iff_eq.2 (by omega), cond_true]
    exact smv2.right hd hlt hl hm hF 100 F a m (by omega) (by omega) (by omega) (by omega) (.inl rfl) (.inl rfl) (by omega)
  rw [show (((b : Int) - (m : Int)) == 1) = false from beq_eq_false_iff_ne.2 (by omega), cond_false]
  rw [halfV (by omega)]
  by_cases e3 : m > (a + b) / 2
  · rw [decide_eq_true (by omega), cond_true, wAdd (by omega), wSub (a := (a + b) / 2 + m) (by omega) (by omega)]
    exact smv2.seek (s0 := (a + b) / 2 + m - b) hd hlt hl hm (by omega) (by omega) (by omega) hF (.inl ⟨e3, rfl, by omega⟩) 100 F _ _ (by omega) (by omega) (by omega) (by omega) (.inl rfl) (.inl rfl) (by omega)
  · rw [decide_eq_false (by omega), cond_false]
    exact smv2.seek (s0 := a) hd hlt hl hm (by omega) (by omega) (by omega) hF (.inr ⟨by omega, rfl, rfl⟩) 100 F _ _ (by omega) (by omega) (by omega) (by omega) (.inl rfl) (.inl rfl) (by omega)

end Go.Ab
