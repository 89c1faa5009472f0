import Derived.Test.YthccdpfoikdonaaEap
import Derived.Test.YthccdpfoikdonaaProg
import Derived.Test.YthccdpfoikdonaaChecked
open Go Go.Ab Go.Proofs
set_option maxRecDepth 100000
set_option linter.unusedVariables false
set_option linter.unusedSimpArgs false
namespace Go.Ab
namespace laws_toIntS
noncomputable def E : Entry := ⟨10, false, false, fun | [.d (.ints .i64 xs)] => szB xs | _ => false, fun | [.d (.ints .i64 xs)] => ([.one ((.ints .i64 xs), true)], []) | _ => ([], []), fun _ => [], true, fun _ => none⟩
end laws_toIntS
namespace laws_toIntS
noncomputable def X : List Entry := []
noncomputable def I : List Inl := [⟨10, Try.f10, ⟨[], [(1000003, [1, 2, 5, 6, 7, 8, 9, 10, 11, 12, 13, 14, 15, 16, 17, 18, 19, 20, 21])], [], [], [], []⟩⟩]
theorem I_ok : ∀ i ∈ I, Try.prog.funcs[i.f]? = some i.fn ∧ (i.fn.name == "runtime.NumGoroutine") = false := by
  intro i hi
  simp only [I, List.mem_cons, List.not_mem_nil, or_false] at hi
  subst hi
  exact ⟨by kernel_rfl, by kernel_rfl⟩
noncomputable abbrev L0 (fuel n : Nat) (s : St) (k : Kont) := lAt Try.prog X I fuel true 0 false 10 (bodyOf Try.f10) [1, 1, 0, 1, 0] n s k
noncomputable abbrev k0  (fuel : Nat) : Kont := (kAt Try.prog X I fuel true 0 false 10 (bodyOf Try.f10) [1, 1, 0, 1, 0] [] (endK Try.prog Try.f10))
noncomputable def t0 (p0 : List Int) (x0q1 : Int) (x0q2 : List Int) : St := ⟨[(.imm (.ints .i64 p0)), .dead, .dead, (.all 1000000000 1), (.imm (.int .i64 x0q1)), .dead, .dead, .dead, .dead, .dead, .dead, .dead, .dead, .dead, .dead, .dead, .dead, .dead, .dead, .dead, .dead, .dead], hOf [(1000000000, (.ints .i64 x0q2))], [], []⟩
theorem e (fuel : Nat) (p0 : List Int) : runF Try.prog X I 0 fuel 10 Try.f10 [.d (.ints .i64 p0)] =
  (bif decide (0 ≤ (((p0.length : Nat) : Int) : Int)) && decide ((((p0.length : Nat) : Int) : Int) ≤ ((p0.length : Nat) : Int)) && decide ((((p0.length : Nat) : Int) : Int) ≤ 1152921504606846976) && decide (((8 : Nat) : Int) * ((p0.length : Nat) : Int) ≤ 281474976710656) then
  L0 fuel fuel (t0 p0 0 ((List.replicate (((p0.length : Nat) : Int)).toNat (0 : Int)))) (k0  fuel)
  else
  none) := by kernel_rfl
theorem s0 (fuel n0 : Nat) (p0 : List Int) (x0q1 : Int) (x0q2 : List Int) : L0 fuel (n0 + 1) (t0 p0 x0q1 x0q2) (k0  fuel) =
  (bif (decide ((x0q1 : Int) < ((p0.length : Nat) : Int))) then
  (idx x0q1 p0.length).bind fun j7 =>
  (p0[j7]?).bind fun v8 =>
  (idx x0q1 x0q2.length).bind fun j9 =>
  (bif decide (j9 < x0q2.length) then
  L0 fuel n0 (t0 p0 ((IntKind.wrap .i64 (x0q1 + 1))) ((x0q2.set j9 v8))) (k0  fuel)
  else
  none)
  else
  some ([.one ((.ints .i64 x0q2), true)], [])) := by kernel_rfl
end laws_toIntS
theorem laws_toIntS.ok_of (hX : ∀ E ∈ laws_toIntS.X, CallSpec Try.prog E) (h : ∀ (xs : List Int), (szB xs) = true → ∃ fuel, runF Try.prog laws_toIntS.X laws_toIntS.I 0 fuel 10 Try.f10 [.d (.ints .i64 xs)] = some ([.one ((.ints .i64 xs), true)], [])) : CallSpec Try.prog laws_toIntS.E :=
  callSpec_of (d := 0) hX (by kernel_rfl) laws_toIntS.I_ok (by kernel_rfl) (by kernel_rfl) (by kernel_rfl) (fun _ _ _ _ h => by dsimp only [laws_toIntS.E] at h; cases h) (fun xs hp => by
    dsimp only [laws_toIntS.E] at hp ⊢
    split at hp
    · exact h _ hp
    · cases hp)
theorem laws_toIntS.loop (fuel : Nat) (xs : List Int) (hx : xs.length < 9223372036854775808) : ∀ (m n j : Nat) (out : List Int), xs.length - j = m → m < n → j ≤ xs.length → out.length = xs.length → out.take j = xs.take j →
    laws_toIntS.L0 fuel n (laws_toIntS.t0 xs (j : Int) out) (laws_toIntS.k0 fuel) = some ([.one (.ints .i64 xs, true)], []) := by
  intro m
  induction m with
  | zero =>
    intro n j out h1 h2 h3 h4 h5
    obtain ⟨n, rfl⟩ : ∃ n', n = n' + 1 := ⟨n - 1, by omega⟩
    have hj : ¬ j < xs.length := by omega
    have : out = xs := by rw [List.take_of_length_le (by omega), List.take_of_length_le (by omega)] at h5; exact h5
    rw [laws_toIntS.s0, dge hj, this]
    rfl
  | succ m ih =>
    intro n j out h1 h2 h3 h4 h5
    obtain ⟨n, rfl⟩ : ∃ n', n = n' + 1 := ⟨n - 1, by omega⟩
    have hj : j < xs.length := by omega
    have hj2 : j < out.length := by omega
    rw [laws_toIntS.s0, dlt hj, idx_nat hj, idx_nat hj2, w1 (by omega)]
    simp only [cond_true, Option.bind_some, getS hj, hj2, decide_true]
    exact ih n (j + 1) _ (by omega) (by omega) (by omega) (by simpa using h4) (take_set_succ hj hj2 h5)

theorem laws_toIntS.ok : CallSpec Try.prog laws_toIntS.E := laws_toIntS.ok_of (by simp [laws_toIntS.X]) fun xs h => by
  have hx := szB_le h
  refine ⟨xs.length + 1, ?_⟩
  rw [laws_toIntS.e, mkOk (by omega) (by omega)]
  exact laws_toIntS.loop (xs.length + 1) xs (by omega) xs.length (xs.length + 1) 0 _ (by omega) (by omega) (by omega) (by simp) (by simp)

namespace spec_inRange
noncomputable def E : Entry := ⟨31, true, false, fun | [.d (.int .i64 v), .d (.int .i64 lo), .d (.int .i64 hi)] => true | _ => false, fun | [.d (.int .i64 v), .d (.int .i64 lo), .d (.int .i64 hi)] => ([.one ((.bool (decide (lo ≤ v) && decide (v ≤ hi))), false)], []) | _ => ([], []), fun _ => [], false, fun _ => none⟩
end spec_inRange
namespace spec_inRange
noncomputable def X : List Entry := []
noncomputable def I : List Inl := [⟨31, Try.f31, ⟨[], [], [], [], [], []⟩⟩]
theorem I_ok : ∀ i ∈ I, Try.prog.funcs[i.f]? = some i.fn ∧ (i.fn.name == "runtime.NumGoroutine") = false := by
  intro i hi
  simp only [I, List.mem_cons, List.not_mem_nil, or_false] at hi
  subst hi
  exact ⟨by kernel_rfl, by kernel_rfl⟩
theorem e (fuel : Nat) (p0 : Int) (p1 : Int) (p2 : Int) : runF Try.prog X I 0 fuel 31 Try.f31 [.d (.int .i64 p0), .d (.int .i64 p1), .d (.int .i64 p2)] =
  (bif (decide ((p1 : Int) ≤ p0)) then
  some ([.one ((.bool (decide ((p0 : Int) ≤ p2))), false)], [])
  else
  some ([.one ((.bool false), false)], [])) := by kernel_rfl
end spec_inRange
theorem spec_inRange.ok_of (hX : ∀ E ∈ spec_inRange.X, CallSpec Try.prog E) (h : ∀ (v : Int) (lo : Int) (hi : Int), (true) = true → ∃ fuel, runF Try.prog spec_inRange.X spec_inRange.I 0 fuel 31 Try.f31 [.d (.int .i64 v), .d (.int .i64 lo), .d (.int .i64 hi)] = some ([.one ((.bool (decide (lo ≤ v) && decide (v ≤ hi))), false)], [])) : CallSpec Try.prog spec_inRange.E :=
  callSpec_of (d := 0) hX (by kernel_rfl) spec_inRange.I_ok (by kernel_rfl) (by kernel_rfl) (by kernel_rfl) (fun _ _ _ _ h => by dsimp only [spec_inRange.E] at h; cases h) (fun xs hp => by
    dsimp only [spec_inRange.E] at hp ⊢
    split at hp
    · exact h _ _ _ hp
    · cases hp)
theorem spec_inRange.ok : CallSpec Try.prog spec_inRange.E := spec_inRange.ok_of (by simp [spec_inRange.X]) fun v lo hi _ => ⟨0, by
  rw [spec_inRange.e]
  cases decide (lo ≤ v) <;> rfl⟩

namespace spec_allIn
noncomputable def E : Entry := ⟨52, true, false, fun | [.d (.ints .i64 xs), .d (.int .i64 lo), .d (.int .i64 hi)] => decide (xs.length < 9223372036854775808) | _ => false, fun | [.d (.ints .i64 xs), .d (.int .i64 lo), .d (.int .i64 hi)] => ([.one ((.bool (allB xs lo hi)), false)], []) | _ => ([], []), fun _ => [], false, fun _ => none⟩
end spec_allIn
namespace spec_allIn
noncomputable def X : List Entry := [spec_inRange.E]
noncomputable def I : List Inl := [⟨52, Try.f52, ⟨[], [(1000002, [3, 4, 5, 6, 8, 9, 10, 11, 12, 13, 14, 15, 16, 17, 18, 19, 20, 21])], [], [], [], []⟩⟩]
theorem I_ok : ∀ i ∈ I, Try.prog.funcs[i.f]? = some i.fn ∧ (i.fn.name == "runtime.NumGoroutine") = false := by
  intro i hi
  simp only [I, List.mem_cons, List.not_mem_nil, or_false] at hi
  subst hi
  exact ⟨by kernel_rfl, by kernel_rfl⟩
noncomputable abbrev L0 (fuel n : Nat) (s : St) (k : Kont) := lAt Try.prog X I fuel true 0 false 52 (bodyOf Try.f52) [1, 0, 1, 0] n s k
noncomputable abbrev k0  (fuel : Nat) : Kont := (kAt Try.prog X I fuel true 0 false 52 (bodyOf Try.f52) [1, 0, 1, 0] [] (endK Try.prog Try.f52))
noncomputable def t0 (p0 : List Int) (p1 : Int) (p2 : Int) (x0q3 : Int) : St := ⟨[(.imm (.ints .i64 p0)), (.imm (.int .i64 p1)), (.imm (.int .i64 p2)), .dead, .dead, .dead, .dead, (.imm (.int .i64 x0q3)), .dead, .dead, .dead, .dead, .dead, .dead, .dead, .dead, .dead, .dead, .dead, .dead, .dead, .dead], hOf [], [], []⟩
theorem e (fuel : Nat) (p0 : List Int) (p1 : Int) (p2 : Int) : runF Try.prog X I 0 fuel 52 Try.f52 [.d (.ints .i64 p0), .d (.int .i64 p1), .d (.int .i64 p2)] =
  L0 fuel fuel (t0 p0 p1 p2 0) (k0  fuel) := by kernel_rfl
theorem s0 (fuel n0 : Nat) (p0 : List Int) (p1 : Int) (p2 : Int) (x0q3 : Int) : L0 fuel (n0 + 1) (t0 p0 p1 p2 x0q3) (k0  fuel) =
  (bif (decide ((x0q3 : Int) < ((p0.length : Nat) : Int))) then
  (idx x0q3 p0.length).bind fun j5 =>
  (p0[j5]?).bind fun v6 =>
  (bif (!(decide (p1 ≤ v6) && decide (v6 ≤ p2))) then
  some ([.one ((.bool false), false)], [])
  else
  L0 fuel n0 (t0 p0 p1 p2 ((IntKind.wrap .i64 (x0q3 + 1)))) (k0  fuel))
  else
  some ([.one ((.bool true), false)], [])) := by kernel_rfl
end spec_allIn
theorem spec_allIn.ok_of (hX : ∀ E ∈ spec_allIn.X, CallSpec Try.prog E) (h : ∀ (xs : List Int) (lo : Int) (hi : Int), (decide (xs.length < 9223372036854775808)) = true → ∃ fuel, runF Try.prog spec_allIn.X spec_allIn.I 0 fuel 52 Try.f52 [.d (.ints .i64 xs), .d (.int .i64 lo), .d (.int .i64 hi)] = some ([.one ((.bool (allB xs lo hi)), false)], [])) : CallSpec Try.prog spec_allIn.E :=
  callSpec_of (d := 0) hX (by kernel_rfl) spec_allIn.I_ok (by kernel_rfl) (by kernel_rfl) (by kernel_rfl) (fun _ _ _ _ h => by dsimp only [spec_allIn.E] at h; cases h) (fun xs hp => by
    dsimp only [spec_allIn.E] at hp ⊢
    split at hp
    · exact h _ _ _ hp
    · cases hp)
theorem spec_allIn.loop (fuel : Nat) (xs : List Int) (lo hi : Int) (hx : xs.length < 9223372036854775808) : ∀ (m n j : Nat), xs.length - j = m → m < n → j ≤ xs.length →
    spec_allIn.L0 fuel n (spec_allIn.t0 xs lo hi (j : Int)) (spec_allIn.k0 fuel) = some ([.one (.bool (allB (xs.drop j) lo hi), false)], []) := by
  intro m
  induction m with
  | zero =>
    intro n j h1 h2 h3
    obtain ⟨n, rfl⟩ : ∃ n', n = n' + 1 := ⟨n - 1, by omega⟩
    have hj : ¬ j < xs.length := by omega
    rw [spec_allIn.s0, dge hj, dropE hj]
    rfl
  | succ m ih =>
    intro n j h1 h2 h3
    obtain ⟨n, rfl⟩ : ∃ n', n = n' + 1 := ⟨n - 1, by omega⟩
    have hj : j < xs.length := by omega
    rw [spec_allIn.s0, dlt hj, idx_nat hj, w1 (by omega), dropS hj]
    simp only [cond_true, Option.bind_some, getS hj, allB_cons]
    rw [ih n (j + 1) (by omega) (by omega) (by omega)]
    cases decide (lo ≤ xs[j]) && decide (xs[j] ≤ hi) <;> rfl

theorem spec_allIn.ok : CallSpec Try.prog spec_allIn.E := spec_allIn.ok_of (by simp [spec_allIn.X, spec_inRange.ok]) fun xs lo hi h => by
  simp only [decide_eq_true_eq] at h
  refine ⟨xs.length + 1, ?_⟩
  rw [spec_allIn.e]
  exact spec_allIn.loop (xs.length + 1) xs lo hi h xs.length (xs.length + 1) 0 (by omega) (by omega) (by omega)

namespace spec_volume
noncomputable def E : Entry := ⟨32, true, false, fun | [.d (.ints .i64 xs)] => decide (xs.length < 9223372036854775808) | _ => false, fun | [.d (.ints .i64 xs)] => ([.one ((.int .i64 (volW xs)), false)], []) | _ => ([], []), fun _ => [], false, fun _ => none⟩
end spec_volume
namespace spec_volume
noncomputable def X : List Entry := []
noncomputable def I : List Inl := [⟨32, Try.f32, ⟨[], [(1000003, [1, 2, 5, 6, 7, 8, 9, 10, 11, 12, 13, 14, 15, 16, 17])], [], [], [], []⟩⟩]
theorem I_ok : ∀ i ∈ I, Try.prog.funcs[i.f]? = some i.fn ∧ (i.fn.name == "runtime.NumGoroutine") = false := by
  intro i hi
  simp only [I, List.mem_cons, List.not_mem_nil, or_false] at hi
  subst hi
  exact ⟨by kernel_rfl, by kernel_rfl⟩
noncomputable abbrev L0 (fuel n : Nat) (s : St) (k : Kont) := lAt Try.prog X I fuel true 0 false 32 (bodyOf Try.f32) [1, 1, 0, 1, 0] n s k
noncomputable abbrev k0  (fuel : Nat) : Kont := (kAt Try.prog X I fuel true 0 false 32 (bodyOf Try.f32) [1, 1, 0, 1, 0] [] (endK Try.prog Try.f32))
noncomputable def t0 (p0 : List Int) (x0q1 : Int) (x0q2 : Int) : St := ⟨[(.imm (.ints .i64 p0)), .dead, .dead, (.imm (.int .i64 x0q1)), (.imm (.int .i64 x0q2)), .dead, .dead, .dead, .dead, .dead, .dead, .dead, .dead, .dead, .dead, .dead, .dead, .dead], hOf [], [], []⟩
theorem e (fuel : Nat) (p0 : List Int) : runF Try.prog X I 0 fuel 32 Try.f32 [.d (.ints .i64 p0)] =
  L0 fuel fuel (t0 p0 1 0) (k0  fuel) := by kernel_rfl
theorem s0 (fuel n0 : Nat) (p0 : List Int) (x0q1 : Int) (x0q2 : Int) : L0 fuel (n0 + 1) (t0 p0 x0q1 x0q2) (k0  fuel) =
  (bif (decide ((x0q2 : Int) < ((p0.length : Nat) : Int))) then
  (idx x0q2 p0.length).bind fun j5 =>
  (p0[j5]?).bind fun v6 =>
  L0 fuel n0 (t0 p0 ((IntKind.wrap .i64 (x0q1 * v6))) ((IntKind.wrap .i64 (x0q2 + 1)))) (k0  fuel)
  else
  some ([.one ((.int .i64 x0q1), false)], [])) := by kernel_rfl
end spec_volume
theorem spec_volume.ok_of (hX : ∀ E ∈ spec_volume.X, CallSpec Try.prog E) (h : ∀ (xs : List Int), (decide (xs.length < 9223372036854775808)) = true → ∃ fuel, runF Try.prog spec_volume.X spec_volume.I 0 fuel 32 Try.f32 [.d (.ints .i64 xs)] = some ([.one ((.int .i64 (volW xs)), false)], [])) : CallSpec Try.prog spec_volume.E :=
  callSpec_of (d := 0) hX (by kernel_rfl) spec_volume.I_ok (by kernel_rfl) (by kernel_rfl) (by kernel_rfl) (fun _ _ _ _ h => by dsimp only [spec_volume.E] at h; cases h) (fun xs hp => by
    dsimp only [spec_volume.E] at hp ⊢
    split at hp
    · exact h _ hp
    · cases hp)
theorem spec_volume.loop (fuel : Nat) (xs : List Int) (hx : xs.length < 9223372036854775808) : ∀ (m n j : Nat) (a : Int), xs.length - j = m → m < n → j ≤ xs.length →
    spec_volume.L0 fuel n (spec_volume.t0 xs a (j : Int)) (spec_volume.k0 fuel) = some ([.one (.int .i64 (volFrom (xs.drop j) a), false)], []) := by
  intro m
  induction m with
  | zero =>
    intro n j a h1 h2 h3
    obtain ⟨n, rfl⟩ : ∃ n', n = n' + 1 := ⟨n - 1, by omega⟩
    have hj : ¬ j < xs.length := by omega
    rw [spec_volume.s0, dge hj, dropE hj]
    rfl
  | succ m ih =>
    intro n j a h1 h2 h3
    obtain ⟨n, rfl⟩ : ∃ n', n = n' + 1 := ⟨n - 1, by omega⟩
    have hj : j < xs.length := by omega
    rw [spec_volume.s0, dlt hj, idx_nat hj, w1 (by omega), dropS hj]
    simp only [cond_true, Option.bind_some, getS hj, volFrom]
    exact ih n (j + 1) _ (by omega) (by omega) (by omega)

theorem spec_volume.ok : CallSpec Try.prog spec_volume.E := spec_volume.ok_of (by simp [spec_volume.X]) fun xs h => by
  simp only [decide_eq_true_eq] at h
  refine ⟨xs.length + 1, ?_⟩
  rw [spec_volume.e]
  exact spec_volume.loop (xs.length + 1) xs h xs.length (xs.length + 1) 0 1 (by omega) (by omega) (by omega)

namespace spec_validBases
noncomputable def E : Entry := ⟨30, true, false, fun | [.d (.ints .i64 xs)] => decide (xs.length < 9223372036854775808) | _ => false, fun | [.d (.ints .i64 xs)] => ([.one ((.bool (bsB xs)), false)], []) | _ => ([], []), fun _ => [], false, fun _ => none⟩
end spec_validBases
namespace spec_validBases
noncomputable def X : List Entry := [spec_inRange.E, spec_allIn.E, spec_volume.E]
noncomputable def I : List Inl := [⟨30, Try.f30, ⟨[], [], [], [], [], []⟩⟩]
theorem I_ok : ∀ i ∈ I, Try.prog.funcs[i.f]? = some i.fn ∧ (i.fn.name == "runtime.NumGoroutine") = false := by
  intro i hi
  simp only [I, List.mem_cons, List.not_mem_nil, or_false] at hi
  subst hi
  exact ⟨by kernel_rfl, by kernel_rfl⟩
theorem e (fuel : Nat) (p0 : List Int) : runF Try.prog X I 0 fuel 30 Try.f30 [.d (.ints .i64 p0)] =
  (bif (decide (1 ≤ (((p0.length : Nat) : Int))) && decide ((((p0.length : Nat) : Int)) ≤ 6)) then
  (bif decide (p0.length < 9223372036854775808) then
  (bif (allB p0 1 1000) then
  (bif decide (p0.length < 9223372036854775808) then
  some ([.one ((.bool (decide (((volW p0) : Int) ≤ 1000000))), false)], [])
  else
  none)
  else
  some ([.one ((.bool false), false)], []))
  else
  none)
  else
  some ([.one ((.bool false), false)], [])) := by kernel_rfl
end spec_validBases
theorem spec_validBases.ok_of (hX : ∀ E ∈ spec_validBases.X, CallSpec Try.prog E) (h : ∀ (xs : List Int), (decide (xs.length < 9223372036854775808)) = true → ∃ fuel, runF Try.prog spec_validBases.X spec_validBases.I 0 fuel 30 Try.f30 [.d (.ints .i64 xs)] = some ([.one ((.bool (bsB xs)), false)], [])) : CallSpec Try.prog spec_validBases.E :=
  callSpec_of (d := 0) hX (by kernel_rfl) spec_validBases.I_ok (by kernel_rfl) (by kernel_rfl) (by kernel_rfl) (fun _ _ _ _ h => by dsimp only [spec_validBases.E] at h; cases h) (fun xs hp => by
    dsimp only [spec_validBases.E] at hp ⊢
    split at hp
    · exact h _ hp
    · cases hp)
theorem spec_validBases.ok : CallSpec Try.prog spec_validBases.E := spec_validBases.ok_of (by simp [spec_validBases.X, spec_inRange.ok, spec_allIn.ok, spec_volume.ok]) fun xs h => ⟨0, by
  rw [spec_validBases.e, h]
  unfold bsB
  by_cases h1 : 1 ≤ xs.length
  · by_cases h2 : xs.length ≤ 6
    · rw [decide_eq_true (p := (1 : Int) ≤ ((xs.length : Nat) : Int)) (by omega), decide_eq_true (p := ((xs.length : Nat) : Int) ≤ 6) (by omega), decide_eq_true h1, decide_eq_true h2]
      cases allB xs 1 1000 <;> rfl
    · rw [decide_eq_true (p := (1 : Int) ≤ ((xs.length : Nat) : Int)) (by omega), decide_eq_false (p := ((xs.length : Nat) : Int) ≤ 6) (by omega), decide_eq_false h2]
      simp only [Bool.and_false, Bool.false_and]
      rfl
  · rw [decide_eq_false (p := (1 : Int) ≤ ((xs.length : Nat) : Int)) (by omega), decide_eq_false h1]
    rfl⟩

namespace spec_placeIn_b
noncomputable def E : Entry := ⟨33, false, false, fun | [.d (.ints .i64 xs), .d (.int .i64 n)] => posB xs && decide (0 ≤ n) && decide (n ≤ 1000000) | _ => false, fun | [.d (.ints .i64 xs), .d (.int .i64 n)] => ([.one ((.ints .i64 (plN xs n.toNat)), true)], []) | _ => ([], []), fun _ => [], true, fun _ => none⟩
end spec_placeIn_b
namespace spec_placeIn_b
noncomputable def X : List Entry := []
noncomputable def I : List Inl := [⟨33, Try.f33, ⟨[], [(1000003, [2, 3, 4, 7, 8, 9, 10, 11, 12, 13, 14, 15, 16, 17, 18, 19, 20, 21, 22, 23, 24, 25, 26, 27, 28, 29, 30, 31, 32])], [], [], [], []⟩⟩]
theorem I_ok : ∀ i ∈ I, Try.prog.funcs[i.f]? = some i.fn ∧ (i.fn.name == "runtime.NumGoroutine") = false := by
  intro i hi
  simp only [I, List.mem_cons, List.not_mem_nil, or_false] at hi
  subst hi
  exact ⟨by kernel_rfl, by kernel_rfl⟩
noncomputable abbrev L0 (fuel n : Nat) (s : St) (k : Kont) := lAt Try.prog X I fuel true 0 false 33 (bodyOf Try.f33) [1, 1, 0, 1, 0] n s k
noncomputable abbrev k0  (fuel : Nat) : Kont := (kAt Try.prog X I fuel true 0 false 33 (bodyOf Try.f33) [1, 1, 0, 1, 0] [] (endK Try.prog Try.f33))
noncomputable def t0 (p0 : List Int) (x0q1 : Int) (x0q2 : Int) (x0q3 : List Int) : St := ⟨[(.imm (.ints .i64 p0)), (.imm (.int .i64 x0q1)), .dead, .dead, .dead, (.all 1000000000 1), (.imm (.int .i64 x0q2)), .dead, .dead, .dead, .dead, .dead, .dead, .dead, .dead, .dead, .dead, .dead, .dead, .dead, .dead, .dead, .dead, .dead, .dead, .dead, .dead, .dead, .dead, .dead, .dead, .dead, .dead], hOf [(1000000000, (.ints .i64 x0q3))], [], []⟩
theorem e (fuel : Nat) (p0 : List Int) (p1 : Int) : runF Try.prog X I 0 fuel 33 Try.f33 [.d (.ints .i64 p0), .d (.int .i64 p1)] =
  (bif decide (0 ≤ (((p0.length : Nat) : Int) : Int)) && decide ((((p0.length : Nat) : Int) : Int) ≤ ((p0.length : Nat) : Int)) && decide ((((p0.length : Nat) : Int) : Int) ≤ 1152921504606846976) && decide (((8 : Nat) : Int) * ((p0.length : Nat) : Int) ≤ 281474976710656) then
  L0 fuel fuel (t0 p0 p1 ((IntKind.wrap .i64 (((p0.length : Nat) : Int) - 1))) ((List.replicate (((p0.length : Nat) : Int)).toNat (0 : Int)))) (k0  fuel)
  else
  none) := by kernel_rfl
theorem s0 (fuel n0 : Nat) (p0 : List Int) (x0q1 : Int) (x0q2 : Int) (x0q3 : List Int) : L0 fuel (n0 + 1) (t0 p0 x0q1 x0q2 x0q3) (k0  fuel) =
  (bif (decide ((x0q2 : Int) ≥ 0)) then
  (idx x0q2 p0.length).bind fun j11 =>
  (p0[j11]?).bind fun v12 =>
  (bif decide ((v12 : Int) = 0) then
  none
  else
  (idx x0q2 x0q3.length).bind fun j13 =>
  (bif decide (j13 < x0q3.length) then
  (idx x0q2 p0.length).bind fun j14 =>
  (p0[j14]?).bind fun v15 =>
  (bif decide ((v15 : Int) = 0) then
  none
  else
  L0 fuel n0 (t0 p0 ((IntKind.wrap .i64 (Int.tdiv x0q1 v15))) ((IntKind.wrap .i64 (x0q2 - 1))) ((x0q3.set j13 (Int.tmod x0q1 v12)))) (k0  fuel))
  else
  none))
  else
  some ([.one ((.ints .i64 x0q3), true)], [])) := by kernel_rfl
end spec_placeIn_b
theorem spec_placeIn_b.ok_of (hX : ∀ E ∈ spec_placeIn_b.X, CallSpec Try.prog E) (h : ∀ (xs : List Int) (n : Int), (posB xs && decide (0 ≤ n) && decide (n ≤ 1000000)) = true → ∃ fuel, runF Try.prog spec_placeIn_b.X spec_placeIn_b.I 0 fuel 33 Try.f33 [.d (.ints .i64 xs), .d (.int .i64 n)] = some ([.one ((.ints .i64 (plN xs n.toNat)), true)], [])) : CallSpec Try.prog spec_placeIn_b.E :=
  callSpec_of (d := 0) hX (by kernel_rfl) spec_placeIn_b.I_ok (by kernel_rfl) (by kernel_rfl) (by kernel_rfl) (fun _ _ _ _ h => by dsimp only [spec_placeIn_b.E] at h; cases h) (fun xs hp => by
    dsimp only [spec_placeIn_b.E] at hp ⊢
    split at hp
    · exact h _ _ hp
    · cases hp)
theorem spec_placeIn_b.loop (fuel : Nat) (sh : List Int) (n : Nat) (hv : posB sh = true) (hn : n ≤ 1000000) (hf : 1001 < fuel) :
    spec_placeIn_b.L0 fuel fuel (spec_placeIn_b.t0 sh (n : Int) (((sh.length : Nat) : Int) - 1 - ((0 : Nat) : Int)) (List.replicate sh.length 0)) (spec_placeIn_b.k0 fuel) = some ([.one ((.ints .i64 (plN sh n)), true)], []) := by
  obtain ⟨hr, hp⟩ := posB_inv hv
  refine run_loop (N := sh.length) (fun f j (s : Nat × List Int) => spec_placeIn_b.L0 fuel f (spec_placeIn_b.t0 sh (s.1 : Int) (((sh.length : Nat) : Int) - 1 - (j : Int)) s.2) (spec_placeIn_b.k0 fuel)) (fun j s => s.1 = n / prodN (sh.drop (sh.length - j)) ∧ s.2 = tail0 (plN sh n) (sh.length - j)) ?_ ?_ fuel 0 (n, List.replicate sh.length 0) (by omega) (by omega) ⟨by simp [prodN], ?_⟩
  · intro f s ⟨h1, h2⟩
    rw [Nat.sub_self, tail0_zero] at h2
    rw [spec_placeIn_b.s0, decide_eq_false (by omega), h2]
    rfl
  · intro f j s hj ⟨h1, h2⟩
    obtain ⟨k, hk⟩ : ∃ k, sh.length - j = k + 1 := ⟨sh.length - j - 1, by omega⟩
    have hkl : k < sh.length := by omega
    obtain ⟨p0, p1, p2⟩ := hp k hkl
    have e1 : ((sh.length : Nat) : Int) - 1 - (j : Int) = (k : Int) := by omega
    have hs2 : s.2.length = sh.length := by rw [h2, tail0_length (by rw [plN_length]; omega), plN_length]
    have hs1 : s.1 ≤ n := by rw [h1]; exact Nat.div_le_self _ _
    have hdl : s.1 / lenN sh k ≤ n := Nat.le_trans (Nat.div_le_self _ _) hs1
    rw [e1, spec_placeIn_b.s0, decide_eq_true (by omega), idx_nat hkl, idx_nat (by omega)]
    simp only [cond_true, Option.bind_some, getD_get hkl, p0]
    rw [decide_eq_false (by omega), decide_eq_true (by omega), tdivN, tmodN, wN (by omega), wS (x := (k : Int) - 1) (by omega) (by omega)]
    refine ⟨(s.1 / lenN sh k, s.2.set k ((s.1 % lenN sh k : Nat) : Int)), ⟨?_, ?_⟩, ?_⟩
    · rw [h1, hk, show sh.length - (j + 1) = k by omega, behN_drop hkl, Nat.div_div_eq_div_mul, Nat.mul_comm (lenN sh k)]
      rfl
    · rw [h2, hk, show sh.length - (j + 1) = k by omega]
      refine tail0_set (by rw [plN_length]; exact hkl) ?_
      rw [plN_get hkl, h1, hk]
      rfl
    · rw [show ((sh.length : Nat) : Int) - 1 - ((j + 1 : Nat) : Int) = (k : Int) - 1 by omega]
      rfl
  · have := tail0_all (plN sh n)
    rw [plN_length] at this
    rw [Nat.sub_zero, this]
theorem spec_placeIn_b.ok : CallSpec Try.prog spec_placeIn_b.E := spec_placeIn_b.ok_of (by simp [spec_placeIn_b.X, ]) fun sh n h => by
  obtain ⟨F, hF⟩ : ∃ F : Nat, 1001 < F := ⟨1002, by omega⟩
  refine ⟨F, ?_⟩
  simp only [Bool.and_eq_true, decide_eq_true_eq] at h
  obtain ⟨j, rfl⟩ : ∃ j : Nat, n = j := ⟨n.toNat, by omega⟩
  have hr := (posB_inv h.1.1).1
  rw [spec_placeIn_b.e, mkOk (by omega) (by omega), cond_true, wS (by omega) (by omega), Int.toNat_natCast, Int.toNat_natCast, show ((sh.length : Nat) : Int) - 1 = ((sh.length : Nat) : Int) - 1 - ((0 : Nat) : Int) by omega]
  exact spec_placeIn_b.loop F sh j h.1.1 (by omega) hF

namespace spec_EncodeNum
noncomputable def E : Entry := ⟨9, false, false, fun | [.d (.ints .i64 xs), .d (.int .i64 n)] => decide (xs.length < 9223372036854775808) | _ => false, fun | [.d (.ints .i64 xs), .d (.int .i64 n)] => ([.one ((.ints .i64 (enD xs n)), true)], []) | _ => ([], []), fun _ => [], true, fun _ => none⟩
end spec_EncodeNum
namespace spec_EncodeNum
noncomputable def X : List Entry := [spec_validBases.E, spec_volume.E, spec_inRange.E, spec_placeIn_b.E]
noncomputable def I : List Inl := [⟨9, Try.f9, ⟨[18], [(3, [2, 3, 4, 5, 6, 7, 8, 9, 10, 11, 12, 13, 14, 15, 16, 17, 18])], [], [], [], []⟩⟩]
theorem I_ok : ∀ i ∈ I, Try.prog.funcs[i.f]? = some i.fn ∧ (i.fn.name == "runtime.NumGoroutine") = false := by
  intro i hi
  simp only [I, List.mem_cons, List.not_mem_nil, or_false] at hi
  subst hi
  exact ⟨by kernel_rfl, by kernel_rfl⟩
theorem e (fuel : Nat) (p0 : List Int) (p1 : Int) : runF Try.prog X I 0 fuel 9 Try.f9 [.d (.ints .i64 p0), .d (.int .i64 p1)] =
  (bif decide (p0.length < 9223372036854775808) then
  (bif (!(bsB p0)) then
  some ([.one ((.ints .i64 []), true)], [])
  else
  (bif decide (p0.length < 9223372036854775808) then
  (bif (!(decide (0 ≤ p1) && decide (p1 ≤ ((IntKind.wrap .i64 ((volW p0) - 1)))))) then
  some ([.one ((.ints .i64 []), true)], [])
  else
  (bif posB p0 && decide (0 ≤ p1) && decide (p1 ≤ 1000000) then
  some ([.one ((.ints .i64 (plN p0 p1.toNat)), true)], [])
  else
  none))
  else
  none))
  else
  none) := by kernel_rfl
end spec_EncodeNum
theorem spec_EncodeNum.ok_of (hX : ∀ E ∈ spec_EncodeNum.X, CallSpec Try.prog E) (h : ∀ (xs : List Int) (n : Int), (decide (xs.length < 9223372036854775808)) = true → ∃ fuel, runF Try.prog spec_EncodeNum.X spec_EncodeNum.I 0 fuel 9 Try.f9 [.d (.ints .i64 xs), .d (.int .i64 n)] = some ([.one ((.ints .i64 (enD xs n)), true)], [])) : CallSpec Try.prog spec_EncodeNum.E :=
  callSpec_of (d := 0) hX (by kernel_rfl) spec_EncodeNum.I_ok (by kernel_rfl) (by kernel_rfl) (by kernel_rfl) (fun _ _ _ _ h => by dsimp only [spec_EncodeNum.E] at h; cases h) (fun xs hp => by
    dsimp only [spec_EncodeNum.E] at hp ⊢
    split at hp
    · exact h _ _ hp
    · cases hp)
theorem spec_EncodeNum.ok : CallSpec Try.prog spec_EncodeNum.E := spec_EncodeNum.ok_of (by simp [spec_EncodeNum.X, spec_validBases.ok, spec_volume.ok, spec_inRange.ok, spec_placeIn_b.ok]) fun xs n h => ⟨0, by
  rw [spec_EncodeNum.e, h]
  unfold enD enB
  cases hb : bsB xs with
  | false => rfl
  | true =>
    obtain ⟨b1, b2, b3, b4, b5, b6, b7⟩ := bsB_inv hb
    rw [b4, wS (x := ((prodN xs : Nat) : Int) - 1) (by omega) (by omega), b7]
    by_cases h0 : 0 ≤ n
    · by_cases h1 : n < ((prodN xs : Nat) : Int)
      · rw [decide_eq_true h0, decide_eq_true h1, decide_eq_true (p := n ≤ ((prodN xs : Nat) : Int) - 1) (by omega), decide_eq_true (p := n ≤ 1000000) (by omega)]; rfl
      · rw [decide_eq_true h0, decide_eq_false h1, decide_eq_false (p := n ≤ ((prodN xs : Nat) : Int) - 1) (by omega)]; rfl
    · rw [decide_eq_false h0]; rfl⟩

namespace impl_countWith
noncomputable def E : Entry := ⟨34, true, false, fun | [.d (.ints .i64 xs)] => decide (xs.length < 9223372036854775808) | _ => false, fun | [.d (.ints .i64 xs)] => ([.one ((.int .i64 (cwV xs)), false), .one ((.bool (bsB xs)), false)], []) | _ => ([], []), fun _ => [], false, fun _ => none⟩
end impl_countWith
namespace impl_countWith
noncomputable def X : List Entry := []
noncomputable def I : List Inl := [⟨34, Try.f34, ⟨[], [(1000005, [0, 1, 2, 3, 5, 6, 7, 8, 9, 10, 11, 12, 13, 14, 18, 19, 20, 21, 22, 23, 24, 25, 26, 27, 28, 29, 30, 31, 32, 33])], [], [], [], []⟩⟩]
theorem I_ok : ∀ i ∈ I, Try.prog.funcs[i.f]? = some i.fn ∧ (i.fn.name == "runtime.NumGoroutine") = false := by
  intro i hi
  simp only [I, List.mem_cons, List.not_mem_nil, or_false] at hi
  subst hi
  exact ⟨by kernel_rfl, by kernel_rfl⟩
noncomputable abbrev L0 (fuel n : Nat) (s : St) (k : Kont) := lAt Try.prog X I fuel true 0 false 34 (bodyOf Try.f34) [1, 1, 1, 0, 1, 0] n s k
noncomputable abbrev k0  (fuel : Nat) : Kont := (kAt Try.prog X I fuel true 0 false 34 (bodyOf Try.f34) [1, 1, 1, 0, 1, 0] [] (endK Try.prog Try.f34))
noncomputable def t0 (p0 : List Int) (x0q0 : Int) (x0q3 : Int) : St := ⟨[.dead, .dead, .dead, .dead, (.imm (.int .i64 x0q0)), .dead, .dead, .dead, .dead, .dead, .dead, .dead, .dead, .dead, .dead, (.imm (.ints .i64 p0)), (.imm (.int .i64 ((p0.length : Nat) : Int))), (.imm (.int .i64 x0q3)), .dead, .dead, .dead, .dead, .dead, .dead, .dead, .dead, .dead, .dead, .dead, .dead, .dead, .dead, .dead, .dead], hOf [], [], []⟩
theorem e (fuel : Nat) (p0 : List Int) : runF Try.prog X I 0 fuel 34 Try.f34 [.d (.ints .i64 p0)] =
  (bif (decide ((((p0.length : Nat) : Int) : Int) < 1)) then
  some ([.one ((.int .i64 0), false), .one ((.bool false), false)], [])
  else
  (bif (decide ((((p0.length : Nat) : Int) : Int) > 6)) then
  some ([.one ((.int .i64 0), false), .one ((.bool false), false)], [])
  else
  L0 fuel fuel (t0 p0 1 0) (k0  fuel))) := by kernel_rfl
theorem s0 (fuel n0 : Nat) (p0 : List Int) (x0q0 : Int) (x0q3 : Int) : L0 fuel (n0 + 1) (t0 p0 x0q0 x0q3) (k0  fuel) =
  (bif (decide ((x0q3 : Int) < ((p0.length : Nat) : Int))) then
  (idx x0q3 p0.length).bind fun j5 =>
  (p0[j5]?).bind fun v6 =>
  (bif (decide ((v6 : Int) < 1)) then
  some ([.one ((.int .i64 0), false), .one ((.bool false), false)], [])
  else
  (bif (decide ((v6 : Int) > 1000)) then
  some ([.one ((.int .i64 0), false), .one ((.bool false), false)], [])
  else
  L0 fuel n0 (t0 p0 ((IntKind.wrap .i64 (x0q0 * v6))) ((IntKind.wrap .i64 (x0q3 + 1)))) (k0  fuel)))
  else
  (bif (decide ((x0q0 : Int) > 1000000)) then
  some ([.one ((.int .i64 0), false), .one ((.bool false), false)], [])
  else
  some ([.one ((.int .i64 x0q0), false), .one ((.bool true), false)], []))) := by kernel_rfl
end impl_countWith
theorem impl_countWith.ok_of (hX : ∀ E ∈ impl_countWith.X, CallSpec Try.prog E) (h : ∀ (xs : List Int), (decide (xs.length < 9223372036854775808)) = true → ∃ fuel, runF Try.prog impl_countWith.X impl_countWith.I 0 fuel 34 Try.f34 [.d (.ints .i64 xs)] = some ([.one ((.int .i64 (cwV xs)), false), .one ((.bool (bsB xs)), false)], [])) : CallSpec Try.prog impl_countWith.E :=
  callSpec_of (d := 0) hX (by kernel_rfl) impl_countWith.I_ok (by kernel_rfl) (by kernel_rfl) (by kernel_rfl) (fun _ _ _ _ h => by dsimp only [impl_countWith.E] at h; cases h) (fun xs hp => by
    dsimp only [impl_countWith.E] at hp ⊢
    split at hp
    · exact h _ hp
    · cases hp)
theorem impl_countWith.loop (fuel : Nat) (xs : List Int) (hx : xs.length < 9223372036854775808) : ∀ (m n j : Nat) (a : Int), xs.length - j = m → m < n → j ≤ xs.length →
    impl_countWith.L0 fuel n (impl_countWith.t0 xs a (j : Int)) (impl_countWith.k0 fuel) = some ([.one (.int .i64 (bif allB (xs.drop j) 1 1000 && decide (volFrom (xs.drop j) a ≤ 1000000) then volFrom (xs.drop j) a else 0), false), .one (.bool (allB (xs.drop j) 1 1000 && decide (volFrom (xs.drop j) a ≤ 1000000)), false)], []) := by
  intro m
  induction m with
  | zero =>
    intro n j a h1 h2 h3
    obtain ⟨n, rfl⟩ : ∃ n', n = n' + 1 := ⟨n - 1, by omega⟩
    have hj : ¬ j < xs.length := by omega
    rw [impl_countWith.s0, dge hj, dropE hj]
    rw [show volFrom [] a = a from rfl, show allB [] 1 1000 = true from rfl]
    simp only [Bool.true_and, cond_false]
    by_cases ha : a ≤ 1000000
    · rw [decide_eq_false (p := a > 1000000) (by omega), decide_eq_true ha]; rfl
    · rw [decide_eq_true (p := a > 1000000) (by omega), decide_eq_false ha]; rfl
  | succ m ih =>
    intro n j a h1 h2 h3
    obtain ⟨n, rfl⟩ : ∃ n', n = n' + 1 := ⟨n - 1, by omega⟩
    have hj : j < xs.length := by omega
    rw [impl_countWith.s0, dlt hj, idx_nat hj, w1 (by omega), dropS hj]
    simp only [cond_true, Option.bind_some, getS hj, volFrom, allB_cons]
    rw [ih n (j + 1) _ (by omega) (by omega) (by omega)]
    generalize xs[j] = x
    by_cases c1 : 1 ≤ x
    · by_cases c2 : x ≤ 1000
      · rw [decide_eq_false (p := x < 1) (by omega), decide_eq_false (p := x > 1000) (by omega), decide_eq_true c1, decide_eq_true c2]
        simp only [Bool.true_and, cond_false]
        rfl
      · rw [decide_eq_false (p := x < 1) (by omega), decide_eq_true (p := x > 1000) (by omega), decide_eq_true c1, decide_eq_false c2]
        simp only [Bool.true_and, Bool.false_and, cond_false, cond_true]
        try rfl
    · rw [decide_eq_true (p := x < 1) (by omega), decide_eq_false c1]
      simp only [Bool.false_and, cond_false, cond_true]
theorem impl_countWith.ok : CallSpec Try.prog impl_countWith.E := impl_countWith.ok_of (by simp [impl_countWith.X]) fun xs h => by
  simp only [decide_eq_true_eq] at h
  refine ⟨xs.length + 1, ?_⟩
  rw [impl_countWith.e]
  unfold cwV bsB volW
  by_cases h1 : 1 ≤ xs.length
  · by_cases h2 : xs.length ≤ 6
    · have := impl_countWith.loop (xs.length + 1) xs h xs.length (xs.length + 1) 0 1 (by omega) (by omega) (by omega)
      rw [decide_eq_false (p := ((xs.length : Nat) : Int) < 1) (by omega), decide_eq_false (p := ((xs.length : Nat) : Int) > 6) (by omega), decide_eq_true h1, decide_eq_true h2]
      exact this
    · rw [decide_eq_false (p := ((xs.length : Nat) : Int) < 1) (by omega), decide_eq_true (p := ((xs.length : Nat) : Int) > 6) (by omega), decide_eq_false h2]
      simp only [Bool.and_false, Bool.false_and]
      rfl
  · rw [decide_eq_true (p := ((xs.length : Nat) : Int) < 1) (by omega), decide_eq_false h1]
    rfl

namespace impl_digitsOf
noncomputable def E : Entry := ⟨35, false, false, fun | [.d (.ints .i64 xs), .d (.int .i64 n)] => posB xs && decide (0 ≤ n) && decide (n ≤ 1000000) | _ => false, fun | [.d (.ints .i64 xs), .d (.int .i64 n)] => ([.one ((.ints .i64 (plN xs n.toNat)), true)], []) | _ => ([], []), fun _ => [], true, fun _ => none⟩
end impl_digitsOf
namespace impl_digitsOf
noncomputable def X : List Entry := []
noncomputable def I : List Inl := [⟨35, Try.f35, ⟨[], [(2, [1, 2, 6, 7, 8, 9, 10, 11, 12, 13, 14, 15, 16, 17, 18, 19, 20, 21, 22, 23, 24])], [], [(5, [1, 3, 0, 2, 4, 5, 6])], [], []⟩⟩, ⟨53, Try.f53, ⟨[], [], [(1, [1])], [], [], []⟩⟩, ⟨60, Try.f60, ⟨[], [(1000001, [2, 4, 5, 6, 7, 8, 9, 10, 11, 12, 13, 14, 15, 16, 17, 18])], [], [], [], []⟩⟩]
theorem I_ok : ∀ i ∈ I, Try.prog.funcs[i.f]? = some i.fn ∧ (i.fn.name == "runtime.NumGoroutine") = false := by
  intro i hi
  simp only [I, List.mem_cons, List.not_mem_nil, or_false] at hi
  rcases hi with rfl | rfl | rfl
  all_goals exact ⟨by kernel_rfl, by kernel_rfl⟩
noncomputable abbrev L0 (fuel n : Nat) (s : St) (k : Kont) := lAt Try.prog X I fuel true 3 false 60 (bodyOf Try.f60) [1, 0] n s k
noncomputable abbrev k0  (fuel : Nat) : Kont := (kAt Try.prog X I fuel true 3 false 60 (bodyOf Try.f60) [1, 0] [] (endFn Try.prog Try.f60 25 (kRange (kAt Try.prog X I fuel true 4 false 35 (bodyOf Try.f35) [1, 1, 0, 1, 0] [] (endK Try.prog Try.f35)))))
noncomputable def t0 (p0 : List Int) (x0q1 : Int) (x0q5 : Int) (x0q6 : List Int) : St := ⟨[(.yld 1000000001), (.imm (.pbox [(.ints .i64 p0)])), .dead, (.imm (.int .i64 x0q1)), .dead, .dead, .dead, .dead, .dead, .dead, .dead, .dead, .dead, .dead, .dead, .dead, .dead, .dead, .dead], hOf [(1000000000, .dfr), (1000000001, (.loop 35 [(.imm (.ints .i64 p0)), .dead, .dead, (.ptr 1000000002 0 0), (.imm .nils), (.ptr 1000000003 0 0), .dead, .dead, .dead, .dead, .dead, (.imm (.ints .i64 p0)), (.imm (.clo 60 [(.pbox [(.ints .i64 p0)])])), .dead, .dead, .dead, .dead, .dead, .dead, .dead, .dead, .dead, .dead, .dead, .dead] [13, 14] (cAt (bodyOf Try.f35) [1, 1, 0, 1, 0, 0]) (cAt (bodyOf Try.f35) [1, 1, 0, 1, 0, 1]) .ready)), (1000000002, (.box [(.imm (.int .i64 x0q5))])), (1000000003, (.box [(.all 1000000004 1)])), (1000000004, (.ints .i64 x0q6))], [(.imm (.ints .i64 p0)), .dead, .dead, (.ptr 1000000002 0 0), (.imm .nils), (.ptr 1000000003 0 0), .dead, .dead, .dead, .dead, .dead, (.imm (.ints .i64 p0)), (.imm (.clo 60 [(.pbox [(.ints .i64 p0)])])), .dead, .dead, .dead, .dead, .dead, .dead, .dead, .dead, .dead, .dead, .dead, .dead, (.tup [(.dfr 1000000000)]), (.yld 1000000001)], []⟩
theorem e (fuel : Nat) (p0 : List Int) (p1 : Int) : runF Try.prog X I 4 fuel 35 Try.f35 [.d (.ints .i64 p0), .d (.int .i64 p1)] =
  (bif decide (0 ≤ (((p0.length : Nat) : Int) : Int)) && decide ((((p0.length : Nat) : Int) : Int) ≤ ((p0.length : Nat) : Int)) && decide ((((p0.length : Nat) : Int) : Int) ≤ 1152921504606846976) && decide (((8 : Nat) : Int) * ((p0.length : Nat) : Int) ≤ 281474976710656) then
  L0 fuel fuel (t0 p0 ((IntKind.wrap .i64 (((p0.length : Nat) : Int) - 1))) p1 ((List.replicate (((p0.length : Nat) : Int)).toNat (0 : Int)))) (k0  fuel)
  else
  none) := by kernel_rfl
theorem s0 (fuel n0 : Nat) (p0 : List Int) (x0q1 : Int) (x0q5 : Int) (x0q6 : List Int) : L0 fuel (n0 + 1) (t0 p0 x0q1 x0q5 x0q6) (k0  fuel) =
  (bif (decide ((x0q1 : Int) ≥ 0)) then
  (idx x0q1 p0.length).bind fun j7 =>
  (p0[j7]?).bind fun v8 =>
  (bif decide ((v8 : Int) = 0) then
  none
  else
  (idx x0q1 x0q6.length).bind fun j9 =>
  (bif decide (j9 < x0q6.length) then
  (bif decide ((v8 : Int) = 0) then
  none
  else
  L0 fuel n0 (t0 p0 ((IntKind.wrap .i64 (x0q1 - 1))) ((IntKind.wrap .i64 (Int.tdiv x0q5 v8))) ((x0q6.set j9 (Int.tmod x0q5 v8)))) (k0  fuel))
  else
  none))
  else
  some ([.one ((.ints .i64 x0q6), true)], [])) := by kernel_rfl
end impl_digitsOf
theorem impl_digitsOf.ok_of (hX : ∀ E ∈ impl_digitsOf.X, CallSpec Try.prog E) (h : ∀ (xs : List Int) (n : Int), (posB xs && decide (0 ≤ n) && decide (n ≤ 1000000)) = true → ∃ fuel, runF Try.prog impl_digitsOf.X impl_digitsOf.I 4 fuel 35 Try.f35 [.d (.ints .i64 xs), .d (.int .i64 n)] = some ([.one ((.ints .i64 (plN xs n.toNat)), true)], [])) : CallSpec Try.prog impl_digitsOf.E :=
  callSpec_of (d := 4) hX (by kernel_rfl) impl_digitsOf.I_ok (by kernel_rfl) (by kernel_rfl) (by kernel_rfl) (fun _ _ _ _ h => by dsimp only [impl_digitsOf.E] at h; cases h) (fun xs hp => by
    dsimp only [impl_digitsOf.E] at hp ⊢
    split at hp
    · exact h _ _ hp
    · cases hp)
theorem impl_digitsOf.loop (fuel : Nat) (sh : List Int) (n : Nat) (hv : posB sh = true) (hn : n ≤ 1000000) (hf : 1001 < fuel) :
    impl_digitsOf.L0 fuel fuel (impl_digitsOf.t0 sh (((sh.length : Nat) : Int) - 1 - ((0 : Nat) : Int)) (n : Int) (List.replicate sh.length 0)) (impl_digitsOf.k0 fuel) = some ([.one ((.ints .i64 (plN sh n)), true)], []) := by
  obtain ⟨hr, hp⟩ := posB_inv hv
  refine run_loop (N := sh.length) (fun f j (s : Nat × List Int) => impl_digitsOf.L0 fuel f (impl_digitsOf.t0 sh (((sh.length : Nat) : Int) - 1 - (j : Int)) (s.1 : Int) s.2) (impl_digitsOf.k0 fuel)) (fun j s => s.1 = n / prodN (sh.drop (sh.length - j)) ∧ s.2 = tail0 (plN sh n) (sh.length - j)) ?_ ?_ fuel 0 (n, List.replicate sh.length 0) (by omega) (by omega) ⟨by simp [prodN], ?_⟩
  · intro f s ⟨h1, h2⟩
    rw [Nat.sub_self, tail0_zero] at h2
    rw [impl_digitsOf.s0, decide_eq_false (by omega), h2]
    rfl
  · intro f j s hj ⟨h1, h2⟩
    obtain ⟨k, hk⟩ : ∃ k, sh.length - j = k + 1 := ⟨sh.length - j - 1, by omega⟩
    have hkl : k < sh.length := by omega
    obtain ⟨p0, p1, p2⟩ := hp k hkl
    have e1 : ((sh.length : Nat) : Int) - 1 - (j : Int) = (k : Int) := by omega
    have hs2 : s.2.length = sh.length := by rw [h2, tail0_length (by rw [plN_length]; omega), plN_length]
    have hs1 : s.1 ≤ n := by rw [h1]; exact Nat.div_le_self _ _
    have hdl : s.1 / lenN sh k ≤ n := Nat.le_trans (Nat.div_le_self _ _) hs1
    rw [e1, impl_digitsOf.s0, decide_eq_true (by omega), idx_nat hkl, idx_nat (by omega)]
    simp only [cond_true, Option.bind_some, getD_get hkl, p0]
    rw [decide_eq_false (by omega), decide_eq_true (by omega), tdivN, tmodN, wN (by omega), wS (x := (k : Int) - 1) (by omega) (by omega)]
    refine ⟨(s.1 / lenN sh k, s.2.set k ((s.1 % lenN sh k : Nat) : Int)), ⟨?_, ?_⟩, ?_⟩
    · rw [h1, hk, show sh.length - (j + 1) = k by omega, behN_drop hkl, Nat.div_div_eq_div_mul, Nat.mul_comm (lenN sh k)]
      rfl
    · rw [h2, hk, show sh.length - (j + 1) = k by omega]
      refine tail0_set (by rw [plN_length]; exact hkl) ?_
      rw [plN_get hkl, h1, hk]
      rfl
    · rw [show ((sh.length : Nat) : Int) - 1 - ((j + 1 : Nat) : Int) = (k : Int) - 1 by omega]
      rfl
  · have := tail0_all (plN sh n)
    rw [plN_length] at this
    rw [Nat.sub_zero, this]
theorem impl_digitsOf.ok : CallSpec Try.prog impl_digitsOf.E := impl_digitsOf.ok_of (by simp [impl_digitsOf.X, ]) fun sh n h => by
  obtain ⟨F, hF⟩ : ∃ F : Nat, 1001 < F := ⟨1002, by omega⟩
  refine ⟨F, ?_⟩
  simp only [Bool.and_eq_true, decide_eq_true_eq] at h
  obtain ⟨j, rfl⟩ : ∃ j : Nat, n = j := ⟨n.toNat, by omega⟩
  have hr := (posB_inv h.1.1).1
  rw [impl_digitsOf.e, mkOk (by omega) (by omega), cond_true, wS (by omega) (by omega), Int.toNat_natCast, Int.toNat_natCast, show ((sh.length : Nat) : Int) - 1 = ((sh.length : Nat) : Int) - 1 - ((0 : Nat) : Int) by omega]
  exact impl_digitsOf.loop F sh j h.1.1 (by omega) hF

namespace impl_EncodeNum
noncomputable def E : Entry := ⟨11, false, false, fun | [.d (.ints .i64 xs), .d (.int .i64 n)] => decide (xs.length < 9223372036854775808) | _ => false, fun | [.d (.ints .i64 xs), .d (.int .i64 n)] => ([.one ((.ints .i64 (enD xs n)), true)], []) | _ => ([], []), fun _ => [], true, fun _ => none⟩
end impl_EncodeNum
namespace impl_EncodeNum
noncomputable def X : List Entry := [impl_countWith.E, impl_digitsOf.E]
noncomputable def I : List Inl := [⟨11, Try.f11, ⟨[25], [], [], [], [], []⟩⟩]
theorem I_ok : ∀ i ∈ I, Try.prog.funcs[i.f]? = some i.fn ∧ (i.fn.name == "runtime.NumGoroutine") = false := by
  intro i hi
  simp only [I, List.mem_cons, List.not_mem_nil, or_false] at hi
  subst hi
  exact ⟨by kernel_rfl, by kernel_rfl⟩
theorem e (fuel : Nat) (p0 : List Int) (p1 : Int) : runF Try.prog X I 0 fuel 11 Try.f11 [.d (.ints .i64 p0), .d (.int .i64 p1)] =
  (bif decide (p0.length < 9223372036854775808) then
  (bif (!(bsB p0)) then
  some ([.one ((.ints .i64 []), true)], [])
  else
  (bif (decide ((p1 : Int) < 0)) then
  some ([.one ((.ints .i64 []), true)], [])
  else
  (bif (decide ((p1 : Int) ≥ (cwV p0))) then
  some ([.one ((.ints .i64 []), true)], [])
  else
  (bif posB p0 && decide (0 ≤ p1) && decide (p1 ≤ 1000000) then
  some ([.one ((.ints .i64 (plN p0 p1.toNat)), true)], [])
  else
  none))))
  else
  none) := by kernel_rfl
end impl_EncodeNum
theorem impl_EncodeNum.ok_of (hX : ∀ E ∈ impl_EncodeNum.X, CallSpec Try.prog E) (h : ∀ (xs : List Int) (n : Int), (decide (xs.length < 9223372036854775808)) = true → ∃ fuel, runF Try.prog impl_EncodeNum.X impl_EncodeNum.I 0 fuel 11 Try.f11 [.d (.ints .i64 xs), .d (.int .i64 n)] = some ([.one ((.ints .i64 (enD xs n)), true)], [])) : CallSpec Try.prog impl_EncodeNum.E :=
  callSpec_of (d := 0) hX (by kernel_rfl) impl_EncodeNum.I_ok (by kernel_rfl) (by kernel_rfl) (by kernel_rfl) (fun _ _ _ _ h => by dsimp only [impl_EncodeNum.E] at h; cases h) (fun xs hp => by
    dsimp only [impl_EncodeNum.E] at hp ⊢
    split at hp
    · exact h _ _ hp
    · cases hp)
theorem impl_EncodeNum.ok : CallSpec Try.prog impl_EncodeNum.E := impl_EncodeNum.ok_of (by simp [impl_EncodeNum.X, impl_countWith.ok, impl_digitsOf.ok]) fun xs n h => ⟨0, by
  rw [impl_EncodeNum.e, h]
  unfold enD enB cwV
  cases hb : bsB xs with
  | false => rfl
  | true =>
    obtain ⟨b1, b2, b3, b4, b5, b6, b7⟩ := bsB_inv hb
    simp only [cond_true]
    rw [b4, b7]
    by_cases h0 : 0 ≤ n
    · by_cases h1 : n < ((prodN xs : Nat) : Int)
      · rw [decide_eq_true h0, decide_eq_false (p := n < 0) (by omega), decide_eq_true h1, decide_eq_false (p := n ≥ ((prodN xs : Nat) : Int)) (by omega), decide_eq_true (p := n ≤ 1000000) (by omega)]; rfl
      · rw [decide_eq_true h0, decide_eq_false (p := n < 0) (by omega), decide_eq_false h1, decide_eq_true (p := n ≥ ((prodN xs : Nat) : Int)) (by omega)]; rfl
    · rw [decide_eq_false h0, decide_eq_true (p := n < 0) (by omega)]; rfl⟩

namespace laws_eqIntS
noncomputable def E : Entry := ⟨12, true, false, fun | [.d (.ints .i64 xs), .d (.ints .i64 ys)] => decide (xs.length < 9223372036854775808) && decide (ys.length < 9223372036854775808) | _ => false, fun | [.d (.ints .i64 xs), .d (.ints .i64 ys)] => ([.one ((.bool (decide (xs = ys))), false)], []) | _ => ([], []), fun _ => [], false, fun _ => none⟩
end laws_eqIntS
namespace laws_eqIntS
noncomputable def X : List Entry := []
noncomputable def I : List Inl := [⟨12, Try.f12, ⟨[], [(1000004, [2, 3, 4, 6, 7, 8, 9, 10, 11, 12, 13, 14, 15, 16, 17, 18, 19, 20, 21, 22, 23, 24, 25])], [], [(6, [0, 1, 4, 5, 2, 3, 6, 7, 8])], [], []⟩⟩]
theorem I_ok : ∀ i ∈ I, Try.prog.funcs[i.f]? = some i.fn ∧ (i.fn.name == "runtime.NumGoroutine") = false := by
  intro i hi
  simp only [I, List.mem_cons, List.not_mem_nil, or_false] at hi
  subst hi
  exact ⟨by kernel_rfl, by kernel_rfl⟩
noncomputable abbrev L0 (fuel n : Nat) (s : St) (k : Kont) := lAt Try.prog X I fuel true 0 false 12 (bodyOf Try.f12) [1, 1, 0, 1, 0] n s k
noncomputable abbrev k0  (fuel : Nat) : Kont := (kAt Try.prog X I fuel true 0 false 12 (bodyOf Try.f12) [1, 1, 0, 1, 0] [] (endK Try.prog Try.f12))
noncomputable def t0 (p0 : List Int) (p1 : List Int) (x0q2 : Int) : St := ⟨[(.imm (.ints .i64 p0)), (.imm (.ints .i64 p1)), .dead, .dead, .dead, (.imm (.int .i64 x0q2)), .dead, .dead, .dead, .dead, .dead, .dead, .dead, .dead, .dead, .dead, .dead, .dead, .dead, .dead, .dead, .dead, .dead, .dead, .dead, .dead], hOf [], [], []⟩
theorem e (fuel : Nat) (p0 : List Int) (p1 : List Int) : runF Try.prog X I 0 fuel 12 Try.f12 [.d (.ints .i64 p0), .d (.ints .i64 p1)] =
  (bif ((((p0.length : Nat) : Int) : Int) != ((p1.length : Nat) : Int)) then
  some ([.one ((.bool false), false)], [])
  else
  L0 fuel fuel (t0 p0 p1 0) (k0  fuel)) := by kernel_rfl
theorem s0 (fuel n0 : Nat) (p0 : List Int) (p1 : List Int) (x0q2 : Int) : L0 fuel (n0 + 1) (t0 p0 p1 x0q2) (k0  fuel) =
  (bif (decide ((x0q2 : Int) < ((p0.length : Nat) : Int))) then
  (idx x0q2 p0.length).bind fun j9 =>
  (p0[j9]?).bind fun v10 =>
  (idx x0q2 p1.length).bind fun j11 =>
  (p1[j11]?).bind fun v12 =>
  (bif ((v10 : Int) != v12) then
  some ([.one ((.bool false), false)], [])
  else
  L0 fuel n0 (t0 p0 p1 ((IntKind.wrap .i64 (x0q2 + 1)))) (k0  fuel))
  else
  some ([.one ((.bool true), false)], [])) := by kernel_rfl
end laws_eqIntS
theorem laws_eqIntS.ok_of (hX : ∀ E ∈ laws_eqIntS.X, CallSpec Try.prog E) (h : ∀ (xs : List Int) (ys : List Int), (decide (xs.length < 9223372036854775808) && decide (ys.length < 9223372036854775808)) = true → ∃ fuel, runF Try.prog laws_eqIntS.X laws_eqIntS.I 0 fuel 12 Try.f12 [.d (.ints .i64 xs), .d (.ints .i64 ys)] = some ([.one ((.bool (decide (xs = ys))), false)], [])) : CallSpec Try.prog laws_eqIntS.E :=
  callSpec_of (d := 0) hX (by kernel_rfl) laws_eqIntS.I_ok (by kernel_rfl) (by kernel_rfl) (by kernel_rfl) (fun _ _ _ _ h => by dsimp only [laws_eqIntS.E] at h; cases h) (fun xs hp => by
    dsimp only [laws_eqIntS.E] at hp ⊢
    split at hp
    · exact h _ _ hp
    · cases hp)
theorem laws_eqIntS.loop (fuel : Nat) (xs ys : List Int) (hl : xs.length = ys.length) (hx : xs.length < 9223372036854775808) : ∀ (m n j : Nat), xs.length - j = m → m < n → j ≤ xs.length →
    laws_eqIntS.L0 fuel n (laws_eqIntS.t0 xs ys (j : Int)) (laws_eqIntS.k0 fuel) = some ([.one (.bool (decide (xs.drop j = ys.drop j)), false)], []) := by
  intro m
  induction m with
  | zero =>
    intro n j h1 h2 h3
    obtain ⟨n, rfl⟩ : ∃ n', n = n' + 1 := ⟨n - 1, by omega⟩
    have hj : ¬ j < xs.length := by omega
    rw [laws_eqIntS.s0, dge hj, dropE hj, dropE (xs := ys) (by omega)]
    rfl
  | succ m ih =>
    intro n j h1 h2 h3
    obtain ⟨n, rfl⟩ : ∃ n', n = n' + 1 := ⟨n - 1, by omega⟩
    have hj : j < xs.length := by omega
    have hj2 : j < ys.length := by omega
    rw [laws_eqIntS.s0, dlt hj, idx_nat hj, idx_nat hj2, w1 (by omega), dropS hj, dropS hj2]
    simp only [cond_true, Option.bind_some, getS hj, getS hj2]
    rw [ih n (j + 1) (by omega) (by omega) (by omega)]
    by_cases hv : xs[j] = ys[j]
    · rw [hv]
      simp only [bne_self_eq_false, cond_false, List.cons.injEq, true_and]
    · have : (xs[j] != ys[j]) = true := by simp [hv]
      rw [this]
      simp only [cond_true, List.cons.injEq, hv, false_and, decide_false]

theorem laws_eqIntS.ok : CallSpec Try.prog laws_eqIntS.E := laws_eqIntS.ok_of (by simp [laws_eqIntS.X]) fun xs ys h => by
  simp only [Bool.and_eq_true, decide_eq_true_eq] at h
  refine ⟨xs.length + 1, ?_⟩
  rw [laws_eqIntS.e]
  by_cases hl : xs.length = ys.length
  · have := laws_eqIntS.loop (xs.length + 1) xs ys hl h.1 xs.length (xs.length + 1) 0 (by omega) (by omega) (by omega)
    simp only [List.drop_zero] at this
    simp only [hl, bne_self_eq_false, cond_false]
    rw [← hl]
    exact this
  · have hne : xs ≠ ys := fun e => hl (e ▸ rfl)
    have : (((xs.length : Nat) : Int) != ((ys.length : Nat) : Int)) = true := by simp; omega
    rw [this]
    simp [hne]

namespace laws_markIntS
noncomputable def E : Entry := ⟨13, false, true, fun | [.rows true [(.i64, xs)], .d (.int .i64 k)] => decide (xs.length < 9223372036854775808) | _ => false, fun | [.rows true [(.i64, xs)], .d (.int .i64 k)] => ([.one ((.int .i64 (markK xs k)), false)], [[(.ints .i64 (markL xs k))]]) | _ => ([], []), fun _ => [], false, fun _ => none⟩
end laws_markIntS
namespace laws_markIntS
noncomputable def X : List Entry := []
noncomputable def I : List Inl := [⟨13, Try.f13, ⟨[], [(1000002, [2, 3, 4, 6, 7, 8, 9, 10, 11, 12, 13, 14, 15, 16, 17, 18])], [], [], [], []⟩⟩]
theorem I_ok : ∀ i ∈ I, Try.prog.funcs[i.f]? = some i.fn ∧ (i.fn.name == "runtime.NumGoroutine") = false := by
  intro i hi
  simp only [I, List.mem_cons, List.not_mem_nil, or_false] at hi
  subst hi
  exact ⟨by kernel_rfl, by kernel_rfl⟩
noncomputable abbrev L0 (fuel n : Nat) (s : St) (k : Kont) := lAt Try.prog X I fuel false 0 false 13 (bodyOf Try.f13) [1, 0, 1, 0] n s k
noncomputable abbrev k0  (fuel : Nat) : Kont := (kAt Try.prog X I fuel false 0 false 13 (bodyOf Try.f13) [1, 0, 1, 0] [] (endK Try.prog Try.f13))
noncomputable def t0 (x0q0 : Int) (x0q1 : Int) (x0q2 : List Int) : St := ⟨[(.all 1000000000 1), (.imm (.int .i64 x0q0)), .dead, .dead, .dead, (.imm (.int .i64 x0q1)), .dead, .dead, .dead, .dead, .dead, .dead, .dead, .dead, .dead, .dead, .dead, .dead, .dead], hOf [(1000000000, (.ints .i64 x0q2))], [(.all 1000000000 1)], []⟩
theorem e (fuel : Nat) (p0 : List Int) (p1 : Int) : runF Try.prog X I 0 fuel 13 Try.f13 [.rows true [(.i64, p0)], .d (.int .i64 p1)] =
  L0 fuel fuel (t0 p1 0 p0) (k0  fuel) := by kernel_rfl
theorem s0 (fuel n0 : Nat) (x0q0 : Int) (x0q1 : Int) (x0q2 : List Int) : L0 fuel (n0 + 1) (t0 x0q0 x0q1 x0q2) (k0  fuel) =
  (bif (decide ((x0q1 : Int) < ((x0q2.length : Nat) : Int))) then
  (idx x0q1 x0q2.length).bind fun j3 =>
  (bif decide (j3 < x0q2.length) then
  L0 fuel n0 (t0 ((IntKind.wrap .i64 (x0q0 + 1))) ((IntKind.wrap .i64 (x0q1 + 1))) ((x0q2.set j3 x0q0))) (k0  fuel)
  else
  none)
  else
  some ([.one ((.int .i64 x0q0), false)], [[(.ints .i64 x0q2)]])) := by kernel_rfl
end laws_markIntS
theorem laws_markIntS.ok_of (hX : ∀ E ∈ laws_markIntS.X, CallSpec Try.prog E) (h : ∀ (xs : List Int) (k : Int), (decide (xs.length < 9223372036854775808)) = true → ∃ fuel, runF Try.prog laws_markIntS.X laws_markIntS.I 0 fuel 13 Try.f13 [.rows true [(.i64, xs)], .d (.int .i64 k)] = some ([.one ((.int .i64 (markK xs k)), false)], [[(.ints .i64 (markL xs k))]])) : CallSpec Try.prog laws_markIntS.E :=
  callSpec_of (d := 0) hX (by kernel_rfl) laws_markIntS.I_ok (by kernel_rfl) (by kernel_rfl) (by kernel_rfl) (fun _ _ _ _ h => by dsimp only [laws_markIntS.E] at h; cases h) (fun xs hp => by
    dsimp only [laws_markIntS.E] at hp ⊢
    split at hp
    · exact h _ _ hp
    · cases hp)
theorem laws_markIntS.loop (fuel : Nat) : ∀ (m n j : Nat) (k : Int) (xs : List Int), xs.length < 9223372036854775808 → xs.length - j = m → m < n → j ≤ xs.length →
    laws_markIntS.L0 fuel n (laws_markIntS.t0 k (j : Int) xs) (laws_markIntS.k0 fuel) = some ([.one (.int .i64 (markK (xs.drop j) k), false)], [[.ints .i64 (xs.take j ++ markL (xs.drop j) k)]]) := by
  intro m
  induction m with
  | zero =>
    intro n j k xs hx h1 h2 h3
    obtain ⟨n, rfl⟩ : ∃ n', n = n' + 1 := ⟨n - 1, by omega⟩
    have hj : ¬ j < xs.length := by omega
    have : xs.take j = xs := List.take_of_length_le (by omega)
    rw [laws_markIntS.s0, dge hj, dropE hj, this]
    simp [markL, markK]
  | succ m ih =>
    intro n j k xs hx h1 h2 h3
    obtain ⟨n, rfl⟩ : ∃ n', n = n' + 1 := ⟨n - 1, by omega⟩
    have hj : j < xs.length := by omega
    rw [laws_markIntS.s0, dlt hj, idx_nat hj, w1 (by omega), dropS hj]
    simp only [cond_true, Option.bind_some, hj, decide_true]
    rw [ih n (j + 1) _ (xs.set j k) (by simpa using hx) (by simp; omega) (by omega) (by simp; omega)]
    have e1 : (xs.set j k).drop (j + 1) = xs.drop (j + 1) := by simp [List.drop_set]
    have e2 : (xs.set j k).take (j + 1) = xs.take j ++ [k] := by
      rw [List.take_add_one]
      simp [List.take_set, hj]
      exact List.set_eq_of_length_le (by simp; omega)
    rw [e1, e2]
    simp [markL, markK]

theorem laws_markIntS.ok : CallSpec Try.prog laws_markIntS.E := laws_markIntS.ok_of (by simp [laws_markIntS.X]) fun xs k h => by
  simp only [decide_eq_true_eq] at h
  refine ⟨xs.length + 1, ?_⟩
  rw [laws_markIntS.e]
  have := laws_markIntS.loop (xs.length + 1) xs.length (xs.length + 1) 0 k xs h (by omega) (by omega) (by omega)
  simpa using this

namespace laws_heldIntS
noncomputable def E : Entry := ⟨14, true, false, fun | [.d (.ints .i64 xs), .d (.int .i64 k)] => decide (xs.length < 9223372036854775808) | _ => false, fun | [.d (.ints .i64 xs), .d (.int .i64 k)] => ([.one ((.int .i64 (heldL xs k)), false)], []) | _ => ([], []), fun _ => [], false, fun _ => none⟩
end laws_heldIntS
namespace laws_heldIntS
noncomputable def X : List Entry := []
noncomputable def I : List Inl := [⟨14, Try.f14, ⟨[], [(1000002, [2, 3, 4, 6, 7, 8, 9, 10, 11, 12, 13, 14, 15, 16, 17, 18, 19, 20])], [], [], [], []⟩⟩]
theorem I_ok : ∀ i ∈ I, Try.prog.funcs[i.f]? = some i.fn ∧ (i.fn.name == "runtime.NumGoroutine") = false := by
  intro i hi
  simp only [I, List.mem_cons, List.not_mem_nil, or_false] at hi
  subst hi
  exact ⟨by kernel_rfl, by kernel_rfl⟩
noncomputable abbrev L0 (fuel n : Nat) (s : St) (k : Kont) := lAt Try.prog X I fuel true 0 false 14 (bodyOf Try.f14) [1, 0, 1, 0] n s k
noncomputable abbrev k0  (fuel : Nat) : Kont := (kAt Try.prog X I fuel true 0 false 14 (bodyOf Try.f14) [1, 0, 1, 0] [] (endK Try.prog Try.f14))
noncomputable def t0 (p0 : List Int) (x0q1 : Int) (x0q2 : Int) : St := ⟨[(.imm (.ints .i64 p0)), (.imm (.int .i64 x0q1)), .dead, .dead, .dead, (.imm (.int .i64 x0q2)), .dead, .dead, .dead, .dead, .dead, .dead, .dead, .dead, .dead, .dead, .dead, .dead, .dead, .dead, .dead], hOf [], [], []⟩
theorem e (fuel : Nat) (p0 : List Int) (p1 : Int) : runF Try.prog X I 0 fuel 14 Try.f14 [.d (.ints .i64 p0), .d (.int .i64 p1)] =
  L0 fuel fuel (t0 p0 p1 0) (k0  fuel) := by kernel_rfl
theorem s0 (fuel n0 : Nat) (p0 : List Int) (x0q1 : Int) (x0q2 : Int) : L0 fuel (n0 + 1) (t0 p0 x0q1 x0q2) (k0  fuel) =
  (bif (decide ((x0q2 : Int) < ((p0.length : Nat) : Int))) then
  (idx x0q2 p0.length).bind fun j5 =>
  (p0[j5]?).bind fun v6 =>
  (bif ((v6 : Int) != x0q1) then
  some ([.one ((.int .i64 (-1)), false)], [])
  else
  L0 fuel n0 (t0 p0 ((IntKind.wrap .i64 (x0q1 + 1))) ((IntKind.wrap .i64 (x0q2 + 1)))) (k0  fuel))
  else
  some ([.one ((.int .i64 x0q1), false)], [])) := by kernel_rfl
end laws_heldIntS
theorem laws_heldIntS.ok_of (hX : ∀ E ∈ laws_heldIntS.X, CallSpec Try.prog E) (h : ∀ (xs : List Int) (k : Int), (decide (xs.length < 9223372036854775808)) = true → ∃ fuel, runF Try.prog laws_heldIntS.X laws_heldIntS.I 0 fuel 14 Try.f14 [.d (.ints .i64 xs), .d (.int .i64 k)] = some ([.one ((.int .i64 (heldL xs k)), false)], [])) : CallSpec Try.prog laws_heldIntS.E :=
  callSpec_of (d := 0) hX (by kernel_rfl) laws_heldIntS.I_ok (by kernel_rfl) (by kernel_rfl) (by kernel_rfl) (fun _ _ _ _ h => by dsimp only [laws_heldIntS.E] at h; cases h) (fun xs hp => by
    dsimp only [laws_heldIntS.E] at hp ⊢
    split at hp
    · exact h _ _ hp
    · cases hp)
theorem laws_heldIntS.loop (fuel : Nat) (xs : List Int) (hx : xs.length < 9223372036854775808) : ∀ (m n j : Nat) (k : Int), xs.length - j = m → m < n → j ≤ xs.length →
    laws_heldIntS.L0 fuel n (laws_heldIntS.t0 xs k (j : Int)) (laws_heldIntS.k0 fuel) = some ([.one (.int .i64 (heldL (xs.drop j) k), false)], []) := by
  intro m
  induction m with
  | zero =>
    intro n j k h1 h2 h3
    obtain ⟨n, rfl⟩ : ∃ n', n = n' + 1 := ⟨n - 1, by omega⟩
    have hj : ¬ j < xs.length := by omega
    rw [laws_heldIntS.s0, dge hj, dropE hj]
    rfl
  | succ m ih =>
    intro n j k h1 h2 h3
    obtain ⟨n, rfl⟩ : ∃ n', n = n' + 1 := ⟨n - 1, by omega⟩
    have hj : j < xs.length := by omega
    rw [laws_heldIntS.s0, dlt hj, idx_nat hj, w1 (by omega), dropS hj]
    simp only [cond_true, Option.bind_some, getS hj, heldL]
    rw [ih n (j + 1) _ (by omega) (by omega) (by omega)]
    cases (xs[j] != k) <;> rfl

theorem laws_heldIntS.ok : CallSpec Try.prog laws_heldIntS.E := laws_heldIntS.ok_of (by simp [laws_heldIntS.X]) fun xs k h => by
  simp only [decide_eq_true_eq] at h
  refine ⟨xs.length + 1, ?_⟩
  rw [laws_heldIntS.e]
  exact laws_heldIntS.loop (xs.length + 1) xs h xs.length (xs.length + 1) 0 k (by omega) (by omega) (by omega)

namespace laws_FnExactEncodeNum
noncomputable def E : Entry := ⟨3, true, false, fun | [.d (.ints .i64 xs), .d (.int .i64 n)] => decide (xs.length < 9223372036854775808) | _ => false, fun | [.d (.ints .i64 xs), .d (.int .i64 n)] => ([.one ((.bool true), false)], []) | _ => ([], []), fun _ => [], false, fun _ => none⟩
end laws_FnExactEncodeNum
namespace laws_FnExactEncodeNum
noncomputable def X : List Entry := [laws_toIntS.E, spec_EncodeNum.E, impl_EncodeNum.E, laws_eqIntS.E, laws_markIntS.E, laws_heldIntS.E]
noncomputable def I : List Inl := [⟨3, Try.f3, ⟨[16, 18, 20, 23, 30, 56, 58], [], [], [], [], []⟩⟩]
theorem I_ok : ∀ i ∈ I, Try.prog.funcs[i.f]? = some i.fn ∧ (i.fn.name == "runtime.NumGoroutine") = false := by
  intro i hi
  simp only [I, List.mem_cons, List.not_mem_nil, or_false] at hi
  subst hi
  exact ⟨by kernel_rfl, by kernel_rfl⟩
theorem e (fuel : Nat) (p0 : List Int) (p1 : Int) : runF Try.prog X I 0 fuel 3 Try.f3 [.d (.ints .i64 p0), .d (.int .i64 p1)] =
  (bif (decide ((((p0.length : Nat) : Int) : Int) > 1048576)) then
  some ([.one ((.bool true), false)], [])
  else
  (bif szB p0 then
  (bif decide (p0.length < 9223372036854775808) then
  (bif szB p0 then
  (bif decide (p0.length < 9223372036854775808) then
  (bif decide (((enD p0 p1)).length < 9223372036854775808) && decide (((enD p0 p1)).length < 9223372036854775808) then
  (bif (!(decide (((enD p0 p1)) = ((enD p0 p1))))) then
  some ([.one ((.bool false), false)], [])
  else
  (bif szB p0 then
  (bif decide (p0.length < 9223372036854775808) && decide (p0.length < 9223372036854775808) then
  (bif (!(decide (p0 = p0))) then
  some ([.one ((.bool false), false)], [])
  else
  (bif decide (p0.length < 9223372036854775808) then
  (bif (decide (((markK p0 1) : Int) < 0)) then
  some ([.one ((.bool false), false)], [])
  else
  (bif decide (((enD p0 p1)).length < 9223372036854775808) && decide (((enD p0 p1)).length < 9223372036854775808) then
  (bif (!(decide (((enD p0 p1)) = ((enD p0 p1))))) then
  some ([.one ((.bool false), false)], [])
  else
  (bif decide (((enD p0 p1)).length < 9223372036854775808) then
  (bif decide (((markL ((enD p0 p1)) 1)).length < 9223372036854775808) then
  (bif (decide (((heldL ((markL ((enD p0 p1)) 1)) 1) : Int) < 0)) then
  some ([.one ((.bool false), false)], [])
  else
  (bif (((heldL ((markL ((enD p0 p1)) 1)) 1) : Int) != (markK ((enD p0 p1)) 1)) then
  some ([.one ((.bool false), false)], [])
  else
  (bif szB p0 then
  (bif decide (p0.length < 9223372036854775808) then
  (bif decide (((enD p0 p1)).length < 9223372036854775808) && decide (((enD p0 p1)).length < 9223372036854775808) then
  (bif (!(decide (((enD p0 p1)) = ((enD p0 p1))))) then
  some ([.one ((.bool false), false)], [])
  else
  (bif decide (((markL ((enD p0 p1)) 1)).length < 9223372036854775808) then
  (bif (decide (((heldL ((markL ((enD p0 p1)) 1)) 1) : Int) < 0)) then
  some ([.one ((.bool false), false)], [])
  else
  (bif (((heldL ((markL ((enD p0 p1)) 1)) 1) : Int) != (markK ((enD p0 p1)) 1)) then
  some ([.one ((.bool false), false)], [])
  else
  some ([.one ((.bool true), false)], [])))
  else
  none))
  else
  none)
  else
  none)
  else
  none)))
  else
  none)
  else
  none))
  else
  none))
  else
  none))
  else
  none)
  else
  none))
  else
  none)
  else
  none)
  else
  none)
  else
  none)
  else
  none)) := by kernel_rfl
end laws_FnExactEncodeNum
theorem laws_FnExactEncodeNum.ok_of (hX : ∀ E ∈ laws_FnExactEncodeNum.X, CallSpec Try.prog E) (h : ∀ (xs : List Int) (n : Int), (decide (xs.length < 9223372036854775808)) = true → ∃ fuel, runF Try.prog laws_FnExactEncodeNum.X laws_FnExactEncodeNum.I 0 fuel 3 Try.f3 [.d (.ints .i64 xs), .d (.int .i64 n)] = some ([.one ((.bool true), false)], [])) : CallSpec Try.prog laws_FnExactEncodeNum.E :=
  callSpec_of (d := 0) hX (by kernel_rfl) laws_FnExactEncodeNum.I_ok (by kernel_rfl) (by kernel_rfl) (by kernel_rfl) (fun _ _ _ _ h => by dsimp only [laws_FnExactEncodeNum.E] at h; cases h) (fun xs hp => by
    dsimp only [laws_FnExactEncodeNum.E] at hp ⊢
    split at hp
    · exact h _ _ hp
    · cases hp)
theorem laws_FnExactEncodeNum.ok : CallSpec Try.prog laws_FnExactEncodeNum.E := laws_FnExactEncodeNum.ok_of (by simp [laws_FnExactEncodeNum.X, laws_toIntS.ok, spec_EncodeNum.ok, impl_EncodeNum.ok, laws_eqIntS.ok, laws_markIntS.ok, laws_heldIntS.ok]) fun xs n h => ⟨0, by
  rw [laws_FnExactEncodeNum.e]
  have g0 := h
  by_cases l0 : (((xs.length : Nat) : Int) > 1048576)
  · rw [decide_eq_true l0]; rfl
  have z0 := szB_of (xs := xs) (by omega)
  have hl := en_len xs n
  obtain ⟨r0a, r0b, r0c, r0d⟩ := marksL_ok (xs := (enD xs n)) (by omega)
  have mk := mark1_ok (xs := xs) (by omega)
  simp only [decide_eq_false l0, g0, z0, r0a, r0b, r0c, r0d, mk, bne_self_eq_false, beq_self_eq_true, decide_true, Bool.and_self, Bool.not_true, cond_true, cond_false]⟩

namespace spec_isPlace
noncomputable def E : Entry := ⟨36, true, false, fun | [.d (.ints .i64 sh), .d (.ints .i64 pl)] => decide (sh.length < 9223372036854775808) && decide (pl.length < 9223372036854775808) | _ => false, fun | [.d (.ints .i64 sh), .d (.ints .i64 pl)] => ([.one ((.bool (isPl sh pl)), false)], []) | _ => ([], []), fun _ => [], false, fun _ => none⟩
end spec_isPlace
namespace spec_isPlace
noncomputable def X : List Entry := [spec_inRange.E]
noncomputable def I : List Inl := [⟨36, Try.f36, ⟨[], [(1000004, [2, 3, 4, 6, 7, 8, 9, 10, 11, 12, 13, 14, 15, 16, 17, 18, 19, 20, 21, 22, 23, 24, 25, 26, 27])], [], [(6, [0, 1, 4, 5, 2, 3, 6, 7, 8, 9, 10])], [], []⟩⟩]
theorem I_ok : ∀ i ∈ I, Try.prog.funcs[i.f]? = some i.fn ∧ (i.fn.name == "runtime.NumGoroutine") = false := by
  intro i hi
  simp only [I, List.mem_cons, List.not_mem_nil, or_false] at hi
  subst hi
  exact ⟨by kernel_rfl, by kernel_rfl⟩
noncomputable abbrev L0 (fuel n : Nat) (s : St) (k : Kont) := lAt Try.prog X I fuel true 0 false 36 (bodyOf Try.f36) [1, 1, 0, 1, 0] n s k
noncomputable abbrev k0  (fuel : Nat) : Kont := (kAt Try.prog X I fuel true 0 false 36 (bodyOf Try.f36) [1, 1, 0, 1, 0] [] (endK Try.prog Try.f36))
noncomputable def t0 (p0 : List Int) (p1 : List Int) (x0q2 : Int) : St := ⟨[(.imm (.ints .i64 p0)), (.imm (.ints .i64 p1)), .dead, .dead, .dead, (.imm (.int .i64 x0q2)), .dead, .dead, .dead, .dead, .dead, .dead, .dead, .dead, .dead, .dead, .dead, .dead, .dead, .dead, .dead, .dead, .dead, .dead, .dead, .dead, .dead, .dead], hOf [], [], []⟩
theorem e (fuel : Nat) (p0 : List Int) (p1 : List Int) : runF Try.prog X I 0 fuel 36 Try.f36 [.d (.ints .i64 p0), .d (.ints .i64 p1)] =
  (bif ((((p1.length : Nat) : Int) : Int) != ((p0.length : Nat) : Int)) then
  some ([.one ((.bool false), false)], [])
  else
  L0 fuel fuel (t0 p0 p1 0) (k0  fuel)) := by kernel_rfl
theorem s0 (fuel n0 : Nat) (p0 : List Int) (p1 : List Int) (x0q2 : Int) : L0 fuel (n0 + 1) (t0 p0 p1 x0q2) (k0  fuel) =
  (bif (decide ((x0q2 : Int) < ((p0.length : Nat) : Int))) then
  (idx x0q2 p1.length).bind fun j9 =>
  (p1[j9]?).bind fun v10 =>
  (idx x0q2 p0.length).bind fun j11 =>
  (p0[j11]?).bind fun v12 =>
  (bif (!(decide (0 ≤ v10) && decide (v10 ≤ ((IntKind.wrap .i64 (v12 - 1)))))) then
  some ([.one ((.bool false), false)], [])
  else
  L0 fuel n0 (t0 p0 p1 ((IntKind.wrap .i64 (x0q2 + 1)))) (k0  fuel))
  else
  some ([.one ((.bool true), false)], [])) := by kernel_rfl
end spec_isPlace
theorem spec_isPlace.ok_of (hX : ∀ E ∈ spec_isPlace.X, CallSpec Try.prog E) (h : ∀ (sh : List Int) (pl : List Int), (decide (sh.length < 9223372036854775808) && decide (pl.length < 9223372036854775808)) = true → ∃ fuel, runF Try.prog spec_isPlace.X spec_isPlace.I 0 fuel 36 Try.f36 [.d (.ints .i64 sh), .d (.ints .i64 pl)] = some ([.one ((.bool (isPl sh pl)), false)], [])) : CallSpec Try.prog spec_isPlace.E :=
  callSpec_of (d := 0) hX (by kernel_rfl) spec_isPlace.I_ok (by kernel_rfl) (by kernel_rfl) (by kernel_rfl) (fun _ _ _ _ h => by dsimp only [spec_isPlace.E] at h; cases h) (fun xs hp => by
    dsimp only [spec_isPlace.E] at hp ⊢
    split at hp
    · exact h _ _ hp
    · cases hp)
theorem spec_isPlace.loop (fuel : Nat) (sh pl : List Int) (hx : sh.length < 9223372036854775808) (hl : pl.length = sh.length) : ∀ (m n j : Nat), sh.length - j = m → m < n → j ≤ sh.length →
    spec_isPlace.L0 fuel n (spec_isPlace.t0 sh pl (j : Int)) (spec_isPlace.k0 fuel) = some ([.one (.bool (isPl (sh.drop j) (pl.drop j)), false)], []) := by
  intro m
  induction m with
  | zero =>
    intro n j h1 h2 h3
    obtain ⟨n, rfl⟩ : ∃ n', n = n' + 1 := ⟨n - 1, by omega⟩
    have hj : ¬ j < sh.length := by omega
    rw [spec_isPlace.s0, dge hj, dropE hj, dropE (xs := pl) (by omega)]
    rfl
  | succ m ih =>
    intro n j h1 h2 h3
    obtain ⟨n, rfl⟩ : ∃ n', n = n' + 1 := ⟨n - 1, by omega⟩
    have hj : j < sh.length := by omega
    have hj2 : j < pl.length := by omega
    rw [spec_isPlace.s0, dlt hj, idx_nat hj, idx_nat hj2, w1 (by omega), dropS hj, dropS hj2]
    simp only [cond_true, Option.bind_some, getS hj, getS hj2, isPl]
    rw [ih n (j + 1) (by omega) (by omega) (by omega)]
    cases decide (0 ≤ pl[j]) && decide (pl[j] ≤ IntKind.wrap .i64 (sh[j] - 1)) <;> rfl

theorem spec_isPlace.ok : CallSpec Try.prog spec_isPlace.E := spec_isPlace.ok_of (by simp [spec_isPlace.X, spec_inRange.ok]) fun sh pl h => by
  simp only [Bool.and_eq_true, decide_eq_true_eq] at h
  refine ⟨sh.length + 1, ?_⟩
  rw [spec_isPlace.e]
  by_cases hl : pl.length = sh.length
  · have := spec_isPlace.loop (sh.length + 1) sh pl h.1 hl sh.length (sh.length + 1) 0 (by omega) (by omega) (by omega)
    simp only [hl, bne_self_eq_false, cond_false]
    exact this
  · rw [isPl_ne hl]
    have : (((pl.length : Nat) : Int) != ((sh.length : Nat) : Int)) = true := by simp; omega
    rw [this]
    rfl

namespace spec_offset
noncomputable def E : Entry := ⟨37, true, false, fun | [.d (.ints .i64 sh), .d (.ints .i64 pl)] => decide (sh.length < 9223372036854775808) && decide (pl.length < 9223372036854775808) && decide (sh.length ≤ pl.length) | _ => false, fun | [.d (.ints .i64 sh), .d (.ints .i64 pl)] => ([.one ((.int .i64 (offW sh pl 0)), false)], []) | _ => ([], []), fun _ => [], false, fun _ => none⟩
end spec_offset
namespace spec_offset
noncomputable def X : List Entry := []
noncomputable def I : List Inl := [⟨37, Try.f37, ⟨[], [(1000003, [2, 3, 4, 7, 8, 9, 10, 11, 12, 13, 14, 15, 16, 17, 18, 19, 20, 21, 22, 23, 24])], [], [(5, [0, 1, 2, 6, 7, 3, 4, 5, 8, 9, 10, 11])], [], []⟩⟩]
theorem I_ok : ∀ i ∈ I, Try.prog.funcs[i.f]? = some i.fn ∧ (i.fn.name == "runtime.NumGoroutine") = false := by
  intro i hi
  simp only [I, List.mem_cons, List.not_mem_nil, or_false] at hi
  subst hi
  exact ⟨by kernel_rfl, by kernel_rfl⟩
noncomputable abbrev L0 (fuel n : Nat) (s : St) (k : Kont) := lAt Try.prog X I fuel true 0 false 37 (bodyOf Try.f37) [1, 1, 0, 1, 0] n s k
noncomputable abbrev k0  (fuel : Nat) : Kont := (kAt Try.prog X I fuel true 0 false 37 (bodyOf Try.f37) [1, 1, 0, 1, 0] [] (endK Try.prog Try.f37))
noncomputable def t0 (p0 : List Int) (p1 : List Int) (x0q2 : Int) (x0q3 : Int) : St := ⟨[(.imm (.ints .i64 p0)), (.imm (.ints .i64 p1)), .dead, .dead, .dead, (.imm (.int .i64 x0q2)), (.imm (.int .i64 x0q3)), .dead, .dead, .dead, .dead, .dead, .dead, .dead, .dead, .dead, .dead, .dead, .dead, .dead, .dead, .dead, .dead, .dead, .dead], hOf [], [], []⟩
theorem e (fuel : Nat) (p0 : List Int) (p1 : List Int) : runF Try.prog X I 0 fuel 37 Try.f37 [.d (.ints .i64 p0), .d (.ints .i64 p1)] =
  L0 fuel fuel (t0 p0 p1 0 0) (k0  fuel) := by kernel_rfl
theorem s0 (fuel n0 : Nat) (p0 : List Int) (p1 : List Int) (x0q2 : Int) (x0q3 : Int) : L0 fuel (n0 + 1) (t0 p0 p1 x0q2 x0q3) (k0  fuel) =
  (bif (decide ((x0q3 : Int) < ((p0.length : Nat) : Int))) then
  (idx x0q3 p0.length).bind fun j9 =>
  (p0[j9]?).bind fun v10 =>
  (idx x0q3 p1.length).bind fun j11 =>
  (p1[j11]?).bind fun v12 =>
  L0 fuel n0 (t0 p0 p1 ((IntKind.wrap .i64 ((IntKind.wrap .i64 (x0q2 * v10)) + v12))) ((IntKind.wrap .i64 (x0q3 + 1)))) (k0  fuel)
  else
  some ([.one ((.int .i64 x0q2), false)], [])) := by kernel_rfl
end spec_offset
theorem spec_offset.ok_of (hX : ∀ E ∈ spec_offset.X, CallSpec Try.prog E) (h : ∀ (sh : List Int) (pl : List Int), (decide (sh.length < 9223372036854775808) && decide (pl.length < 9223372036854775808) && decide (sh.length ≤ pl.length)) = true → ∃ fuel, runF Try.prog spec_offset.X spec_offset.I 0 fuel 37 Try.f37 [.d (.ints .i64 sh), .d (.ints .i64 pl)] = some ([.one ((.int .i64 (offW sh pl 0)), false)], [])) : CallSpec Try.prog spec_offset.E :=
  callSpec_of (d := 0) hX (by kernel_rfl) spec_offset.I_ok (by kernel_rfl) (by kernel_rfl) (by kernel_rfl) (fun _ _ _ _ h => by dsimp only [spec_offset.E] at h; cases h) (fun xs hp => by
    dsimp only [spec_offset.E] at hp ⊢
    split at hp
    · exact h _ _ hp
    · cases hp)
theorem spec_offset.loop (fuel : Nat) (sh pl : List Int) (hx : sh.length < 9223372036854775808) (hl : sh.length ≤ pl.length) : ∀ (m n j : Nat) (a : Int), sh.length - j = m → m < n → j ≤ sh.length →
    spec_offset.L0 fuel n (spec_offset.t0 sh pl a (j : Int)) (spec_offset.k0 fuel) = some ([.one (.int .i64 (offW (sh.drop j) (pl.drop j) a), false)], []) := by
  intro m
  induction m with
  | zero =>
    intro n j a h1 h2 h3
    obtain ⟨n, rfl⟩ : ∃ n', n = n' + 1 := ⟨n - 1, by omega⟩
    have hj : ¬ j < sh.length := by omega
    rw [spec_offset.s0, dge hj, dropE hj]
    rfl
  | succ m ih =>
    intro n j a h1 h2 h3
    obtain ⟨n, rfl⟩ : ∃ n', n = n' + 1 := ⟨n - 1, by omega⟩
    have hj : j < sh.length := by omega
    have hj2 : j < pl.length := by omega
    rw [spec_offset.s0, dlt hj, idx_nat hj, idx_nat hj2, w1 (by omega), dropS hj, dropS hj2]
    simp only [cond_true, Option.bind_some, getS hj, getS hj2, offW]
    exact ih n (j + 1) _ (by omega) (by omega) (by omega)

theorem spec_offset.ok : CallSpec Try.prog spec_offset.E := spec_offset.ok_of (by simp [spec_offset.X]) fun sh pl h => by
  simp only [Bool.and_eq_true, decide_eq_true_eq] at h
  refine ⟨sh.length + 1, ?_⟩
  rw [spec_offset.e]
  exact spec_offset.loop (sh.length + 1) sh pl h.1.1 h.2 sh.length (sh.length + 1) 0 0 (by omega) (by omega) (by omega)

namespace spec_DecodeNum
noncomputable def E : Entry := ⟨15, true, false, fun | [.d (.ints .i64 xs), .d (.ints .i64 ds)] => decide (xs.length < 9223372036854775808) && decide (ds.length < 9223372036854775808) | _ => false, fun | [.d (.ints .i64 xs), .d (.ints .i64 ds)] => ([.one ((.int .i64 (deV xs ds)), false)], []) | _ => ([], []), fun _ => [], false, fun _ => none⟩
end spec_DecodeNum
namespace spec_DecodeNum
noncomputable def X : List Entry := [spec_validBases.E, spec_isPlace.E, spec_offset.E]
noncomputable def I : List Inl := [⟨15, Try.f15, ⟨[], [], [], [], [], []⟩⟩]
theorem I_ok : ∀ i ∈ I, Try.prog.funcs[i.f]? = some i.fn ∧ (i.fn.name == "runtime.NumGoroutine") = false := by
  intro i hi
  simp only [I, List.mem_cons, List.not_mem_nil, or_false] at hi
  subst hi
  exact ⟨by kernel_rfl, by kernel_rfl⟩
theorem e (fuel : Nat) (p0 : List Int) (p1 : List Int) : runF Try.prog X I 0 fuel 15 Try.f15 [.d (.ints .i64 p0), .d (.ints .i64 p1)] =
  (bif decide (p0.length < 9223372036854775808) then
  (bif (!(bsB p0)) then
  some ([.one ((.int .i64 (-1)), false)], [])
  else
  (bif decide (p0.length < 9223372036854775808) && decide (p1.length < 9223372036854775808) then
  (bif (!(isPl p0 p1)) then
  some ([.one ((.int .i64 (-1)), false)], [])
  else
  (bif decide (p0.length < 9223372036854775808) && decide (p1.length < 9223372036854775808) && decide (p0.length ≤ p1.length) then
  some ([.one ((.int .i64 (offW p0 p1 0)), false)], [])
  else
  none))
  else
  none))
  else
  none) := by kernel_rfl
end spec_DecodeNum
theorem spec_DecodeNum.ok_of (hX : ∀ E ∈ spec_DecodeNum.X, CallSpec Try.prog E) (h : ∀ (xs : List Int) (ds : List Int), (decide (xs.length < 9223372036854775808) && decide (ds.length < 9223372036854775808)) = true → ∃ fuel, runF Try.prog spec_DecodeNum.X spec_DecodeNum.I 0 fuel 15 Try.f15 [.d (.ints .i64 xs), .d (.ints .i64 ds)] = some ([.one ((.int .i64 (deV xs ds)), false)], [])) : CallSpec Try.prog spec_DecodeNum.E :=
  callSpec_of (d := 0) hX (by kernel_rfl) spec_DecodeNum.I_ok (by kernel_rfl) (by kernel_rfl) (by kernel_rfl) (fun _ _ _ _ h => by dsimp only [spec_DecodeNum.E] at h; cases h) (fun xs hp => by
    dsimp only [spec_DecodeNum.E] at hp ⊢
    split at hp
    · exact h _ _ hp
    · cases hp)
theorem spec_DecodeNum.ok : CallSpec Try.prog spec_DecodeNum.E := spec_DecodeNum.ok_of (by simp [spec_DecodeNum.X, spec_validBases.ok, spec_isPlace.ok, spec_offset.ok]) fun xs ds h => ⟨0, by
  simp only [Bool.and_eq_true] at h
  rw [spec_DecodeNum.e, h.1, h.2]
  unfold deV deB
  cases hb : bsB xs with
  | false => rfl
  | true =>
    cases hp : isPl xs ds with
    | false => rfl
    | true =>
      rw [decide_eq_true (p := xs.length ≤ ds.length) (by rw [isPl_len hp]; omega)]
      rfl⟩

namespace impl_DecodeNum
noncomputable def E : Entry := ⟨16, true, false, fun | [.d (.ints .i64 xs), .d (.ints .i64 ds)] => decide (xs.length < 9223372036854775808) && decide (ds.length < 9223372036854775808) | _ => false, fun | [.d (.ints .i64 xs), .d (.ints .i64 ds)] => ([.one ((.int .i64 (deV xs ds)), false)], []) | _ => ([], []), fun _ => [], false, fun _ => none⟩
end impl_DecodeNum
namespace impl_DecodeNum
noncomputable def X : List Entry := [impl_countWith.E]
noncomputable def I : List Inl := [⟨16, Try.f16, ⟨[], [(1000006, [1, 2, 3, 4, 5, 6, 8, 9, 10, 11, 12, 13, 14, 15, 16, 17, 18, 19, 20, 21, 22, 23, 27, 28, 29, 30, 31, 32, 33, 34, 35, 36, 37, 38, 39, 40, 41, 42, 43, 44, 45, 46, 47, 48, 49, 50])], [], [], [], []⟩⟩]
theorem I_ok : ∀ i ∈ I, Try.prog.funcs[i.f]? = some i.fn ∧ (i.fn.name == "runtime.NumGoroutine") = false := by
  intro i hi
  simp only [I, List.mem_cons, List.not_mem_nil, or_false] at hi
  subst hi
  exact ⟨by kernel_rfl, by kernel_rfl⟩
noncomputable abbrev L0 (fuel n : Nat) (s : St) (k : Kont) := lAt Try.prog X I fuel true 0 false 16 (bodyOf Try.f16) [1, 1, 1, 1, 0, 1, 0] n s k
noncomputable abbrev k0  (fuel : Nat) : Kont := (kAt Try.prog X I fuel true 0 false 16 (bodyOf Try.f16) [1, 1, 1, 1, 0, 1, 0] [] (endK Try.prog Try.f16))
noncomputable def t0 (p0 : List Int) (p1 : List Int) (x0q1 : Int) (x0q4 : Int) : St := ⟨[(.imm (.ints .i64 p0)), .dead, .dead, .dead, .dead, .dead, .dead, (.imm (.int .i64 x0q1)), .dead, .dead, .dead, .dead, .dead, .dead, .dead, .dead, .dead, .dead, .dead, .dead, .dead, .dead, .dead, .dead, (.imm (.ints .i64 p1)), (.imm (.int .i64 ((p1.length : Nat) : Int))), (.imm (.int .i64 x0q4)), .dead, .dead, .dead, .dead, .dead, .dead, .dead, .dead, .dead, .dead, .dead, .dead, .dead, .dead, .dead, .dead, .dead, .dead, .dead, .dead, .dead, .dead, .dead, .dead], hOf [], [], []⟩
theorem e (fuel : Nat) (p0 : List Int) (p1 : List Int) : runF Try.prog X I 0 fuel 16 Try.f16 [.d (.ints .i64 p0), .d (.ints .i64 p1)] =
  (bif decide (p0.length < 9223372036854775808) then
  (bif (!(bsB p0)) then
  some ([.one ((.int .i64 (-1)), false)], [])
  else
  (bif ((((p1.length : Nat) : Int) : Int) != ((p0.length : Nat) : Int)) then
  some ([.one ((.int .i64 (-1)), false)], [])
  else
  L0 fuel fuel (t0 p0 p1 0 0) (k0  fuel)))
  else
  none) := by kernel_rfl
theorem s0 (fuel n0 : Nat) (p0 : List Int) (p1 : List Int) (x0q1 : Int) (x0q4 : Int) : L0 fuel (n0 + 1) (t0 p0 p1 x0q1 x0q4) (k0  fuel) =
  (bif (decide ((x0q4 : Int) < ((p1.length : Nat) : Int))) then
  (idx x0q4 p1.length).bind fun j13 =>
  (p1[j13]?).bind fun v14 =>
  (bif (decide ((v14 : Int) < 0)) then
  some ([.one ((.int .i64 (-1)), false)], [])
  else
  (idx x0q4 p0.length).bind fun j15 =>
  (p0[j15]?).bind fun v16 =>
  (bif (decide ((v14 : Int) ≥ v16)) then
  some ([.one ((.int .i64 (-1)), false)], [])
  else
  (idx x0q4 p0.length).bind fun j17 =>
  (p0[j17]?).bind fun v18 =>
  L0 fuel n0 (t0 p0 p1 ((IntKind.wrap .i64 ((IntKind.wrap .i64 (x0q1 * v18)) + v14))) ((IntKind.wrap .i64 (x0q4 + 1)))) (k0  fuel)))
  else
  some ([.one ((.int .i64 x0q1), false)], [])) := by kernel_rfl
end impl_DecodeNum
theorem impl_DecodeNum.ok_of (hX : ∀ E ∈ impl_DecodeNum.X, CallSpec Try.prog E) (h : ∀ (xs : List Int) (ds : List Int), (decide (xs.length < 9223372036854775808) && decide (ds.length < 9223372036854775808)) = true → ∃ fuel, runF Try.prog impl_DecodeNum.X impl_DecodeNum.I 0 fuel 16 Try.f16 [.d (.ints .i64 xs), .d (.ints .i64 ds)] = some ([.one ((.int .i64 (deV xs ds)), false)], [])) : CallSpec Try.prog impl_DecodeNum.E :=
  callSpec_of (d := 0) hX (by kernel_rfl) impl_DecodeNum.I_ok (by kernel_rfl) (by kernel_rfl) (by kernel_rfl) (fun _ _ _ _ h => by dsimp only [impl_DecodeNum.E] at h; cases h) (fun xs hp => by
    dsimp only [impl_DecodeNum.E] at hp ⊢
    split at hp
    · exact h _ _ hp
    · cases hp)
theorem impl_DecodeNum.loop (fuel : Nat) (xs ds : List Int) (hp : posB xs = true) (hl : ds.length = xs.length) : ∀ (m n j : Nat) (a : Int), xs.length - j = m → m < n → j ≤ xs.length →
    impl_DecodeNum.L0 fuel n (impl_DecodeNum.t0 xs ds a (j : Int)) (impl_DecodeNum.k0 fuel) = some ([.one (.int .i64 (bif isPl (xs.drop j) (ds.drop j) then offW (xs.drop j) (ds.drop j) a else -1), false)], []) := by
  obtain ⟨hx, hg⟩ := posB_inv hp
  intro m
  induction m with
  | zero =>
    intro n j a h1 h2 h3
    obtain ⟨n, rfl⟩ : ∃ n', n = n' + 1 := ⟨n - 1, by omega⟩
    have hj : ¬ j < xs.length := by omega
    rw [impl_DecodeNum.s0, dge (n := ds.length) (by omega), dropE hj, dropE (xs := ds) (by omega)]
    rfl
  | succ m ih =>
    intro n j a h1 h2 h3
    obtain ⟨n, rfl⟩ : ∃ n', n = n' + 1 := ⟨n - 1, by omega⟩
    have hj : j < xs.length := by omega
    have hj2 : j < ds.length := by omega
    obtain ⟨g1, g2, g3⟩ := hg j hj
    have g4 : xs.getD j 0 = xs[j] := by simp [hj]
    rw [impl_DecodeNum.s0, dlt hj2, idx_nat hj, idx_nat hj2, w1 (by omega), dropS hj, dropS hj2]
    simp only [cond_true, Option.bind_some, getS hj, getS hj2, offW, isPl]
    rw [ih n (j + 1) _ (by omega) (by omega) (by omega), wS (x := xs[j] - 1) (by omega) (by omega)]
    generalize ds[j] = d
    by_cases c1 : 0 ≤ d
    · by_cases c2 : d ≤ xs[j] - 1
      · rw [decide_eq_false (p := d < 0) (by omega), decide_eq_false (p := d ≥ xs[j]) (by omega), decide_eq_true c1, decide_eq_true c2]
        simp only [Bool.true_and, cond_false]
      · rw [decide_eq_false (p := d < 0) (by omega), decide_eq_true (p := d ≥ xs[j]) (by omega), decide_eq_true c1, decide_eq_false c2]
        rfl
    · rw [decide_eq_true (p := d < 0) (by omega), decide_eq_false c1]
      rfl
theorem impl_DecodeNum.ok : CallSpec Try.prog impl_DecodeNum.E := impl_DecodeNum.ok_of (by simp [impl_DecodeNum.X, impl_countWith.ok]) fun xs ds h => ⟨xs.length + 1, by
  simp only [Bool.and_eq_true] at h
  rw [impl_DecodeNum.e, h.1]
  unfold deV deB
  cases hb : bsB xs with
  | false => rfl
  | true =>
    obtain ⟨b1, b2, b3, b4, b5, b6, b7⟩ := bsB_inv hb
    by_cases hl : ds.length = xs.length
    · rw [show (((ds.length : Nat) : Int) != ((xs.length : Nat) : Int)) = false by simp [hl]]
      exact impl_DecodeNum.loop (xs.length + 1) xs ds b7 hl xs.length (xs.length + 1) 0 0 (by omega) (by omega) (by omega)
    · rw [show (((ds.length : Nat) : Int) != ((xs.length : Nat) : Int)) = true by simp; omega, isPl_ne hl]
      rfl⟩

namespace laws_FnExactDecodeNum
noncomputable def E : Entry := ⟨4, true, false, fun | [.d (.ints .i64 xs), .d (.ints .i64 ds)] => decide (xs.length < 9223372036854775808) && decide (ds.length < 9223372036854775808) | _ => false, fun | [.d (.ints .i64 xs), .d (.ints .i64 ds)] => ([.one ((.bool true), false)], []) | _ => ([], []), fun _ => [], false, fun _ => none⟩
end laws_FnExactDecodeNum
namespace laws_FnExactDecodeNum
noncomputable def X : List Entry := [laws_toIntS.E, spec_DecodeNum.E, impl_DecodeNum.E, laws_eqIntS.E]
noncomputable def I : List Inl := [⟨4, Try.f4, ⟨[16, 18, 21, 23, 32, 37], [], [], [], [], []⟩⟩]
theorem I_ok : ∀ i ∈ I, Try.prog.funcs[i.f]? = some i.fn ∧ (i.fn.name == "runtime.NumGoroutine") = false := by
  intro i hi
  simp only [I, List.mem_cons, List.not_mem_nil, or_false] at hi
  subst hi
  exact ⟨by kernel_rfl, by kernel_rfl⟩
theorem e (fuel : Nat) (p0 : List Int) (p1 : List Int) : runF Try.prog X I 0 fuel 4 Try.f4 [.d (.ints .i64 p0), .d (.ints .i64 p1)] =
  (bif (decide ((((p0.length : Nat) : Int) : Int) > 1048576)) then
  some ([.one ((.bool true), false)], [])
  else
  (bif (decide ((((p1.length : Nat) : Int) : Int) > 1048576)) then
  some ([.one ((.bool true), false)], [])
  else
  (bif szB p0 then
  (bif szB p1 then
  (bif decide (p0.length < 9223372036854775808) && decide (p1.length < 9223372036854775808) then
  (bif szB p0 then
  (bif szB p1 then
  (bif decide (p0.length < 9223372036854775808) && decide (p1.length < 9223372036854775808) then
  (bif (((deV p0 p1) : Int) != (deV p0 p1)) then
  some ([.one ((.bool false), false)], [])
  else
  (bif szB p0 then
  (bif decide (p0.length < 9223372036854775808) && decide (p0.length < 9223372036854775808) then
  (bif (!(decide (p0 = p0))) then
  some ([.one ((.bool false), false)], [])
  else
  (bif szB p1 then
  (bif decide (p1.length < 9223372036854775808) && decide (p1.length < 9223372036854775808) then
  (bif (!(decide (p1 = p1))) then
  some ([.one ((.bool false), false)], [])
  else
  some ([.one ((.bool true), false)], []))
  else
  none)
  else
  none))
  else
  none)
  else
  none))
  else
  none)
  else
  none)
  else
  none)
  else
  none)
  else
  none)
  else
  none))) := by kernel_rfl
end laws_FnExactDecodeNum
theorem laws_FnExactDecodeNum.ok_of (hX : ∀ E ∈ laws_FnExactDecodeNum.X, CallSpec Try.prog E) (h : ∀ (xs : List Int) (ds : List Int), (decide (xs.length < 9223372036854775808) && decide (ds.length < 9223372036854775808)) = true → ∃ fuel, runF Try.prog laws_FnExactDecodeNum.X laws_FnExactDecodeNum.I 0 fuel 4 Try.f4 [.d (.ints .i64 xs), .d (.ints .i64 ds)] = some ([.one ((.bool true), false)], [])) : CallSpec Try.prog laws_FnExactDecodeNum.E :=
  callSpec_of (d := 0) hX (by kernel_rfl) laws_FnExactDecodeNum.I_ok (by kernel_rfl) (by kernel_rfl) (by kernel_rfl) (fun _ _ _ _ h => by dsimp only [laws_FnExactDecodeNum.E] at h; cases h) (fun xs hp => by
    dsimp only [laws_FnExactDecodeNum.E] at hp ⊢
    split at hp
    · exact h _ _ hp
    · cases hp)
theorem laws_FnExactDecodeNum.ok : CallSpec Try.prog laws_FnExactDecodeNum.E := laws_FnExactDecodeNum.ok_of (by simp [laws_FnExactDecodeNum.X, laws_toIntS.ok, spec_DecodeNum.ok, impl_DecodeNum.ok, laws_eqIntS.ok]) fun xs ds h => ⟨0, by
  rw [laws_FnExactDecodeNum.e]
  simp only [Bool.and_eq_true] at h
  obtain ⟨g0, g1⟩ := h
  by_cases l0 : (((xs.length : Nat) : Int) > 1048576)
  · rw [decide_eq_true l0]; rfl
  by_cases l1 : (((ds.length : Nat) : Int) > 1048576)
  · rw [decide_eq_false l0, decide_eq_true l1]; rfl
  have z0 := szB_of (xs := xs) (by omega)
  have z1 := szB_of (xs := ds) (by omega)
  have mk := mark2_ok (xs := xs) (ys := ds) (by omega) (by omega)
  simp only [decide_eq_false l0, decide_eq_false l1, g0, g1, z0, z1, mk, bne_self_eq_false, beq_self_eq_true, decide_true, Bool.and_self, Bool.not_true, cond_true, cond_false]⟩

namespace laws_szIntS
noncomputable def E : Entry := ⟨38, true, false, fun | [.d (.ints .i64 xs), .d (.int .i64 left)] => true | _ => false, fun | [.d (.ints .i64 xs), .d (.int .i64 left)] => ([.one ((.int .i64 (szI xs left)), false)], []) | _ => ([], []), fun _ => [], false, fun _ => none⟩
end laws_szIntS
namespace laws_szIntS
noncomputable def X : List Entry := []
noncomputable def I : List Inl := [⟨38, Try.f38, ⟨[], [], [], [], [], []⟩⟩]
theorem I_ok : ∀ i ∈ I, Try.prog.funcs[i.f]? = some i.fn ∧ (i.fn.name == "runtime.NumGoroutine") = false := by
  intro i hi
  simp only [I, List.mem_cons, List.not_mem_nil, or_false] at hi
  subst hi
  exact ⟨by kernel_rfl, by kernel_rfl⟩
theorem e (fuel : Nat) (p0 : List Int) (p1 : Int) : runF Try.prog X I 0 fuel 38 Try.f38 [.d (.ints .i64 p0), .d (.int .i64 p1)] =
  (bif (decide (((IntKind.wrap .i64 (p1 - ((p0.length : Nat) : Int))) : Int) < 0)) then
  some ([.one ((.int .i64 (-1)), false)], [])
  else
  some ([.one ((.int .i64 (IntKind.wrap .i64 (p1 - ((p0.length : Nat) : Int)))), false)], [])) := by kernel_rfl
end laws_szIntS
theorem laws_szIntS.ok_of (hX : ∀ E ∈ laws_szIntS.X, CallSpec Try.prog E) (h : ∀ (xs : List Int) (left : Int), (true) = true → ∃ fuel, runF Try.prog laws_szIntS.X laws_szIntS.I 0 fuel 38 Try.f38 [.d (.ints .i64 xs), .d (.int .i64 left)] = some ([.one ((.int .i64 (szI xs left)), false)], [])) : CallSpec Try.prog laws_szIntS.E :=
  callSpec_of (d := 0) hX (by kernel_rfl) laws_szIntS.I_ok (by kernel_rfl) (by kernel_rfl) (by kernel_rfl) (fun _ _ _ _ h => by dsimp only [laws_szIntS.E] at h; cases h) (fun xs hp => by
    dsimp only [laws_szIntS.E] at hp ⊢
    split at hp
    · exact h _ _ hp
    · cases hp)
theorem laws_szIntS.ok : CallSpec Try.prog laws_szIntS.E := laws_szIntS.ok_of (by simp [laws_szIntS.X]) fun xs left _ => ⟨0, by
  rw [laws_szIntS.e]
  unfold szI
  cases decide (IntKind.wrap .i64 (left - ((xs.length : Nat) : Int)) < 0) <;> rfl⟩

namespace laws_szArray
noncomputable def E : Entry := ⟨17, true, false, fun | [.d (.agg [(.ints .i64 sh), (.ints .i64 da)]), .d (.int .i64 left)] => true | _ => false, fun | [.d (.agg [(.ints .i64 sh), (.ints .i64 da)]), .d (.int .i64 left)] => ([.one ((.int .i64 (szA sh da left)), false)], []) | _ => ([], []), fun _ => [], false, fun _ => none⟩
end laws_szArray
namespace laws_szArray
noncomputable def X : List Entry := [laws_szIntS.E]
noncomputable def I : List Inl := [⟨17, Try.f17, ⟨[], [], [], [], [], []⟩⟩]
theorem I_ok : ∀ i ∈ I, Try.prog.funcs[i.f]? = some i.fn ∧ (i.fn.name == "runtime.NumGoroutine") = false := by
  intro i hi
  simp only [I, List.mem_cons, List.not_mem_nil, or_false] at hi
  subst hi
  exact ⟨by kernel_rfl, by kernel_rfl⟩
theorem e (fuel : Nat) (p0q0 : List Int) (p0q1 : List Int) (p1 : Int) : runF Try.prog X I 0 fuel 17 Try.f17 [.d (.agg [(.ints .i64 p0q0), (.ints .i64 p0q1)]), .d (.int .i64 p1)] =
  (bif (decide (((szI p0q0 p1) : Int) < 0)) then
  some ([.one ((.int .i64 (-1)), false)], [])
  else
  (bif (decide (((szI p0q1 ((szI p0q0 p1))) : Int) < 0)) then
  some ([.one ((.int .i64 (-1)), false)], [])
  else
  some ([.one ((.int .i64 (szI p0q1 ((szI p0q0 p1)))), false)], []))) := by kernel_rfl
end laws_szArray
theorem laws_szArray.ok_of (hX : ∀ E ∈ laws_szArray.X, CallSpec Try.prog E) (h : ∀ (sh : List Int) (da : List Int) (left : Int), (true) = true → ∃ fuel, runF Try.prog laws_szArray.X laws_szArray.I 0 fuel 17 Try.f17 [.d (.agg [(.ints .i64 sh), (.ints .i64 da)]), .d (.int .i64 left)] = some ([.one ((.int .i64 (szA sh da left)), false)], [])) : CallSpec Try.prog laws_szArray.E :=
  callSpec_of (d := 0) hX (by kernel_rfl) laws_szArray.I_ok (by kernel_rfl) (by kernel_rfl) (by kernel_rfl) (fun _ _ _ _ h => by dsimp only [laws_szArray.E] at h; cases h) (fun xs hp => by
    dsimp only [laws_szArray.E] at hp ⊢
    split at hp
    · exact h _ _ _ hp
    · cases hp)
theorem laws_szArray.ok : CallSpec Try.prog laws_szArray.E := laws_szArray.ok_of (by simp [laws_szArray.X, laws_szIntS.ok]) fun sh da left _ => ⟨0, by
  rw [laws_szArray.e]
  unfold szA
  cases decide (szI sh left < 0) <;> cases decide (szI da (szI sh left) < 0) <;> rfl⟩

namespace laws_toArray
noncomputable def E : Entry := ⟨19, false, false, fun | [.d (.agg [(.ints .i64 sh), (.ints .i64 da)])] => szB sh && szB da | _ => false, fun | [.d (.agg [(.ints .i64 sh), (.ints .i64 da)])] => ([.agg [((.ints .i64 sh), true), ((.ints .i64 da), true)]], []) | _ => ([], []), fun _ => [], true, fun _ => none⟩
end laws_toArray
namespace laws_toArray
noncomputable def X : List Entry := [laws_toIntS.E]
noncomputable def I : List Inl := [⟨19, Try.f19, ⟨[6, 10], [], [], [], [], []⟩⟩]
theorem I_ok : ∀ i ∈ I, Try.prog.funcs[i.f]? = some i.fn ∧ (i.fn.name == "runtime.NumGoroutine") = false := by
  intro i hi
  simp only [I, List.mem_cons, List.not_mem_nil, or_false] at hi
  subst hi
  exact ⟨by kernel_rfl, by kernel_rfl⟩
theorem e (fuel : Nat) (p0q0 : List Int) (p0q1 : List Int) : runF Try.prog X I 0 fuel 19 Try.f19 [.d (.agg [(.ints .i64 p0q0), (.ints .i64 p0q1)])] =
  (bif szB p0q0 then
  (bif szB p0q1 then
  some ([.agg [((.ints .i64 p0q0), true), ((.ints .i64 p0q1), true)]], [])
  else
  none)
  else
  none) := by kernel_rfl
end laws_toArray
theorem laws_toArray.ok_of (hX : ∀ E ∈ laws_toArray.X, CallSpec Try.prog E) (h : ∀ (sh : List Int) (da : List Int), (szB sh && szB da) = true → ∃ fuel, runF Try.prog laws_toArray.X laws_toArray.I 0 fuel 19 Try.f19 [.d (.agg [(.ints .i64 sh), (.ints .i64 da)])] = some ([.agg [((.ints .i64 sh), true), ((.ints .i64 da), true)]], [])) : CallSpec Try.prog laws_toArray.E :=
  callSpec_of (d := 0) hX (by kernel_rfl) laws_toArray.I_ok (by kernel_rfl) (by kernel_rfl) (by kernel_rfl) (fun _ _ _ _ h => by dsimp only [laws_toArray.E] at h; cases h) (fun xs hp => by
    dsimp only [laws_toArray.E] at hp ⊢
    split at hp
    · exact h _ _ hp
    · cases hp)
theorem laws_toArray.ok : CallSpec Try.prog laws_toArray.E := laws_toArray.ok_of (by simp [laws_toArray.X, laws_toIntS.ok]) fun sh da h => ⟨0, by
  simp only [Bool.and_eq_true] at h
  rw [laws_toArray.e, h.1, h.2]
  rfl⟩

namespace spec_validShape
noncomputable def E : Entry := ⟨61, true, false, fun | [.d (.ints .i64 sh)] => decide (sh.length < 9223372036854775808) | _ => false, fun | [.d (.ints .i64 sh)] => ([.one ((.bool (validS sh)), false)], []) | _ => ([], []), fun _ => [], false, fun _ => none⟩
end spec_validShape
namespace spec_validShape
noncomputable def X : List Entry := [spec_allIn.E, spec_volume.E]
noncomputable def I : List Inl := [⟨61, Try.f61, ⟨[], [], [], [], [], []⟩⟩]
theorem I_ok : ∀ i ∈ I, Try.prog.funcs[i.f]? = some i.fn ∧ (i.fn.name == "runtime.NumGoroutine") = false := by
  intro i hi
  simp only [I, List.mem_cons, List.not_mem_nil, or_false] at hi
  subst hi
  exact ⟨by kernel_rfl, by kernel_rfl⟩
theorem e (fuel : Nat) (p0 : List Int) : runF Try.prog X I 0 fuel 61 Try.f61 [.d (.ints .i64 p0)] =
  (bif (decide ((((p0.length : Nat) : Int) : Int) ≤ 3)) then
  (bif decide (p0.length < 9223372036854775808) then
  (bif (allB p0 0 60) then
  (bif decide (p0.length < 9223372036854775808) then
  some ([.one ((.bool (decide (((volW p0) : Int) ≤ 60))), false)], [])
  else
  none)
  else
  some ([.one ((.bool false), false)], []))
  else
  none)
  else
  some ([.one ((.bool false), false)], [])) := by kernel_rfl
end spec_validShape
theorem spec_validShape.ok_of (hX : ∀ E ∈ spec_validShape.X, CallSpec Try.prog E) (h : ∀ (sh : List Int), (decide (sh.length < 9223372036854775808)) = true → ∃ fuel, runF Try.prog spec_validShape.X spec_validShape.I 0 fuel 61 Try.f61 [.d (.ints .i64 sh)] = some ([.one ((.bool (validS sh)), false)], [])) : CallSpec Try.prog spec_validShape.E :=
  callSpec_of (d := 0) hX (by kernel_rfl) spec_validShape.I_ok (by kernel_rfl) (by kernel_rfl) (by kernel_rfl) (fun _ _ _ _ h => by dsimp only [spec_validShape.E] at h; cases h) (fun xs hp => by
    dsimp only [spec_validShape.E] at hp ⊢
    split at hp
    · exact h _ hp
    · cases hp)
theorem spec_validShape.ok : CallSpec Try.prog spec_validShape.E := spec_validShape.ok_of (by simp [spec_validShape.X, spec_allIn.ok, spec_volume.ok]) fun sh h => ⟨0, by
  rw [spec_validShape.e, h]
  unfold validS
  cases decide (((sh.length : Nat) : Int) ≤ 3) <;> cases allB sh 0 60 <;> rfl⟩

namespace spec_valid
noncomputable def E : Entry := ⟨54, true, false, fun | [.d (.agg [(.ints .i64 sh), (.ints .i64 da)])] => decide (sh.length < 9223372036854775808) && decide (da.length < 9223372036854775808) | _ => false, fun | [.d (.agg [(.ints .i64 sh), (.ints .i64 da)])] => ([.one ((.bool (validA sh da)), false)], []) | _ => ([], []), fun _ => [], false, fun _ => none⟩
end spec_valid
namespace spec_valid
noncomputable def X : List Entry := [spec_validShape.E, spec_volume.E, spec_allIn.E]
noncomputable def I : List Inl := [⟨54, Try.f54, ⟨[], [], [], [(1, [0, 1, 2, 3, 4, 7, 5, 6, 8, 9, 10, 11, 12, 13, 14, 15, 16, 17])], [], []⟩⟩]
theorem I_ok : ∀ i ∈ I, Try.prog.funcs[i.f]? = some i.fn ∧ (i.fn.name == "runtime.NumGoroutine") = false := by
  intro i hi
  simp only [I, List.mem_cons, List.not_mem_nil, or_false] at hi
  subst hi
  exact ⟨by kernel_rfl, by kernel_rfl⟩
theorem e (fuel : Nat) (p0q0 : List Int) (p0q1 : List Int) : runF Try.prog X I 0 fuel 54 Try.f54 [.d (.agg [(.ints .i64 p0q0), (.ints .i64 p0q1)])] =
  (bif decide (p0q0.length < 9223372036854775808) then
  (bif (validS p0q0) then
  (bif decide (p0q0.length < 9223372036854775808) then
  (bif ((((p0q1.length : Nat) : Int) : Int) == (volW p0q0)) then
  (bif decide (p0q1.length < 9223372036854775808) then
  some ([.one ((.bool (allB p0q1 ((-1000000)) 1000000)), false)], [])
  else
  none)
  else
  some ([.one ((.bool false), false)], []))
  else
  none)
  else
  some ([.one ((.bool false), false)], []))
  else
  none) := by kernel_rfl
end spec_valid
theorem spec_valid.ok_of (hX : ∀ E ∈ spec_valid.X, CallSpec Try.prog E) (h : ∀ (sh : List Int) (da : List Int), (decide (sh.length < 9223372036854775808) && decide (da.length < 9223372036854775808)) = true → ∃ fuel, runF Try.prog spec_valid.X spec_valid.I 0 fuel 54 Try.f54 [.d (.agg [(.ints .i64 sh), (.ints .i64 da)])] = some ([.one ((.bool (validA sh da)), false)], [])) : CallSpec Try.prog spec_valid.E :=
  callSpec_of (d := 0) hX (by kernel_rfl) spec_valid.I_ok (by kernel_rfl) (by kernel_rfl) (by kernel_rfl) (fun _ _ _ _ h => by dsimp only [spec_valid.E] at h; cases h) (fun xs hp => by
    dsimp only [spec_valid.E] at hp ⊢
    split at hp
    · exact h _ _ hp
    · cases hp)
theorem spec_valid.ok : CallSpec Try.prog spec_valid.E := spec_valid.ok_of (by simp [spec_valid.X, spec_validShape.ok, spec_volume.ok, spec_allIn.ok]) fun sh da h => ⟨0, by
  simp only [Bool.and_eq_true] at h
  rw [spec_valid.e, h.1, h.2]
  unfold validA
  cases validS sh <;> cases (((da.length : Nat) : Int) == volW sh) <;> rfl⟩

namespace spec_isVector
noncomputable def E : Entry := ⟨39, true, false, fun | [.d (.agg [(.ints .i64 sh), (.ints .i64 da)])] => decide (sh.length < 9223372036854775808) && decide (da.length < 9223372036854775808) | _ => false, fun | [.d (.agg [(.ints .i64 sh), (.ints .i64 da)])] => ([.one ((.bool (vcB sh da)), false)], []) | _ => ([], []), fun _ => [], false, fun _ => none⟩
end spec_isVector
namespace spec_isVector
noncomputable def X : List Entry := [spec_valid.E]
noncomputable def I : List Inl := [⟨39, Try.f39, ⟨[], [], [], [], [], []⟩⟩]
theorem I_ok : ∀ i ∈ I, Try.prog.funcs[i.f]? = some i.fn ∧ (i.fn.name == "runtime.NumGoroutine") = false := by
  intro i hi
  simp only [I, List.mem_cons, List.not_mem_nil, or_false] at hi
  subst hi
  exact ⟨by kernel_rfl, by kernel_rfl⟩
theorem e (fuel : Nat) (p0q0 : List Int) (p0q1 : List Int) : runF Try.prog X I 0 fuel 39 Try.f39 [.d (.agg [(.ints .i64 p0q0), (.ints .i64 p0q1)])] =
  (bif decide (p0q0.length < 9223372036854775808) && decide (p0q1.length < 9223372036854775808) then
  (bif (validA p0q0 p0q1) then
  some ([.one ((.bool ((((p0q0.length : Nat) : Int) : Int) == 1)), false)], [])
  else
  some ([.one ((.bool false), false)], []))
  else
  none) := by kernel_rfl
end spec_isVector
theorem spec_isVector.ok_of (hX : ∀ E ∈ spec_isVector.X, CallSpec Try.prog E) (h : ∀ (sh : List Int) (da : List Int), (decide (sh.length < 9223372036854775808) && decide (da.length < 9223372036854775808)) = true → ∃ fuel, runF Try.prog spec_isVector.X spec_isVector.I 0 fuel 39 Try.f39 [.d (.agg [(.ints .i64 sh), (.ints .i64 da)])] = some ([.one ((.bool (vcB sh da)), false)], [])) : CallSpec Try.prog spec_isVector.E :=
  callSpec_of (d := 0) hX (by kernel_rfl) spec_isVector.I_ok (by kernel_rfl) (by kernel_rfl) (by kernel_rfl) (fun _ _ _ _ h => by dsimp only [spec_isVector.E] at h; cases h) (fun xs hp => by
    dsimp only [spec_isVector.E] at hp ⊢
    split at hp
    · exact h _ _ hp
    · cases hp)
theorem spec_isVector.ok : CallSpec Try.prog spec_isVector.E := spec_isVector.ok_of (by simp [spec_isVector.X, spec_valid.ok]) fun sh da h => ⟨0, by
  rw [spec_isVector.e, h]
  unfold vcB
  cases validA sh da with
  | false => rfl
  | true =>
    rw [show ((((sh.length : Nat) : Int)) == 1) = decide (sh.length = 1) by by_cases h : sh.length = 1 <;> simp [h]; omega]
    rfl⟩

namespace spec_limit
noncomputable def E : Entry := ⟨40, true, false, fun | [.d (.int .i64 n)] => true | _ => false, fun | [.d (.int .i64 n)] => ([.one ((.int .i64 (limV n)), false)], []) | _ => ([], []), fun _ => [], false, fun _ => none⟩
end spec_limit
namespace spec_limit
noncomputable def X : List Entry := []
noncomputable def I : List Inl := [⟨40, Try.f40, ⟨[], [], [], [], [], []⟩⟩]
theorem I_ok : ∀ i ∈ I, Try.prog.funcs[i.f]? = some i.fn ∧ (i.fn.name == "runtime.NumGoroutine") = false := by
  intro i hi
  simp only [I, List.mem_cons, List.not_mem_nil, or_false] at hi
  subst hi
  exact ⟨by kernel_rfl, by kernel_rfl⟩
theorem e (fuel : Nat) (p0 : Int) : runF Try.prog X I 0 fuel 40 Try.f40 [.d (.int .i64 p0)] =
  some ([.one ((.int .i64 (maxI (-1000000) (minI 1000000 p0))), false)], []) := by kernel_rfl
end spec_limit
theorem spec_limit.ok_of (hX : ∀ E ∈ spec_limit.X, CallSpec Try.prog E) (h : ∀ (n : Int), (true) = true → ∃ fuel, runF Try.prog spec_limit.X spec_limit.I 0 fuel 40 Try.f40 [.d (.int .i64 n)] = some ([.one ((.int .i64 (limV n)), false)], [])) : CallSpec Try.prog spec_limit.E :=
  callSpec_of (d := 0) hX (by kernel_rfl) spec_limit.I_ok (by kernel_rfl) (by kernel_rfl) (by kernel_rfl) (fun _ _ _ _ h => by dsimp only [spec_limit.E] at h; cases h) (fun xs hp => by
    dsimp only [spec_limit.E] at hp ⊢
    split at hp
    · exact h _ hp
    · cases hp)
theorem spec_limit.ok : CallSpec Try.prog spec_limit.E := spec_limit.ok_of (by simp [spec_limit.X]) fun n _ => ⟨0, by rw [spec_limit.e, lim_spec]⟩

namespace spec_PolyAt
noncomputable def E : Entry := ⟨18, true, false, fun | [.d (.agg [(.ints .i64 sh), (.ints .i64 da)]), .d (.int .i64 x)] => decide (sh.length < 9223372036854775808) && decide (da.length < 9223372036854775808) | _ => false, fun | [.d (.agg [(.ints .i64 sh), (.ints .i64 da)]), .d (.int .i64 x)] => ([.one ((.int .i64 (poV sh da x)), false), .one ((.bool (poB sh da x)), false)], []) | _ => ([], []), fun _ => [], false, fun _ => none⟩
end spec_PolyAt
namespace spec_PolyAt
noncomputable def X : List Entry := [spec_isVector.E, spec_inRange.E, spec_limit.E]
noncomputable def I : List Inl := [⟨18, Try.f18, ⟨[], [(1000005, [0, 3, 4, 5, 8, 9, 10, 11, 12, 13, 14, 15, 16, 17, 18, 19, 20, 21, 22, 23, 24, 25, 26, 27, 28, 29, 30, 31, 32, 33, 34])], [], [(7, [0, 1, 2, 4, 6, 3, 5, 7, 8, 9, 10, 11])], [], []⟩⟩]
theorem I_ok : ∀ i ∈ I, Try.prog.funcs[i.f]? = some i.fn ∧ (i.fn.name == "runtime.NumGoroutine") = false := by
  intro i hi
  simp only [I, List.mem_cons, List.not_mem_nil, or_false] at hi
  subst hi
  exact ⟨by kernel_rfl, by kernel_rfl⟩
noncomputable abbrev L0 (fuel n : Nat) (s : St) (k : Kont) := lAt Try.prog X I fuel true 0 false 18 (bodyOf Try.f18) [1, 1, 1, 0, 1, 0] n s k
noncomputable abbrev k0  (fuel : Nat) : Kont := (kAt Try.prog X I fuel true 0 false 18 (bodyOf Try.f18) [1, 1, 1, 0, 1, 0] [] (endK Try.prog Try.f18))
noncomputable def t0 (p1 : Int) (p0q0 : List Int) (p0q1 : List Int) (x0q1 : Int) (x0q2 : Int) : St := ⟨[.dead, (.imm (.int .i64 p1)), (.ptr 1000000000 0 0), .dead, .dead, .dead, (.imm (.int .i64 x0q1)), (.imm (.int .i64 x0q2)), .dead, .dead, .dead, .dead, .dead, .dead, .dead, .dead, .dead, .dead, .dead, .dead, .dead, .dead, .dead, .dead, .dead, .dead, .dead, .dead, .dead, .dead, .dead, .dead, .dead, .dead, .dead], hOf [(1000000000, (.box [(.imm (.ints .i64 p0q0)), (.imm (.ints .i64 p0q1))]))], [], []⟩
theorem e (fuel : Nat) (p0q0 : List Int) (p0q1 : List Int) (p1 : Int) : runF Try.prog X I 0 fuel 18 Try.f18 [.d (.agg [(.ints .i64 p0q0), (.ints .i64 p0q1)]), .d (.int .i64 p1)] =
  (bif decide (p0q0.length < 9223372036854775808) && decide (p0q1.length < 9223372036854775808) then
  (bif (!(vcB p0q0 p0q1)) then
  some ([.one ((.int .i64 0), false), .one ((.bool false), false)], [])
  else
  (bif (!(decide (((-1000000)) ≤ p1) && decide (p1 ≤ 1000000))) then
  some ([.one ((.int .i64 0), false), .one ((.bool false), false)], [])
  else
  L0 fuel fuel (t0 p1 p0q0 p0q1 0 0) (k0  fuel)))
  else
  none) := by kernel_rfl
theorem s0 (fuel n0 : Nat) (p1 : Int) (p0q0 : List Int) (p0q1 : List Int) (x0q1 : Int) (x0q2 : Int) : L0 fuel (n0 + 1) (t0 p1 p0q0 p0q1 x0q1 x0q2) (k0  fuel) =
  (bif (decide ((x0q2 : Int) < ((p0q1.length : Nat) : Int))) then
  (idx x0q2 p0q1.length).bind fun j5 =>
  (p0q1[j5]?).bind fun v6 =>
  L0 fuel n0 (t0 p1 p0q0 p0q1 ((limV ((IntKind.wrap .i64 ((limV ((IntKind.wrap .i64 (x0q1 * p1)))) + v6))))) ((IntKind.wrap .i64 (x0q2 + 1)))) (k0  fuel)
  else
  some ([.one ((.int .i64 x0q1), false), .one ((.bool true), false)], [])) := by kernel_rfl
end spec_PolyAt
theorem spec_PolyAt.ok_of (hX : ∀ E ∈ spec_PolyAt.X, CallSpec Try.prog E) (h : ∀ (sh : List Int) (da : List Int) (x : Int), (decide (sh.length < 9223372036854775808) && decide (da.length < 9223372036854775808)) = true → ∃ fuel, runF Try.prog spec_PolyAt.X spec_PolyAt.I 0 fuel 18 Try.f18 [.d (.agg [(.ints .i64 sh), (.ints .i64 da)]), .d (.int .i64 x)] = some ([.one ((.int .i64 (poV sh da x)), false), .one ((.bool (poB sh da x)), false)], [])) : CallSpec Try.prog spec_PolyAt.E :=
  callSpec_of (d := 0) hX (by kernel_rfl) spec_PolyAt.I_ok (by kernel_rfl) (by kernel_rfl) (by kernel_rfl) (fun _ _ _ _ h => by dsimp only [spec_PolyAt.E] at h; cases h) (fun xs hp => by
    dsimp only [spec_PolyAt.E] at hp ⊢
    split at hp
    · exact h _ _ _ hp
    · cases hp)
theorem spec_PolyAt.loop (fuel : Nat) (sh da : List Int) (x : Int) (hx : da.length ≤ 60) : ∀ (m n j : Nat) (a : Int), da.length - j = m → m < n → j ≤ da.length →
    spec_PolyAt.L0 fuel n (spec_PolyAt.t0 x sh da a (j : Int)) (spec_PolyAt.k0 fuel) = some ([.one (.int .i64 (poF x (da.drop j) a), false), .one (.bool true, false)], []) := by
  intro m
  induction m with
  | zero =>
    intro n j a h1 h2 h3
    obtain ⟨n, rfl⟩ : ∃ n', n = n' + 1 := ⟨n - 1, by omega⟩
    have hj : ¬ j < da.length := by omega
    rw [spec_PolyAt.s0, dge hj, dropE hj]
    rfl
  | succ m ih =>
    intro n j a h1 h2 h3
    obtain ⟨n, rfl⟩ : ∃ n', n = n' + 1 := ⟨n - 1, by omega⟩
    have hj : j < da.length := by omega
    rw [spec_PolyAt.s0, dlt hj, idx_nat hj, w1 (by omega), dropS hj]
    simp only [cond_true, Option.bind_some, getS hj, poF]
    exact ih n (j + 1) _ (by omega) (by omega) (by omega)
theorem spec_PolyAt.ok : CallSpec Try.prog spec_PolyAt.E := spec_PolyAt.ok_of (by simp [spec_PolyAt.X, spec_isVector.ok, spec_inRange.ok, spec_limit.ok]) fun sh da x h => ⟨da.length + 1, by
  rw [spec_PolyAt.e, h]
  unfold poV poB
  cases hb : vcB sh da with
  | false => rfl
  | true =>
    obtain ⟨_, _, hl, _⟩ := vcB_inv hb
    rw [← numB_eq]
    cases hn : numB x with
    | false => rfl
    | true => exact spec_PolyAt.loop (da.length + 1) sh da x hl da.length (da.length + 1) 0 0 (by omega) (by omega) (by omega)⟩

namespace impl_layoutOf
noncomputable def E : Entry := ⟨62, false, false, fun | [.d (.ints .i64 sh)] => decide (sh.length < 9223372036854775808) | _ => false, fun | [.d (.ints .i64 sh)] => ([.agg [((.ints .i64 nilI), true), ((.int .i64 0), false), ((.int .i64 0), false), ((.int .i64 0), false), ((.int .i64 0), false)], .one ((.bool false), false)], []) | _ => ([], []), fun | [.d (.ints .i64 sh)] => [(validS sh, ([.agg [((.ints .i64 sh), false), ((.int .i64 (strd sh 0)), false), ((.int .i64 (strd sh 1)), false), ((.int .i64 (strd sh 2)), false), ((.int .i64 (volW sh)), false)], .one ((.bool true), false)], []))] | _ => [], true, fun _ => none⟩
end impl_layoutOf
namespace impl_layoutOf
noncomputable def X : List Entry := []
noncomputable def I : List Inl := [⟨62, Try.f62, ⟨[], [(1000005, [1, 3, 6, 7, 8, 9, 10, 11, 12, 13, 14, 15, 16, 17, 18, 19, 20, 21, 22, 23, 24, 25, 26, 27, 28, 29, 30, 31, 32, 33, 34, 35, 36, 37, 38, 39, 40, 41, 42, 43, 44, 45, 46, 47, 48, 49])], [], [(10, [0, 2, 3, 1, 4, 5, 6, 7, 8])], [], []⟩⟩]
theorem I_ok : ∀ i ∈ I, Try.prog.funcs[i.f]? = some i.fn ∧ (i.fn.name == "runtime.NumGoroutine") = false := by
  intro i hi
  simp only [I, List.mem_cons, List.not_mem_nil, or_false] at hi
  subst hi
  exact ⟨by kernel_rfl, by kernel_rfl⟩
noncomputable abbrev L0 (fuel n : Nat) (s : St) (k : Kont) := lAt Try.prog X I fuel true 0 false 62 (bodyOf Try.f62) [1, 1, 1, 0, 1, 0] n s k
noncomputable abbrev k0  (fuel : Nat) : Kont := (kAt Try.prog X I fuel true 0 false 62 (bodyOf Try.f62) [1, 1, 1, 0, 1, 0] [] (endK Try.prog Try.f62))
noncomputable def t0 (p0 : List Int) (x0q1 : Int) (x0q7 : Int) (x0q8 : Int) (x0q9 : Int) (x0q10 : Int) : St := ⟨[(.imm (.ints .i64 p0)), .dead, (.ptr 1000000000 0 0), .dead, (.ptr 1000000001 0 0), (.imm (.int .i64 x0q1)), .dead, .dead, .dead, .dead, .dead, .dead, .dead, .dead, .dead, .dead, .dead, .dead, .dead, .dead, .dead, .dead, .dead, .dead, .dead, .dead, .dead, .dead, .dead, .dead, .dead, .dead, .dead, .dead, .dead, .dead, .dead, .dead, .dead, .dead, .dead, .dead, .dead, .dead, .dead, .dead, .dead, .dead, .dead, .dead], hOf [(1000000000, (.box [(.imm .nils), (.imm (.int .i64 0)), (.imm (.int .i64 0)), (.imm (.int .i64 0)), (.imm (.int .i64 0))])), (1000000001, (.box [(.imm (.ints .i64 p0)), (.imm (.int .i64 x0q7)), (.imm (.int .i64 x0q8)), (.imm (.int .i64 x0q9)), (.imm (.int .i64 x0q10))]))], [], []⟩
theorem e (fuel : Nat) (p0 : List Int) : runF Try.prog X I 0 fuel 62 Try.f62 [.d (.ints .i64 p0)] =
  (bif (decide ((((p0.length : Nat) : Int) : Int) > 3)) then
  some ([.agg [((.ints .i64 []), true), ((.int .i64 0), false), ((.int .i64 0), false), ((.int .i64 0), false), ((.int .i64 0), false)], .one ((.bool false), false)], [])
  else
  L0 fuel fuel (t0 p0 ((IntKind.wrap .i64 (((p0.length : Nat) : Int) - 1))) 0 0 0 1) (k0  fuel)) := by kernel_rfl
theorem s0 (fuel n0 : Nat) (p0 : List Int) (x0q1 : Int) (x0q7 : Int) (x0q8 : Int) (x0q9 : Int) (x0q10 : Int) : L0 fuel (n0 + 1) (t0 p0 x0q1 x0q7 x0q8 x0q9 x0q10) (k0  fuel) =
  (bif (decide ((x0q1 : Int) ≥ 0)) then
  (idx x0q1 p0.length).bind fun j21 =>
  (p0[j21]?).bind fun v22 =>
  (bif (decide ((v22 : Int) < 0)) then
  some ([.agg [((.ints .i64 []), true), ((.int .i64 0), false), ((.int .i64 0), false), ((.int .i64 0), false), ((.int .i64 0), false)], .one ((.bool false), false)], [])
  else
  (idx x0q1 p0.length).bind fun j23 =>
  (p0[j23]?).bind fun v24 =>
  (bif (decide ((v24 : Int) > 60)) then
  some ([.agg [((.ints .i64 []), true), ((.int .i64 0), false), ((.int .i64 0), false), ((.int .i64 0), false), ((.int .i64 0), false)], .one ((.bool false), false)], [])
  else
  (bif decide (x0q1 = ((0 : Nat) : Int)) then
  (idx x0q1 p0.length).bind fun j29 =>
  (p0[j29]?).bind fun v30 =>
  L0 fuel n0 (t0 p0 ((IntKind.wrap .i64 (x0q1 - 1))) x0q10 x0q8 x0q9 ((IntKind.wrap .i64 (x0q10 * v30)))) (k0  fuel)
  else
  (bif decide (x0q1 = ((1 : Nat) : Int)) then
  (idx x0q1 p0.length).bind fun j27 =>
  (p0[j27]?).bind fun v28 =>
  L0 fuel n0 (t0 p0 ((IntKind.wrap .i64 (x0q1 - 1))) x0q7 x0q10 x0q9 ((IntKind.wrap .i64 (x0q10 * v28)))) (k0  fuel)
  else
  (bif decide (x0q1 = ((2 : Nat) : Int)) then
  (idx x0q1 p0.length).bind fun j25 =>
  (p0[j25]?).bind fun v26 =>
  L0 fuel n0 (t0 p0 ((IntKind.wrap .i64 (x0q1 - 1))) x0q7 x0q8 x0q10 ((IntKind.wrap .i64 (x0q10 * v26)))) (k0  fuel)
  else
  none)))))
  else
  (bif (decide ((x0q10 : Int) > 60)) then
  some ([.agg [((.ints .i64 []), true), ((.int .i64 0), false), ((.int .i64 0), false), ((.int .i64 0), false), ((.int .i64 0), false)], .one ((.bool false), false)], [])
  else
  some ([.agg [((.ints .i64 p0), false), ((.int .i64 x0q7), false), ((.int .i64 x0q8), false), ((.int .i64 x0q9), false), ((.int .i64 x0q10), false)], .one ((.bool true), false)], []))) := by kernel_rfl
end impl_layoutOf
theorem impl_layoutOf.ok_of (hX : ∀ E ∈ impl_layoutOf.X, CallSpec Try.prog E) (h : ∀ (sh : List Int), (decide (sh.length < 9223372036854775808)) = true → ∃ fuel, runF Try.prog impl_layoutOf.X impl_layoutOf.I 0 fuel 62 Try.f62 [.d (.ints .i64 sh)] = some (bif validS sh then ([.agg [((.ints .i64 sh), false), ((.int .i64 (strd sh 0)), false), ((.int .i64 (strd sh 1)), false), ((.int .i64 (strd sh 2)), false), ((.int .i64 (volW sh)), false)], .one ((.bool true), false)], []) else ([.agg [((.ints .i64 nilI), true), ((.int .i64 0), false), ((.int .i64 0), false), ((.int .i64 0), false), ((.int .i64 0), false)], .one ((.bool false), false)], []))) : CallSpec Try.prog impl_layoutOf.E :=
  callSpec_of (d := 0) hX (by kernel_rfl) impl_layoutOf.I_ok (by kernel_rfl) (by kernel_rfl) (by kernel_rfl) (fun _ _ _ _ h => by dsimp only [impl_layoutOf.E] at h; cases h) (fun xs hp => by
    dsimp only [impl_layoutOf.E] at hp ⊢
    split at hp
    · exact h _ hp
    · cases hp)
theorem impl_layoutOf.bad (fuel n : Nat) (sh : List Int) (k : Nat) (v : Int) (s0 s1 s2 z : Int) (hk : k < sh.length) (hv : sh[k]? = some v) (h : ¬ (0 ≤ v ∧ v ≤ 60)) :
    impl_layoutOf.L0 fuel (n + 1) (impl_layoutOf.t0 sh (k : Int) s0 s1 s2 z) (impl_layoutOf.k0 fuel) = some ([.agg [(.ints .i64 [], true), (.int .i64 0, false), (.int .i64 0, false), (.int .i64 0, false), (.int .i64 0, false)], .one (.bool false, false)], []) := by
  rw [impl_layoutOf.s0, decide_eq_true (by omega), idx_nat hk]
  simp only [cond_true, Option.bind_some, hv]
  by_cases h0 : v < 0
  · rw [decide_eq_true h0]; rfl
  · rw [decide_eq_false h0, decide_eq_true (by omega)]; rfl
theorem impl_layoutOf.good (fuel n : Nat) (sh : List Int) (k : Nat) (v : Int) (s0 s1 s2 z : Int) (hk : k < sh.length) (hv : sh[k]? = some v) (h : 0 ≤ v ∧ v ≤ 60) (hk3 : k < 3) :
    impl_layoutOf.L0 fuel (n + 1) (impl_layoutOf.t0 sh (k : Int) s0 s1 s2 z) (impl_layoutOf.k0 fuel) =
      impl_layoutOf.L0 fuel n (impl_layoutOf.t0 sh ((k : Int) - 1) (bif k == 0 then z else s0) (bif k == 1 then z else s1) (bif k == 2 then z else s2) (IntKind.wrap .i64 (z * v))) (impl_layoutOf.k0 fuel) := by
  rw [impl_layoutOf.s0, decide_eq_true (by omega), idx_nat hk]
  simp only [cond_true, Option.bind_some, hv]
  rw [decide_eq_false (p := v < 0) (by omega), decide_eq_false (p := v > 60) (by omega), wS (x := (k : Int) - 1) (by omega) (by omega)]
  simp only [cond_false]
  match k, hk3 with
  | 0, _ => rfl
  | 1, _ => rfl
  | 2, _ => rfl
theorem impl_layoutOf.last (fuel n : Nat) (sh : List Int) (i : Int) (s0 s1 s2 z : Int) (hi : i < 0) :
    impl_layoutOf.L0 fuel (n + 1) (impl_layoutOf.t0 sh i s0 s1 s2 z) (impl_layoutOf.k0 fuel) = 
      bif decide (z ≤ 60) then some ([.agg [(.ints .i64 sh, false), (.int .i64 s0, false), (.int .i64 s1, false), (.int .i64 s2, false), (.int .i64 z, false)], .one (.bool true, false)], [])
      else some ([.agg [(.ints .i64 [], true), (.int .i64 0, false), (.int .i64 0, false), (.int .i64 0, false), (.int .i64 0, false)], .one (.bool false, false)], []) := by
  rw [impl_layoutOf.s0, decide_eq_false (by omega)]
  simp only [cond_false]
  by_cases hz : z ≤ 60
  · rw [decide_eq_true hz, decide_eq_false (by omega)]; rfl
  · rw [decide_eq_false hz, decide_eq_true (by omega)]; rfl
theorem rng_dec {v : Int} (h : 0 ≤ v ∧ v ≤ 60) : (decide (0 ≤ v) && decide (v ≤ 60)) = true := by simp [h.1, h.2]
theorem rng_bad {v : Int} (h : ¬ (0 ≤ v ∧ v ≤ 60)) : (decide (0 ≤ v) && decide (v ≤ 60)) = false := by
  cases hb : (decide (0 ≤ v) && decide (v ≤ 60)) with
  | false => rfl
  | true => simp at hb; exact absurd hb h
theorem validS1 (a : Int) : validS [a] = ((decide (0 ≤ a) && decide (a ≤ 60)) && decide (IntKind.wrap .i64 (1 * a) ≤ 60)) := by
  simp only [validS, allB_cons, allB_nil, Bool.and_true, volW, volFrom]; rfl
theorem validS2 (a b : Int) : validS [a, b] = ((decide (0 ≤ a) && decide (a ≤ 60)) && (decide (0 ≤ b) && decide (b ≤ 60)) && decide (IntKind.wrap .i64 (IntKind.wrap .i64 (1 * a) * b) ≤ 60)) := by
  simp only [validS, allB_cons, allB_nil, Bool.and_true, volW, volFrom]; rfl
theorem validS3 (a b c : Int) : validS [a, b, c] = ((decide (0 ≤ a) && decide (a ≤ 60)) && ((decide (0 ≤ b) && decide (b ≤ 60)) && (decide (0 ≤ c) && decide (c ≤ 60))) && decide (IntKind.wrap .i64 (IntKind.wrap .i64 (IntKind.wrap .i64 (1 * a) * b) * c) ≤ 60)) := by
  simp only [validS, allB_cons, allB_nil, Bool.and_true, volW, volFrom]; rfl
theorem impl_layoutOf.ok : CallSpec Try.prog impl_layoutOf.E := impl_layoutOf.ok_of (by simp [impl_layoutOf.X]) fun sh h => by
  refine ⟨5, ?_⟩
  rw [impl_layoutOf.e]
  match sh with
  | [] => rw [show decide (((([] : List Int).length : Nat) : Int) > 3) = false from rfl, cond_false, impl_layoutOf.last _ _ _ _ _ _ _ _ (by decide)]; rfl
  | [a] =>
    rw [show decide (((([a] : List Int).length : Nat) : Int) > 3) = false from rfl, cond_false, show IntKind.wrap .i64 ((([a] : List Int).length : Nat) - 1) = ((0 : Nat) : Int) from rfl, validS1]
    by_cases h1 : 0 ≤ a ∧ a ≤ 60
    · rw [impl_layoutOf.good _ _ _ _ a _ _ _ _ (by simp) rfl h1 (by omega), impl_layoutOf.last _ _ _ _ _ _ _ _ (by decide), rng_dec h1, Int.one_mul, wS (x := a) (by omega) (by omega)]
      simp only [strd, volW, volFrom, Int.one_mul, wS (x := a) (by omega) (by omega)]
      cases decide (a ≤ 60) <;> rfl
    · rw [impl_layoutOf.bad _ _ _ _ a _ _ _ _ (by simp) rfl h1, rng_bad h1]; rfl
  | [a, b] =>
    rw [show decide (((([a, b] : List Int).length : Nat) : Int) > 3) = false from rfl, cond_false, show IntKind.wrap .i64 ((([a, b] : List Int).length : Nat) - 1) = ((1 : Nat) : Int) from rfl, validS2]
    by_cases h1 : 0 ≤ b ∧ b ≤ 60
    case neg => rw [impl_layoutOf.bad _ _ _ _ b _ _ _ _ (by simp) rfl h1, rng_bad h1, Bool.and_false]; rfl
    rw [impl_layoutOf.good _ _ _ _ b _ _ _ _ (by simp) rfl h1 (by omega), show (((1 : Nat) : Int) - 1) = ((0 : Nat) : Int) from rfl]
    by_cases h2 : 0 ≤ a ∧ a ≤ 60
    case neg => rw [impl_layoutOf.bad _ _ _ _ a _ _ _ _ (by simp) rfl h2, rng_bad h2]; rfl
    have hm := mul60 h2.1 h2.2 h1.1 h1.2
    rw [impl_layoutOf.good _ _ _ _ a _ _ _ _ (by simp) rfl h2 (by omega), impl_layoutOf.last _ _ _ _ _ _ _ _ (by decide), rng_dec h1, rng_dec h2, Int.one_mul, Int.one_mul, wS (x := a) (by omega) (by omega), wS (x := b) (by omega) (by omega), Int.mul_comm b a, wS (x := a * b) (by omega) (by omega)]
    simp only [strd, volW, volFrom, Int.one_mul, wS (x := a) (by omega) (by omega), wS (x := b) (by omega) (by omega), wS (x := a * b) (by omega) (by omega), List.drop_succ_cons, List.drop_zero]
    cases decide (a * b ≤ 60) <;> rfl
  | [a, b, c] =>
    rw [show decide (((([a, b, c] : List Int).length : Nat) : Int) > 3) = false from rfl, cond_false, show IntKind.wrap .i64 ((([a, b, c] : List Int).length : Nat) - 1) = ((2 : Nat) : Int) from rfl, validS3]
    by_cases h0 : 0 ≤ c ∧ c ≤ 60
    case neg => rw [impl_layoutOf.bad _ _ _ _ c _ _ _ _ (by simp) rfl h0, rng_bad h0, Bool.and_false, Bool.and_false]; rfl
    rw [impl_layoutOf.good _ _ _ _ c _ _ _ _ (by simp) rfl h0 (by omega), show (((2 : Nat) : Int) - 1) = ((1 : Nat) : Int) from rfl]
    by_cases h1 : 0 ≤ b ∧ b ≤ 60
    case neg => rw [impl_layoutOf.bad _ _ _ _ b _ _ _ _ (by simp) rfl h1, rng_bad h1, Bool.false_and, Bool.and_false]; rfl
    rw [impl_layoutOf.good _ _ _ _ b _ _ _ _ (by simp) rfl h1 (by omega), show (((1 : Nat) : Int) - 1) = ((0 : Nat) : Int) from rfl]
    by_cases h2 : 0 ≤ a ∧ a ≤ 60
    case neg => rw [impl_layoutOf.bad _ _ _ _ a _ _ _ _ (by simp) rfl h2, rng_bad h2]; rfl
    have hm := mul60 h2.1 h2.2 h1.1 h1.2
    have hm1 := mul60 h1.1 h1.2 h0.1 h0.2
    have hm3 := mul3600 hm.1 hm.2 h0.1 h0.2
    have hc : b * c * a = a * b * c := by rw [Int.mul_comm (b * c) a, Int.mul_assoc]
    rw [impl_layoutOf.good _ _ _ _ a _ _ _ _ (by simp) rfl h2 (by omega), impl_layoutOf.last _ _ _ _ _ _ _ _ (by decide), rng_dec h0, rng_dec h1, rng_dec h2, Int.one_mul, Int.one_mul, wS (x := a) (by omega) (by omega), wS (x := c) (by omega) (by omega), Int.mul_comm c b, wS (x := a * b) (by omega) (by omega), wS (x := b * c) (by omega) (by omega), hc, wS (x := a * b * c) (by omega) (by omega)]
    simp only [strd, volW, volFrom, Int.one_mul, wS (x := a) (by omega) (by omega), wS (x := b) (by omega) (by omega), wS (x := c) (by omega) (by omega), wS (x := a * b) (by omega) (by omega), wS (x := b * c) (by omega) (by omega), wS (x := a * b * c) (by omega) (by omega), List.drop_succ_cons, List.drop_zero]
    cases decide (a * b * c ≤ 60) <;> rfl
  | a :: b :: c :: d :: t =>
    have h1 : ((((a :: b :: c :: d :: t).length : Nat) : Int) > 3) := by simp; omega
    have h2 : ¬ ((((a :: b :: c :: d :: t).length : Nat) : Int) ≤ 3) := by omega
    have h3 : validS (a :: b :: c :: d :: t) = false := by unfold validS; rw [decide_eq_false h2]; rfl
    rw [decide_eq_true h1, h3]
    rfl

namespace impl_isNumber
noncomputable def E : Entry := ⟨42, true, false, fun | [.d (.int .i64 v)] => true | _ => false, fun | [.d (.int .i64 v)] => ([.one ((.bool (numB v)), false)], []) | _ => ([], []), fun _ => [], false, fun _ => none⟩
end impl_isNumber
namespace impl_isNumber
noncomputable def X : List Entry := []
noncomputable def I : List Inl := [⟨42, Try.f42, ⟨[], [], [], [], [], []⟩⟩]
theorem I_ok : ∀ i ∈ I, Try.prog.funcs[i.f]? = some i.fn ∧ (i.fn.name == "runtime.NumGoroutine") = false := by
  intro i hi
  simp only [I, List.mem_cons, List.not_mem_nil, or_false] at hi
  subst hi
  exact ⟨by kernel_rfl, by kernel_rfl⟩
theorem e (fuel : Nat) (p0 : Int) : runF Try.prog X I 0 fuel 42 Try.f42 [.d (.int .i64 p0)] =
  (bif (decide (((-1000000) : Int) ≤ p0)) then
  some ([.one ((.bool (decide ((p0 : Int) ≤ 1000000))), false)], [])
  else
  some ([.one ((.bool false), false)], [])) := by kernel_rfl
end impl_isNumber
theorem impl_isNumber.ok_of (hX : ∀ E ∈ impl_isNumber.X, CallSpec Try.prog E) (h : ∀ (v : Int), (true) = true → ∃ fuel, runF Try.prog impl_isNumber.X impl_isNumber.I 0 fuel 42 Try.f42 [.d (.int .i64 v)] = some ([.one ((.bool (numB v)), false)], [])) : CallSpec Try.prog impl_isNumber.E :=
  callSpec_of (d := 0) hX (by kernel_rfl) impl_isNumber.I_ok (by kernel_rfl) (by kernel_rfl) (by kernel_rfl) (fun _ _ _ _ h => by dsimp only [impl_isNumber.E] at h; cases h) (fun xs hp => by
    dsimp only [impl_isNumber.E] at hp ⊢
    split at hp
    · exact h _ hp
    · cases hp)
theorem impl_isNumber.ok : CallSpec Try.prog impl_isNumber.E := impl_isNumber.ok_of (by simp [impl_isNumber.X]) fun v _ => ⟨0, by
  rw [impl_isNumber.e]
  unfold numB
  cases decide (-1000000 ≤ v) <;> rfl⟩

namespace impl_ValidArray
noncomputable def E : Entry := ⟨55, true, false, fun | [.d (.agg [(.ints .i64 sh), (.ints .i64 da)])] => decide (sh.length < 9223372036854775808) && decide (da.length < 9223372036854775808) | _ => false, fun | [.d (.agg [(.ints .i64 sh), (.ints .i64 da)])] => ([.one ((.bool (validA sh da)), false)], []) | _ => ([], []), fun _ => [], false, fun _ => none⟩
end impl_ValidArray
namespace impl_ValidArray
noncomputable def X : List Entry := [impl_layoutOf.E, impl_isNumber.E]
noncomputable def I : List Inl := [⟨55, Try.f55, ⟨[10], [(1000005, [0, 1, 2, 3, 4, 5, 6, 7, 8, 9, 10, 11, 12, 13, 14, 15, 16, 17, 18, 19, 20, 21, 22, 23, 27, 28, 29, 30, 31, 32, 33])], [], [], [], []⟩⟩]
theorem I_ok : ∀ i ∈ I, Try.prog.funcs[i.f]? = some i.fn ∧ (i.fn.name == "runtime.NumGoroutine") = false := by
  intro i hi
  simp only [I, List.mem_cons, List.not_mem_nil, or_false] at hi
  subst hi
  exact ⟨by kernel_rfl, by kernel_rfl⟩
noncomputable abbrev L0 (fuel n : Nat) (s : St) (k : Kont) := lAt Try.prog X I fuel true 0 false 55 (bodyOf Try.f55) [1, 1, 1, 0, 1, 0] n s k
noncomputable abbrev k0  (fuel : Nat) : Kont := (kAt Try.prog X I fuel true 0 false 55 (bodyOf Try.f55) [1, 1, 1, 0, 1, 0] [] (endK Try.prog Try.f55))
noncomputable def t0 (p0q1 : List Int) (x0q2 : Int) : St := ⟨[.dead, .dead, .dead, .dead, .dead, .dead, .dead, .dead, .dead, .dead, .dead, .dead, .dead, .dead, .dead, .dead, .dead, .dead, .dead, .dead, .dead, .dead, .dead, .dead, (.imm (.ints .i64 p0q1)), (.imm (.int .i64 ((p0q1.length : Nat) : Int))), (.imm (.int .i64 x0q2)), .dead, .dead, .dead, .dead, .dead, .dead, .dead], hOf [], [], []⟩
theorem e (fuel : Nat) (p0q0 : List Int) (p0q1 : List Int) : runF Try.prog X I 0 fuel 55 Try.f55 [.d (.agg [(.ints .i64 p0q0), (.ints .i64 p0q1)])] =
  (bif decide (p0q0.length < 9223372036854775808) then
  (bif validS p0q0 then
  (bif ((((p0q1.length : Nat) : Int) : Int) != (volW p0q0)) then
  some ([.one ((.bool false), false)], [])
  else
  L0 fuel fuel (t0 p0q1 0) (k0  fuel))
  else
  some ([.one ((.bool false), false)], []))
  else
  none) := by kernel_rfl
theorem s0 (fuel n0 : Nat) (p0q1 : List Int) (x0q2 : Int) : L0 fuel (n0 + 1) (t0 p0q1 x0q2) (k0  fuel) =
  (bif (decide ((x0q2 : Int) < ((p0q1.length : Nat) : Int))) then
  (idx x0q2 p0q1.length).bind fun j5 =>
  (p0q1[j5]?).bind fun v6 =>
  (bif (!(numB v6)) then
  some ([.one ((.bool false), false)], [])
  else
  L0 fuel n0 (t0 p0q1 ((IntKind.wrap .i64 (x0q2 + 1)))) (k0  fuel))
  else
  some ([.one ((.bool true), false)], [])) := by kernel_rfl
end impl_ValidArray
theorem impl_ValidArray.ok_of (hX : ∀ E ∈ impl_ValidArray.X, CallSpec Try.prog E) (h : ∀ (sh : List Int) (da : List Int), (decide (sh.length < 9223372036854775808) && decide (da.length < 9223372036854775808)) = true → ∃ fuel, runF Try.prog impl_ValidArray.X impl_ValidArray.I 0 fuel 55 Try.f55 [.d (.agg [(.ints .i64 sh), (.ints .i64 da)])] = some ([.one ((.bool (validA sh da)), false)], [])) : CallSpec Try.prog impl_ValidArray.E :=
  callSpec_of (d := 0) hX (by kernel_rfl) impl_ValidArray.I_ok (by kernel_rfl) (by kernel_rfl) (by kernel_rfl) (fun _ _ _ _ h => by dsimp only [impl_ValidArray.E] at h; cases h) (fun xs hp => by
    dsimp only [impl_ValidArray.E] at hp ⊢
    split at hp
    · exact h _ _ hp
    · cases hp)
theorem impl_ValidArray.loop (fuel : Nat) (xs : List Int) (hx : xs.length < 9223372036854775808) : ∀ (m n j : Nat), xs.length - j = m → m < n → j ≤ xs.length →
    impl_ValidArray.L0 fuel n (impl_ValidArray.t0 xs (j : Int)) (impl_ValidArray.k0 fuel) = some ([.one (.bool (allB (xs.drop j) (-1000000) 1000000), false)], []) := by
  intro m
  induction m with
  | zero =>
    intro n j h1 h2 h3
    obtain ⟨n, rfl⟩ : ∃ n', n = n' + 1 := ⟨n - 1, by omega⟩
    have hj : ¬ j < xs.length := by omega
    rw [impl_ValidArray.s0, dge hj, dropE hj]
    rfl
  | succ m ih =>
    intro n j h1 h2 h3
    obtain ⟨n, rfl⟩ : ∃ n', n = n' + 1 := ⟨n - 1, by omega⟩
    have hj : j < xs.length := by omega
    rw [impl_ValidArray.s0, dlt hj, idx_nat hj, w1 (by omega), dropS hj]
    simp only [cond_true, Option.bind_some, getS hj, allB_cons, numB_eq]
    rw [ih n (j + 1) (by omega) (by omega) (by omega)]
    cases decide (-1000000 ≤ xs[j]) && decide (xs[j] ≤ 1000000) <;> rfl

theorem impl_ValidArray.ok : CallSpec Try.prog impl_ValidArray.E := impl_ValidArray.ok_of (by simp [impl_ValidArray.X, impl_layoutOf.ok, impl_isNumber.ok]) fun sh da h => by
  simp only [Bool.and_eq_true, decide_eq_true_eq] at h
  refine ⟨da.length + 1, ?_⟩
  rw [impl_ValidArray.e, lt_of h.1]
  have := impl_ValidArray.loop (da.length + 1) da h.2 da.length (da.length + 1) 0 (by omega) (by omega) (by omega)
  simp only [cond_true, List.drop_zero] at this ⊢
  rw [show ((0 : Nat) : Int) = 0 from rfl] at this
  rw [this]
  unfold validA
  cases validS sh
  · rfl
  · cases hb : (((da.length : Nat) : Int) == volW sh) with
    | true => simp [bne, hb]
    | false => simp [bne, hb]

namespace impl_isVector
noncomputable def E : Entry := ⟨41, true, false, fun | [.d (.agg [(.ints .i64 sh), (.ints .i64 da)])] => decide (sh.length < 9223372036854775808) && decide (da.length < 9223372036854775808) | _ => false, fun | [.d (.agg [(.ints .i64 sh), (.ints .i64 da)])] => ([.one ((.bool (vcB sh da)), false)], []) | _ => ([], []), fun _ => [], false, fun _ => none⟩
end impl_isVector
namespace impl_isVector
noncomputable def X : List Entry := [impl_ValidArray.E]
noncomputable def I : List Inl := [⟨41, Try.f41, ⟨[], [], [], [], [], []⟩⟩]
theorem I_ok : ∀ i ∈ I, Try.prog.funcs[i.f]? = some i.fn ∧ (i.fn.name == "runtime.NumGoroutine") = false := by
  intro i hi
  simp only [I, List.mem_cons, List.not_mem_nil, or_false] at hi
  subst hi
  exact ⟨by kernel_rfl, by kernel_rfl⟩
theorem e (fuel : Nat) (p0q0 : List Int) (p0q1 : List Int) : runF Try.prog X I 0 fuel 41 Try.f41 [.d (.agg [(.ints .i64 p0q0), (.ints .i64 p0q1)])] =
  (bif decide (p0q0.length < 9223372036854775808) && decide (p0q1.length < 9223372036854775808) then
  (bif (validA p0q0 p0q1) then
  some ([.one ((.bool ((((p0q0.length : Nat) : Int) : Int) == 1)), false)], [])
  else
  some ([.one ((.bool false), false)], []))
  else
  none) := by kernel_rfl
end impl_isVector
theorem impl_isVector.ok_of (hX : ∀ E ∈ impl_isVector.X, CallSpec Try.prog E) (h : ∀ (sh : List Int) (da : List Int), (decide (sh.length < 9223372036854775808) && decide (da.length < 9223372036854775808)) = true → ∃ fuel, runF Try.prog impl_isVector.X impl_isVector.I 0 fuel 41 Try.f41 [.d (.agg [(.ints .i64 sh), (.ints .i64 da)])] = some ([.one ((.bool (vcB sh da)), false)], [])) : CallSpec Try.prog impl_isVector.E :=
  callSpec_of (d := 0) hX (by kernel_rfl) impl_isVector.I_ok (by kernel_rfl) (by kernel_rfl) (by kernel_rfl) (fun _ _ _ _ h => by dsimp only [impl_isVector.E] at h; cases h) (fun xs hp => by
    dsimp only [impl_isVector.E] at hp ⊢
    split at hp
    · exact h _ _ hp
    · cases hp)
theorem impl_isVector.ok : CallSpec Try.prog impl_isVector.E := impl_isVector.ok_of (by simp [impl_isVector.X, impl_ValidArray.ok]) fun sh da h => ⟨0, by
  rw [impl_isVector.e, h]
  unfold vcB
  cases validA sh da with
  | false => rfl
  | true =>
    rw [show ((((sh.length : Nat) : Int)) == 1) = decide (sh.length = 1) by by_cases h : sh.length = 1 <;> simp [h]; omega]
    rfl⟩

namespace impl_limited
noncomputable def E : Entry := ⟨43, true, false, fun | [.d (.int .i64 n)] => true | _ => false, fun | [.d (.int .i64 n)] => ([.one ((.int .i64 (limV n)), false)], []) | _ => ([], []), fun _ => [], false, fun _ => none⟩
end impl_limited
namespace impl_limited
noncomputable def X : List Entry := []
noncomputable def I : List Inl := [⟨43, Try.f43, ⟨[], [], [], [], [], []⟩⟩]
theorem I_ok : ∀ i ∈ I, Try.prog.funcs[i.f]? = some i.fn ∧ (i.fn.name == "runtime.NumGoroutine") = false := by
  intro i hi
  simp only [I, List.mem_cons, List.not_mem_nil, or_false] at hi
  subst hi
  exact ⟨by kernel_rfl, by kernel_rfl⟩
theorem e (fuel : Nat) (p0 : Int) : runF Try.prog X I 0 fuel 43 Try.f43 [.d (.int .i64 p0)] =
  some ([.one ((.int .i64 (minI (maxI p0 (-1000000)) 1000000)), false)], []) := by kernel_rfl
end impl_limited
theorem impl_limited.ok_of (hX : ∀ E ∈ impl_limited.X, CallSpec Try.prog E) (h : ∀ (n : Int), (true) = true → ∃ fuel, runF Try.prog impl_limited.X impl_limited.I 0 fuel 43 Try.f43 [.d (.int .i64 n)] = some ([.one ((.int .i64 (limV n)), false)], [])) : CallSpec Try.prog impl_limited.E :=
  callSpec_of (d := 0) hX (by kernel_rfl) impl_limited.I_ok (by kernel_rfl) (by kernel_rfl) (by kernel_rfl) (fun _ _ _ _ h => by dsimp only [impl_limited.E] at h; cases h) (fun xs hp => by
    dsimp only [impl_limited.E] at hp ⊢
    split at hp
    · exact h _ hp
    · cases hp)
theorem impl_limited.ok : CallSpec Try.prog impl_limited.E := impl_limited.ok_of (by simp [impl_limited.X]) fun n _ => ⟨0, by rw [impl_limited.e]; rfl⟩

namespace impl_PolyAt
noncomputable def E : Entry := ⟨20, true, false, fun | [.d (.agg [(.ints .i64 sh), (.ints .i64 da)]), .d (.int .i64 x)] => decide (sh.length < 9223372036854775808) && decide (da.length < 9223372036854775808) | _ => false, fun | [.d (.agg [(.ints .i64 sh), (.ints .i64 da)]), .d (.int .i64 x)] => ([.one ((.int .i64 (poV sh da x)), false), .one ((.bool (poB sh da x)), false)], []) | _ => ([], []), fun _ => [], false, fun _ => none⟩
end impl_PolyAt
namespace impl_PolyAt
noncomputable def X : List Entry := [impl_isVector.E, impl_isNumber.E, impl_limited.E]
noncomputable def I : List Inl := [⟨20, Try.f20, ⟨[], [(1000005, [0, 2, 3, 4, 5, 7, 8, 9, 10, 11, 12, 13, 14, 15, 16, 17, 21, 22, 23, 24, 25, 26, 27, 28, 29, 30, 31, 32])], [], [], [], []⟩⟩]
theorem I_ok : ∀ i ∈ I, Try.prog.funcs[i.f]? = some i.fn ∧ (i.fn.name == "runtime.NumGoroutine") = false := by
  intro i hi
  simp only [I, List.mem_cons, List.not_mem_nil, or_false] at hi
  subst hi
  exact ⟨by kernel_rfl, by kernel_rfl⟩
noncomputable abbrev L0 (fuel n : Nat) (s : St) (k : Kont) := lAt Try.prog X I fuel true 0 false 20 (bodyOf Try.f20) [1, 1, 1, 0, 1, 0] n s k
noncomputable abbrev k0  (fuel : Nat) : Kont := (kAt Try.prog X I fuel true 0 false 20 (bodyOf Try.f20) [1, 1, 1, 0, 1, 0] [] (endK Try.prog Try.f20))
noncomputable def t0 (p1 : Int) (p0q1 : List Int) (x0q1 : Int) (x0q4 : Int) : St := ⟨[.dead, (.imm (.int .i64 p1)), .dead, .dead, .dead, .dead, (.imm (.int .i64 x0q1)), .dead, .dead, .dead, .dead, .dead, .dead, .dead, .dead, .dead, .dead, .dead, (.imm (.ints .i64 p0q1)), (.imm (.int .i64 ((p0q1.length : Nat) : Int))), (.imm (.int .i64 x0q4)), .dead, .dead, .dead, .dead, .dead, .dead, .dead, .dead, .dead, .dead, .dead, .dead], hOf [], [], []⟩
theorem e (fuel : Nat) (p0q0 : List Int) (p0q1 : List Int) (p1 : Int) : runF Try.prog X I 0 fuel 20 Try.f20 [.d (.agg [(.ints .i64 p0q0), (.ints .i64 p0q1)]), .d (.int .i64 p1)] =
  (bif decide (p0q0.length < 9223372036854775808) && decide (p0q1.length < 9223372036854775808) then
  (bif (!(vcB p0q0 p0q1)) then
  some ([.one ((.int .i64 0), false), .one ((.bool false), false)], [])
  else
  (bif (!(numB p1)) then
  some ([.one ((.int .i64 0), false), .one ((.bool false), false)], [])
  else
  L0 fuel fuel (t0 p1 p0q1 0 0) (k0  fuel)))
  else
  none) := by kernel_rfl
theorem s0 (fuel n0 : Nat) (p1 : Int) (p0q1 : List Int) (x0q1 : Int) (x0q4 : Int) : L0 fuel (n0 + 1) (t0 p1 p0q1 x0q1 x0q4) (k0  fuel) =
  (bif (decide ((x0q4 : Int) < ((p0q1.length : Nat) : Int))) then
  (idx x0q4 p0q1.length).bind fun j5 =>
  (p0q1[j5]?).bind fun v6 =>
  L0 fuel n0 (t0 p1 p0q1 ((limV ((IntKind.wrap .i64 ((limV ((IntKind.wrap .i64 (x0q1 * p1)))) + v6))))) ((IntKind.wrap .i64 (x0q4 + 1)))) (k0  fuel)
  else
  some ([.one ((.int .i64 x0q1), false), .one ((.bool true), false)], [])) := by kernel_rfl
end impl_PolyAt
theorem impl_PolyAt.ok_of (hX : ∀ E ∈ impl_PolyAt.X, CallSpec Try.prog E) (h : ∀ (sh : List Int) (da : List Int) (x : Int), (decide (sh.length < 9223372036854775808) && decide (da.length < 9223372036854775808)) = true → ∃ fuel, runF Try.prog impl_PolyAt.X impl_PolyAt.I 0 fuel 20 Try.f20 [.d (.agg [(.ints .i64 sh), (.ints .i64 da)]), .d (.int .i64 x)] = some ([.one ((.int .i64 (poV sh da x)), false), .one ((.bool (poB sh da x)), false)], [])) : CallSpec Try.prog impl_PolyAt.E :=
  callSpec_of (d := 0) hX (by kernel_rfl) impl_PolyAt.I_ok (by kernel_rfl) (by kernel_rfl) (by kernel_rfl) (fun _ _ _ _ h => by dsimp only [impl_PolyAt.E] at h; cases h) (fun xs hp => by
    dsimp only [impl_PolyAt.E] at hp ⊢
    split at hp
    · exact h _ _ _ hp
    · cases hp)
theorem impl_PolyAt.loop (fuel : Nat) (da : List Int) (x : Int) (hx : da.length ≤ 60) : ∀ (m n j : Nat) (a : Int), da.length - j = m → m < n → j ≤ da.length →
    impl_PolyAt.L0 fuel n (impl_PolyAt.t0 x da a (j : Int)) (impl_PolyAt.k0 fuel) = some ([.one (.int .i64 (poF x (da.drop j) a), false), .one (.bool true, false)], []) := by
  intro m
  induction m with
  | zero =>
    intro n j a h1 h2 h3
    obtain ⟨n, rfl⟩ : ∃ n', n = n' + 1 := ⟨n - 1, by omega⟩
    have hj : ¬ j < da.length := by omega
    rw [impl_PolyAt.s0, dge hj, dropE hj]
    rfl
  | succ m ih =>
    intro n j a h1 h2 h3
    obtain ⟨n, rfl⟩ : ∃ n', n = n' + 1 := ⟨n - 1, by omega⟩
    have hj : j < da.length := by omega
    rw [impl_PolyAt.s0, dlt hj, idx_nat hj, w1 (by omega), dropS hj]
    simp only [cond_true, Option.bind_some, getS hj, poF]
    exact ih n (j + 1) _ (by omega) (by omega) (by omega)
theorem impl_PolyAt.ok : CallSpec Try.prog impl_PolyAt.E := impl_PolyAt.ok_of (by simp [impl_PolyAt.X, impl_isVector.ok, impl_isNumber.ok, impl_limited.ok]) fun sh da x h => ⟨da.length + 1, by
  rw [impl_PolyAt.e, h]
  unfold poV poB
  cases hb : vcB sh da with
  | false => rfl
  | true =>
    obtain ⟨_, _, hl, _⟩ := vcB_inv hb
    simp only [cond_true]
    cases hn : numB x with
    | false => rfl
    | true => exact impl_PolyAt.loop (da.length + 1) da x hl da.length (da.length + 1) 0 0 (by omega) (by omega) (by omega)⟩

namespace laws_eqArray
noncomputable def E : Entry := ⟨21, true, false, fun | [.d (.agg [(.ints .i64 sa), (.ints .i64 da)]), .d (.agg [(.ints .i64 sb), (.ints .i64 db)])] => decide (sa.length < 9223372036854775808) && decide (da.length < 9223372036854775808) && decide (sb.length < 9223372036854775808) && decide (db.length < 9223372036854775808) | _ => false, fun | [.d (.agg [(.ints .i64 sa), (.ints .i64 da)]), .d (.agg [(.ints .i64 sb), (.ints .i64 db)])] => ([.one ((.bool (decide (sa = sb) && decide (da = db))), false)], []) | _ => ([], []), fun _ => [], false, fun _ => none⟩
end laws_eqArray
namespace laws_eqArray
noncomputable def X : List Entry := [laws_eqIntS.E]
noncomputable def I : List Inl := [⟨21, Try.f21, ⟨[], [], [], [], [], []⟩⟩]
theorem I_ok : ∀ i ∈ I, Try.prog.funcs[i.f]? = some i.fn ∧ (i.fn.name == "runtime.NumGoroutine") = false := by
  intro i hi
  simp only [I, List.mem_cons, List.not_mem_nil, or_false] at hi
  subst hi
  exact ⟨by kernel_rfl, by kernel_rfl⟩
theorem e (fuel : Nat) (p0q0 : List Int) (p0q1 : List Int) (p1q0 : List Int) (p1q1 : List Int) : runF Try.prog X I 0 fuel 21 Try.f21 [.d (.agg [(.ints .i64 p0q0), (.ints .i64 p0q1)]), .d (.agg [(.ints .i64 p1q0), (.ints .i64 p1q1)])] =
  (bif decide (p0q0.length < 9223372036854775808) && decide (p1q0.length < 9223372036854775808) then
  (bif (!(decide (p0q0 = p1q0))) then
  some ([.one ((.bool false), false)], [])
  else
  (bif decide (p0q1.length < 9223372036854775808) && decide (p1q1.length < 9223372036854775808) then
  (bif (!(decide (p0q1 = p1q1))) then
  some ([.one ((.bool false), false)], [])
  else
  some ([.one ((.bool true), false)], []))
  else
  none))
  else
  none) := by kernel_rfl
end laws_eqArray
theorem laws_eqArray.ok_of (hX : ∀ E ∈ laws_eqArray.X, CallSpec Try.prog E) (h : ∀ (sa : List Int) (da : List Int) (sb : List Int) (db : List Int), (decide (sa.length < 9223372036854775808) && decide (da.length < 9223372036854775808) && decide (sb.length < 9223372036854775808) && decide (db.length < 9223372036854775808)) = true → ∃ fuel, runF Try.prog laws_eqArray.X laws_eqArray.I 0 fuel 21 Try.f21 [.d (.agg [(.ints .i64 sa), (.ints .i64 da)]), .d (.agg [(.ints .i64 sb), (.ints .i64 db)])] = some ([.one ((.bool (decide (sa = sb) && decide (da = db))), false)], [])) : CallSpec Try.prog laws_eqArray.E :=
  callSpec_of (d := 0) hX (by kernel_rfl) laws_eqArray.I_ok (by kernel_rfl) (by kernel_rfl) (by kernel_rfl) (fun _ _ _ _ h => by dsimp only [laws_eqArray.E] at h; cases h) (fun xs hp => by
    dsimp only [laws_eqArray.E] at hp ⊢
    split at hp
    · exact h _ _ _ _ hp
    · cases hp)
theorem laws_eqArray.ok : CallSpec Try.prog laws_eqArray.E := laws_eqArray.ok_of (by simp [laws_eqArray.X, laws_eqIntS.ok]) fun sa da sb db h => ⟨0, by
  simp only [Bool.and_eq_true, decide_eq_true_eq] at h
  obtain ⟨⟨⟨h1, h2⟩, h3⟩, h4⟩ := h
  rw [laws_eqArray.e]
  simp only [h1, h2, h3, h4, decide_true, Bool.and_self, cond_true]
  cases decide (sa = sb) <;> cases decide (da = db) <;> rfl⟩

namespace laws_FnExactPolyAt
noncomputable def E : Entry := ⟨5, true, false, fun | [.d (.agg [(.ints .i64 sh), (.ints .i64 da)]), .d (.int .i64 x)] => decide (sh.length < 9223372036854775808) && decide (da.length < 9223372036854775808) | _ => false, fun | [.d (.agg [(.ints .i64 sh), (.ints .i64 da)]), .d (.int .i64 x)] => ([.one ((.bool true), false)], []) | _ => ([], []), fun _ => [], false, fun _ => none⟩
end laws_FnExactPolyAt
namespace laws_FnExactPolyAt
noncomputable def X : List Entry := [laws_szArray.E, laws_toArray.E, spec_PolyAt.E, impl_PolyAt.E, laws_eqArray.E]
noncomputable def I : List Inl := [⟨5, Try.f5, ⟨[18, 24, 41], [], [], [], [], []⟩⟩]
theorem I_ok : ∀ i ∈ I, Try.prog.funcs[i.f]? = some i.fn ∧ (i.fn.name == "runtime.NumGoroutine") = false := by
  intro i hi
  simp only [I, List.mem_cons, List.not_mem_nil, or_false] at hi
  subst hi
  exact ⟨by kernel_rfl, by kernel_rfl⟩
theorem e (fuel : Nat) (p0q0 : List Int) (p0q1 : List Int) (p1 : Int) : runF Try.prog X I 0 fuel 5 Try.f5 [.d (.agg [(.ints .i64 p0q0), (.ints .i64 p0q1)]), .d (.int .i64 p1)] =
  (bif (decide (((szA p0q0 p0q1 1048576) : Int) < 0)) then
  some ([.one ((.bool true), false)], [])
  else
  (bif szB p0q0 && szB p0q1 then
  (bif decide (p0q0.length < 9223372036854775808) && decide (p0q1.length < 9223372036854775808) then
  (bif szB p0q0 && szB p0q1 then
  (bif decide (p0q0.length < 9223372036854775808) && decide (p0q1.length < 9223372036854775808) then
  (bif (((poV p0q0 p0q1 p1) : Int) != (poV p0q0 p0q1 p1)) then
  some ([.one ((.bool false), false)], [])
  else
  (bif (!((poB p0q0 p0q1 p1) == (poB p0q0 p0q1 p1))) then
  some ([.one ((.bool false), false)], [])
  else
  (bif szB p0q0 && szB p0q1 then
  (bif decide (p0q0.length < 9223372036854775808) && decide (p0q1.length < 9223372036854775808) && decide (p0q0.length < 9223372036854775808) && decide (p0q1.length < 9223372036854775808) then
  (bif (!(decide (p0q0 = p0q0) && decide (p0q1 = p0q1))) then
  some ([.one ((.bool false), false)], [])
  else
  some ([.one ((.bool true), false)], []))
  else
  none)
  else
  none)))
  else
  none)
  else
  none)
  else
  none)
  else
  none)) := by kernel_rfl
end laws_FnExactPolyAt
theorem laws_FnExactPolyAt.ok_of (hX : ∀ E ∈ laws_FnExactPolyAt.X, CallSpec Try.prog E) (h : ∀ (sh : List Int) (da : List Int) (x : Int), (decide (sh.length < 9223372036854775808) && decide (da.length < 9223372036854775808)) = true → ∃ fuel, runF Try.prog laws_FnExactPolyAt.X laws_FnExactPolyAt.I 0 fuel 5 Try.f5 [.d (.agg [(.ints .i64 sh), (.ints .i64 da)]), .d (.int .i64 x)] = some ([.one ((.bool true), false)], [])) : CallSpec Try.prog laws_FnExactPolyAt.E :=
  callSpec_of (d := 0) hX (by kernel_rfl) laws_FnExactPolyAt.I_ok (by kernel_rfl) (by kernel_rfl) (by kernel_rfl) (fun _ _ _ _ h => by dsimp only [laws_FnExactPolyAt.E] at h; cases h) (fun xs hp => by
    dsimp only [laws_FnExactPolyAt.E] at hp ⊢
    split at hp
    · exact h _ _ _ hp
    · cases hp)
theorem laws_FnExactPolyAt.ok : CallSpec Try.prog laws_FnExactPolyAt.E := laws_FnExactPolyAt.ok_of (by simp [laws_FnExactPolyAt.X, laws_szArray.ok, laws_toArray.ok, spec_PolyAt.ok, impl_PolyAt.ok, laws_eqArray.ok]) fun sh da x h => ⟨0, by
  rw [laws_FnExactPolyAt.e]
  simp only [Bool.and_eq_true] at h
  obtain ⟨g0, g1⟩ := h
  by_cases a0 : szA sh da 1048576 < 0
  · rw [decide_eq_true a0]; rfl
  obtain ⟨q0, p0⟩ := szA_le (by omega) (by omega) (of_decide_eq_true g0) (of_decide_eq_true g1) a0
  have z0 := szB_of (xs := sh) (by omega)
  have z1 := szB_of (xs := da) (by omega)
  have mk := mark2_ok (xs := sh) (ys := da) (by omega) (by omega)
  simp only [decide_eq_false a0, g0, g1, z0, z1, mk, bne_self_eq_false, beq_self_eq_true, decide_true, Bool.and_self, Bool.not_true, cond_true, cond_false]⟩

namespace spec_copyInts
noncomputable def E : Entry := ⟨59, false, false, fun | [.d (.ints .i64 xs)] => szB xs | _ => false, fun | [.d (.ints .i64 xs)] => ([.one ((.ints .i64 xs), true)], []) | _ => ([], []), fun _ => [], true, fun _ => none⟩
end spec_copyInts
namespace spec_copyInts
noncomputable def X : List Entry := []
noncomputable def I : List Inl := [⟨59, Try.f59, ⟨[], [], [], [], [], []⟩⟩]
theorem I_ok : ∀ i ∈ I, Try.prog.funcs[i.f]? = some i.fn ∧ (i.fn.name == "runtime.NumGoroutine") = false := by
  intro i hi
  simp only [I, List.mem_cons, List.not_mem_nil, or_false] at hi
  subst hi
  exact ⟨by kernel_rfl, by kernel_rfl⟩
theorem e (fuel : Nat) (p0 : List Int) : runF Try.prog X I 0 fuel 59 Try.f59 [.d (.ints .i64 p0)] =
  (bif fits (([] : List Int).length + p0.length) 8 then
  some ([.one ((.ints .i64 (([] : List Int) ++ p0)), true)], [])
  else
  none) := by kernel_rfl
end spec_copyInts
theorem spec_copyInts.ok_of (hX : ∀ E ∈ spec_copyInts.X, CallSpec Try.prog E) (h : ∀ (xs : List Int), (szB xs) = true → ∃ fuel, runF Try.prog spec_copyInts.X spec_copyInts.I 0 fuel 59 Try.f59 [.d (.ints .i64 xs)] = some ([.one ((.ints .i64 xs), true)], [])) : CallSpec Try.prog spec_copyInts.E :=
  callSpec_of (d := 0) hX (by kernel_rfl) spec_copyInts.I_ok (by kernel_rfl) (by kernel_rfl) (by kernel_rfl) (fun _ _ _ _ h => by dsimp only [spec_copyInts.E] at h; cases h) (fun xs hp => by
    dsimp only [spec_copyInts.E] at hp ⊢
    split at hp
    · exact h _ hp
    · cases hp)
theorem spec_copyInts.ok : CallSpec Try.prog spec_copyInts.E := spec_copyInts.ok_of (by simp [spec_copyInts.X]) fun xs h => ⟨0, by
  have hx := szB_le h
  rw [spec_copyInts.e, fitsOk (by simp; omega)]
  rfl⟩

namespace spec_make1
noncomputable def E : Entry := ⟨49, false, false, fun | [.d (.ints .i64 sh), .d (.ints .i64 da)] => szB sh && szB da | _ => false, fun | [.d (.ints .i64 sh), .d (.ints .i64 da)] => ([.agg [((.ints .i64 sh), true), ((.ints .i64 da), true)]], []) | _ => ([], []), fun _ => [], true, fun _ => none⟩
end spec_make1
namespace spec_make1
noncomputable def X : List Entry := [spec_copyInts.E]
noncomputable def I : List Inl := [⟨49, Try.f49, ⟨[6, 8], [], [], [], [], []⟩⟩]
theorem I_ok : ∀ i ∈ I, Try.prog.funcs[i.f]? = some i.fn ∧ (i.fn.name == "runtime.NumGoroutine") = false := by
  intro i hi
  simp only [I, List.mem_cons, List.not_mem_nil, or_false] at hi
  subst hi
  exact ⟨by kernel_rfl, by kernel_rfl⟩
theorem e (fuel : Nat) (p0 : List Int) (p1 : List Int) : runF Try.prog X I 0 fuel 49 Try.f49 [.d (.ints .i64 p0), .d (.ints .i64 p1)] =
  (bif szB p0 then
  (bif szB p1 then
  some ([.agg [((.ints .i64 p0), true), ((.ints .i64 p1), true)]], [])
  else
  none)
  else
  none) := by kernel_rfl
end spec_make1
theorem spec_make1.ok_of (hX : ∀ E ∈ spec_make1.X, CallSpec Try.prog E) (h : ∀ (sh : List Int) (da : List Int), (szB sh && szB da) = true → ∃ fuel, runF Try.prog spec_make1.X spec_make1.I 0 fuel 49 Try.f49 [.d (.ints .i64 sh), .d (.ints .i64 da)] = some ([.agg [((.ints .i64 sh), true), ((.ints .i64 da), true)]], [])) : CallSpec Try.prog spec_make1.E :=
  callSpec_of (d := 0) hX (by kernel_rfl) spec_make1.I_ok (by kernel_rfl) (by kernel_rfl) (by kernel_rfl) (fun _ _ _ _ h => by dsimp only [spec_make1.E] at h; cases h) (fun xs hp => by
    dsimp only [spec_make1.E] at hp ⊢
    split at hp
    · exact h _ _ hp
    · cases hp)
theorem spec_make1.ok : CallSpec Try.prog spec_make1.E := spec_make1.ok_of (by simp [spec_make1.X, spec_copyInts.ok]) fun sh da h => ⟨0, by
  simp only [Bool.and_eq_true] at h
  rw [spec_make1.e, h.1, h.2]
  rfl⟩

namespace spec_vector
noncomputable def E : Entry := ⟨44, false, false, fun | [.d (.ints .i64 xs)] => szB xs | _ => false, fun | [.d (.ints .i64 xs)] => ([.agg [((.ints .i64 [((xs.length : Nat) : Int)]), true), ((.ints .i64 xs), true)]], []) | _ => ([], []), fun _ => [], true, fun _ => none⟩
end spec_vector
namespace spec_vector
noncomputable def X : List Entry := [spec_make1.E]
noncomputable def I : List Inl := [⟨44, Try.f44, ⟨[7], [], [], [], [5], []⟩⟩]
theorem I_ok : ∀ i ∈ I, Try.prog.funcs[i.f]? = some i.fn ∧ (i.fn.name == "runtime.NumGoroutine") = false := by
  intro i hi
  simp only [I, List.mem_cons, List.not_mem_nil, or_false] at hi
  subst hi
  exact ⟨by kernel_rfl, by kernel_rfl⟩
theorem e (fuel : Nat) (p0 : List Int) : runF Try.prog X I 0 fuel 44 Try.f44 [.d (.ints .i64 p0)] =
  (bif szB (([((p0.length : Nat) : Int)] : List Int)) && szB p0 then
  some ([.agg [((.ints .i64 (([((p0.length : Nat) : Int)] : List Int))), true), ((.ints .i64 p0), true)]], [])
  else
  none) := by kernel_rfl
end spec_vector
theorem spec_vector.ok_of (hX : ∀ E ∈ spec_vector.X, CallSpec Try.prog E) (h : ∀ (xs : List Int), (szB xs) = true → ∃ fuel, runF Try.prog spec_vector.X spec_vector.I 0 fuel 44 Try.f44 [.d (.ints .i64 xs)] = some ([.agg [((.ints .i64 [((xs.length : Nat) : Int)]), true), ((.ints .i64 xs), true)]], [])) : CallSpec Try.prog spec_vector.E :=
  callSpec_of (d := 0) hX (by kernel_rfl) spec_vector.I_ok (by kernel_rfl) (by kernel_rfl) (by kernel_rfl) (fun _ _ _ _ h => by dsimp only [spec_vector.E] at h; cases h) (fun xs hp => by
    dsimp only [spec_vector.E] at hp ⊢
    split at hp
    · exact h _ hp
    · cases hp)
theorem spec_vector.ok : CallSpec Try.prog spec_vector.E := spec_vector.ok_of (by simp [spec_vector.X, spec_make1.ok]) fun xs h => ⟨0, by
  rw [spec_vector.e, h, szB_of (by simp)]
  rfl⟩

namespace spec_BitsOf
noncomputable def E : Entry := ⟨22, false, false, fun | [.d (.int .i64 n)] => true | _ => false, fun | [.d (.int .i64 n)] => ([.agg [((.ints .i64 (btS n)), true), ((.ints .i64 (btD n)), true)]], []) | _ => ([], []), fun _ => [], true, fun _ => none⟩
end spec_BitsOf
namespace spec_BitsOf
noncomputable def X : List Entry := [spec_inRange.E, spec_vector.E]
noncomputable def I : List Inl := [⟨22, Try.f22, ⟨[22], [(1000004, [1, 4, 5, 6, 7, 8, 9, 10, 11, 12, 13, 14, 15, 16, 17, 18, 19, 20, 21, 22])], [], [], [], []⟩⟩]
theorem I_ok : ∀ i ∈ I, Try.prog.funcs[i.f]? = some i.fn ∧ (i.fn.name == "runtime.NumGoroutine") = false := by
  intro i hi
  simp only [I, List.mem_cons, List.not_mem_nil, or_false] at hi
  subst hi
  exact ⟨by kernel_rfl, by kernel_rfl⟩
noncomputable abbrev L0 (fuel n : Nat) (s : St) (k : Kont) := lAt Try.prog X I fuel true 0 false 22 (bodyOf Try.f22) [1, 1, 1, 0, 0] n s k
noncomputable abbrev k0  (fuel : Nat) : Kont := (kAt Try.prog X I fuel true 0 false 22 (bodyOf Try.f22) [1, 1, 1, 0, 0] [] (endK Try.prog Try.f22))
noncomputable def t0 (x0q0 : Int) (x0q1 : List Int) : St := ⟨[(.imm (.int .i64 x0q0)), .dead, (.ptr 1000000000 0 0), (.all 1000000001 1), .dead, .dead, .dead, .dead, .dead, .dead, .dead, .dead, .dead, .dead, .dead, .dead, .dead, .dead, .dead, .dead, .dead, .dead, .dead], hOf [(1000000000, (.box [(.imm .nils), (.imm .nils)])), (1000000001, (.ints .i64 x0q1))], [], []⟩
theorem e (fuel : Nat) (p0 : Int) : runF Try.prog X I 0 fuel 22 Try.f22 [.d (.int .i64 p0)] =
  (bif (!(decide (0 ≤ p0) && decide (p0 ≤ 1000000))) then
  some ([.agg [((.ints .i64 []), true), ((.ints .i64 []), true)]], [])
  else
  L0 fuel fuel (t0 p0 ([])) (k0  fuel)) := by kernel_rfl
theorem s0 (fuel n0 : Nat) (x0q0 : Int) (x0q1 : List Int) : L0 fuel (n0 + 1) (t0 x0q0 x0q1) (k0  fuel) =
  (bif (decide ((x0q0 : Int) > 1)) then
  (bif fits (([(Int.tmod x0q0 2)] : List Int).length + x0q1.length) 8 then
  L0 fuel n0 (t0 ((IntKind.wrap .i64 (Int.tdiv x0q0 2))) ((([(Int.tmod x0q0 2)] : List Int) ++ x0q1))) (k0  fuel)
  else
  none)
  else
  (bif fits (([x0q0] : List Int).length + x0q1.length) 8 then
  (bif szB ((([x0q0] : List Int) ++ x0q1)) then
  some ([.agg [((.ints .i64 [((((([x0q0] : List Int) ++ x0q1)).length : Nat) : Int)]), true), ((.ints .i64 ((([x0q0] : List Int) ++ x0q1))), true)]], [])
  else
  none)
  else
  none)) := by kernel_rfl
end spec_BitsOf
theorem spec_BitsOf.ok_of (hX : ∀ E ∈ spec_BitsOf.X, CallSpec Try.prog E) (h : ∀ (n : Int), (true) = true → ∃ fuel, runF Try.prog spec_BitsOf.X spec_BitsOf.I 0 fuel 22 Try.f22 [.d (.int .i64 n)] = some ([.agg [((.ints .i64 (btS n)), true), ((.ints .i64 (btD n)), true)]], [])) : CallSpec Try.prog spec_BitsOf.E :=
  callSpec_of (d := 0) hX (by kernel_rfl) spec_BitsOf.I_ok (by kernel_rfl) (by kernel_rfl) (by kernel_rfl) (fun _ _ _ _ h => by dsimp only [spec_BitsOf.E] at h; cases h) (fun xs hp => by
    dsimp only [spec_BitsOf.E] at hp ⊢
    split at hp
    · exact h _ hp
    · cases hp)
theorem spec_BitsOf.loop (fuel : Nat) : ∀ (f n : Nat) (out : List Int), n < f → n ≤ 1000000 → (btL n).length + out.length ≤ 60 →
    spec_BitsOf.L0 fuel f (spec_BitsOf.t0 (n : Int) out) (spec_BitsOf.k0 fuel) = some ([.agg [((.ints .i64 [(((btL n ++ out).length : Nat) : Int)]), true), ((.ints .i64 (btL n ++ out)), true)]], []) := by
  intro f
  induction f with
  | zero => intro n _ h; omega
  | succ f ih =>
    intro n out h1 h2 h3
    rw [spec_BitsOf.s0]
    by_cases hn : 1 < n
    · have hs := bt_step hn
      rw [hs, List.length_append, List.length_singleton] at h3
      rw [decide_eq_true (p := (n : Int) > 1) (by omega), cond_true, show Int.tmod (n : Int) 2 = ((n % 2 : Nat) : Int) from rfl, show Int.tdiv (n : Int) 2 = ((n / 2 : Nat) : Int) from rfl, wN (by omega), fitsOk (by simp only [List.length_cons, List.length_nil]; omega), cond_true, ih (n / 2) _ (by omega) (by omega) (by simp only [List.length_append, List.length_singleton]; omega), hs, List.append_assoc]
    · have hs := bt_small (n := n) (by omega)
      rw [hs, List.length_singleton] at h3
      rw [decide_eq_false (p := (n : Int) > 1) (by omega), cond_false, fitsOk (by simp only [List.length_cons, List.length_nil]; omega), cond_true, szB_of (by simp only [List.length_append, List.length_singleton]; omega), hs]
      rfl
theorem spec_BitsOf.ok : CallSpec Try.prog spec_BitsOf.E := spec_BitsOf.ok_of (by simp [spec_BitsOf.X, spec_inRange.ok, spec_vector.ok]) fun n _ => by
  obtain ⟨F, hF⟩ : ∃ F : Nat, 1000000 < F := ⟨1000001, by omega⟩
  refine ⟨F, ?_⟩
  rw [spec_BitsOf.e]
  unfold btS btD btB
  by_cases h0 : 0 ≤ n
  · by_cases h1 : n ≤ 1000000
    · obtain ⟨j, rfl⟩ : ∃ j : Nat, n = j := ⟨n.toNat, by omega⟩
      have hl := log2_le (n := j) (by omega)
      have hb := btL_length j
      rw [decide_eq_true h0, decide_eq_true h1, Int.toNat_natCast]
      have := spec_BitsOf.loop F F j [] (by omega) (by omega) (by simp; omega)
      simp only [List.append_nil, hb] at this
      exact this
    · rw [decide_eq_false h1, Bool.and_false]; rfl
  · rw [decide_eq_false h0, Bool.false_and]; rfl

namespace math_bits_Len64
noncomputable def E : Entry := ⟨57, true, false, fun | [.d (.int .u64 x)] => decide (0 ≤ x) && decide (x ≤ 1000000) | _ => false, fun | [.d (.int .u64 x)] => ([.one ((.int .i64 ((bitN x.toNat : Nat) : Int)), false)], []) | _ => ([], []), fun _ => [], false, fun _ => none⟩
end math_bits_Len64
namespace math_bits_Len64
noncomputable def X : List Entry := []
noncomputable def I : List Inl := [⟨57, Try.f57, ⟨[], [], [], [], [], []⟩⟩]
theorem I_ok : ∀ i ∈ I, Try.prog.funcs[i.f]? = some i.fn ∧ (i.fn.name == "runtime.NumGoroutine") = false := by
  intro i hi
  simp only [I, List.mem_cons, List.not_mem_nil, or_false] at hi
  subst hi
  exact ⟨by kernel_rfl, by kernel_rfl⟩
theorem e (fuel : Nat) (p0 : Int) : runF Try.prog X I 0 fuel 57 Try.f57 [.d (.int .u64 p0)] =
  (bif (decide ((p0 : Int) ≥ 4294967296)) then
  (bif (decide (((Int.fdiv p0 (2 ^ min (32 : Int).toNat (IntKind.bits .u64))) : Int) ≥ 65536)) then
  (bif (decide (((Int.fdiv (Int.fdiv p0 (2 ^ min (32 : Int).toNat (IntKind.bits .u64))) (2 ^ min (16 : Int).toNat (IntKind.bits .u64))) : Int) ≥ 256)) then
  (if 0 ≤ (IntKind.wrap .u8 (Int.fdiv (Int.fdiv (Int.fdiv p0 (2 ^ min (32 : Int).toNat (IntKind.bits .u64))) (2 ^ min (16 : Int).toNat (IntKind.bits .u64))) (2 ^ min (8 : Int).toNat (IntKind.bits .u64)))) then len8T[((IntKind.wrap .u8 (Int.fdiv (Int.fdiv (Int.fdiv p0 (2 ^ min (32 : Int).toNat (IntKind.bits .u64))) (2 ^ min (16 : Int).toNat (IntKind.bits .u64))) (2 ^ min (8 : Int).toNat (IntKind.bits .u64))))).toNat]? else none).bind fun b1 =>
  some ([.one ((.int .i64 (IntKind.wrap .i64 ((IntKind.wrap .i64 ((IntKind.wrap .i64 (32 + 16)) + 8)) + (IntKind.wrap .i64 (b1.toNat : Int))))), false)], [])
  else
  (if 0 ≤ (IntKind.wrap .u8 (Int.fdiv (Int.fdiv p0 (2 ^ min (32 : Int).toNat (IntKind.bits .u64))) (2 ^ min (16 : Int).toNat (IntKind.bits .u64)))) then len8T[((IntKind.wrap .u8 (Int.fdiv (Int.fdiv p0 (2 ^ min (32 : Int).toNat (IntKind.bits .u64))) (2 ^ min (16 : Int).toNat (IntKind.bits .u64))))).toNat]? else none).bind fun b2 =>
  some ([.one ((.int .i64 (IntKind.wrap .i64 ((IntKind.wrap .i64 (32 + 16)) + (IntKind.wrap .i64 (b2.toNat : Int))))), false)], []))
  else
  (bif (decide (((Int.fdiv p0 (2 ^ min (32 : Int).toNat (IntKind.bits .u64))) : Int) ≥ 256)) then
  (if 0 ≤ (IntKind.wrap .u8 (Int.fdiv (Int.fdiv p0 (2 ^ min (32 : Int).toNat (IntKind.bits .u64))) (2 ^ min (8 : Int).toNat (IntKind.bits .u64)))) then len8T[((IntKind.wrap .u8 (Int.fdiv (Int.fdiv p0 (2 ^ min (32 : Int).toNat (IntKind.bits .u64))) (2 ^ min (8 : Int).toNat (IntKind.bits .u64))))).toNat]? else none).bind fun b3 =>
  some ([.one ((.int .i64 (IntKind.wrap .i64 ((IntKind.wrap .i64 (32 + 8)) + (IntKind.wrap .i64 (b3.toNat : Int))))), false)], [])
  else
  (if 0 ≤ (IntKind.wrap .u8 (Int.fdiv p0 (2 ^ min (32 : Int).toNat (IntKind.bits .u64)))) then len8T[((IntKind.wrap .u8 (Int.fdiv p0 (2 ^ min (32 : Int).toNat (IntKind.bits .u64))))).toNat]? else none).bind fun b4 =>
  some ([.one ((.int .i64 (IntKind.wrap .i64 (32 + (IntKind.wrap .i64 (b4.toNat : Int))))), false)], [])))
  else
  (bif (decide ((p0 : Int) ≥ 65536)) then
  (bif (decide (((Int.fdiv p0 (2 ^ min (16 : Int).toNat (IntKind.bits .u64))) : Int) ≥ 256)) then
  (if 0 ≤ (IntKind.wrap .u8 (Int.fdiv (Int.fdiv p0 (2 ^ min (16 : Int).toNat (IntKind.bits .u64))) (2 ^ min (8 : Int).toNat (IntKind.bits .u64)))) then len8T[((IntKind.wrap .u8 (Int.fdiv (Int.fdiv p0 (2 ^ min (16 : Int).toNat (IntKind.bits .u64))) (2 ^ min (8 : Int).toNat (IntKind.bits .u64))))).toNat]? else none).bind fun b5 =>
  some ([.one ((.int .i64 (IntKind.wrap .i64 ((IntKind.wrap .i64 ((IntKind.wrap .i64 (0 + 16)) + 8)) + (IntKind.wrap .i64 (b5.toNat : Int))))), false)], [])
  else
  (if 0 ≤ (IntKind.wrap .u8 (Int.fdiv p0 (2 ^ min (16 : Int).toNat (IntKind.bits .u64)))) then len8T[((IntKind.wrap .u8 (Int.fdiv p0 (2 ^ min (16 : Int).toNat (IntKind.bits .u64))))).toNat]? else none).bind fun b6 =>
  some ([.one ((.int .i64 (IntKind.wrap .i64 ((IntKind.wrap .i64 (0 + 16)) + (IntKind.wrap .i64 (b6.toNat : Int))))), false)], []))
  else
  (bif (decide ((p0 : Int) ≥ 256)) then
  (if 0 ≤ (IntKind.wrap .u8 (Int.fdiv p0 (2 ^ min (8 : Int).toNat (IntKind.bits .u64)))) then len8T[((IntKind.wrap .u8 (Int.fdiv p0 (2 ^ min (8 : Int).toNat (IntKind.bits .u64))))).toNat]? else none).bind fun b7 =>
  some ([.one ((.int .i64 (IntKind.wrap .i64 ((IntKind.wrap .i64 (0 + 8)) + (IntKind.wrap .i64 (b7.toNat : Int))))), false)], [])
  else
  (if 0 ≤ (IntKind.wrap .u8 p0) then len8T[((IntKind.wrap .u8 p0)).toNat]? else none).bind fun b8 =>
  some ([.one ((.int .i64 (IntKind.wrap .i64 (0 + (IntKind.wrap .i64 (b8.toNat : Int))))), false)], [])))) := by kernel_rfl
end math_bits_Len64
theorem math_bits_Len64.ok_of (hX : ∀ E ∈ math_bits_Len64.X, CallSpec Try.prog E) (h : ∀ (x : Int), (decide (0 ≤ x) && decide (x ≤ 1000000)) = true → ∃ fuel, runF Try.prog math_bits_Len64.X math_bits_Len64.I 0 fuel 57 Try.f57 [.d (.int .u64 x)] = some ([.one ((.int .i64 ((bitN x.toNat : Nat) : Int)), false)], [])) : CallSpec Try.prog math_bits_Len64.E :=
  callSpec_of (d := 0) hX (by kernel_rfl) math_bits_Len64.I_ok (by kernel_rfl) (by kernel_rfl) (by kernel_rfl) (fun _ _ _ _ h => by dsimp only [math_bits_Len64.E] at h; cases h) (fun xs hp => by
    dsimp only [math_bits_Len64.E] at hp ⊢
    split at hp
    · exact h _ hp
    · cases hp)
theorem len8_idx {i : Nat} (h : i < 256) : ∃ b : UInt8, (if 0 ≤ IntKind.wrap .u8 ((i : Nat) : Int) then len8T[(IntKind.wrap .u8 ((i : Nat) : Int)).toNat]? else none) = some b ∧ b.toNat = bitN i := by
  have e : IntKind.wrap .u8 ((i : Nat) : Int) = ((i : Nat) : Int) := by
    rw [IntKind.wrap_u8]; omega
  obtain ⟨b, h1, h2⟩ := len8_get h
  refine ⟨b, ?_, h2⟩
  rw [e, if_pos (by omega), Int.toNat_natCast, h1]
theorem bitN_le {n : Nat} (h : n ≤ 1000000) : bitN n ≤ 20 := by
  have := log2_le h
  unfold bitN
  split <;> omega
theorem math_bits_Len64.ok : CallSpec Try.prog math_bits_Len64.E := math_bits_Len64.ok_of (by simp [math_bits_Len64.X]) fun x h => ⟨0, by
  simp only [Bool.and_eq_true, decide_eq_true_eq] at h
  obtain ⟨n, rfl⟩ : ∃ n : Nat, x = n := ⟨x.toNat, by omega⟩
  have hn : n ≤ 1000000 := by omega
  have h20 := bitN_le hn
  rw [math_bits_Len64.e, Int.toNat_natCast]
  have e16 : Int.fdiv (n : Int) (2 ^ min (16 : Int).toNat (IntKind.bits .u64)) = ((n / 65536 : Nat) : Int) := fdivN n 65536
  have e8 : Int.fdiv (n : Int) (2 ^ min (8 : Int).toNat (IntKind.bits .u64)) = ((n / 256 : Nat) : Int) := fdivN n 256
  rw [e16, e8, decide_eq_false (p := (n : Int) ≥ 4294967296) (by omega), cond_false]
  by_cases h1 : 65536 ≤ n
  · obtain ⟨b, q1, q2⟩ := len8_idx (i := n / 65536) (by omega)
    have hb : bitN n = bitN (n / 65536) + 16 := by
      rw [bitN_256 (n := n) (by omega), bitN_256 (n := n / 256) (by omega), Nat.div_div_eq_div_mul]
    rw [decide_eq_true (p := (n : Int) ≥ 65536) (by omega), decide_eq_false (p := ((n / 65536 : Nat) : Int) ≥ 256) (by omega), cond_true, cond_false, q1]
    simp only [Option.bind_some]
    rw [q2, hb, wN (by omega), show IntKind.wrap .i64 (0 + 16) = ((16 : Nat) : Int) from rfl, wAdd (by omega), Nat.add_comm]
  · rw [decide_eq_false (p := (n : Int) ≥ 65536) (by omega), cond_false]
    by_cases h2 : 256 ≤ n
    · obtain ⟨b, q1, q2⟩ := len8_idx (i := n / 256) (by omega)
      have hb := bitN_256 h2
      rw [decide_eq_true (p := (n : Int) ≥ 256) (by omega), cond_true, q1]
      simp only [Option.bind_some]
      rw [q2, hb, wN (by omega), show IntKind.wrap .i64 (0 + 8) = ((8 : Nat) : Int) from rfl, wAdd (by omega), Nat.add_comm]
    · obtain ⟨b, q1, q2⟩ := len8_idx (i := n) (by omega)
      rw [decide_eq_false (p := (n : Int) ≥ 256) (by omega), cond_false, q1]
      simp only [Option.bind_some]
      rw [q2, wN (by omega), Int.zero_add, wN (by omega)]⟩

namespace math_bits_Len
noncomputable def E : Entry := ⟨45, true, false, fun | [.d (.int .u64 x)] => decide (0 ≤ x) && decide (x ≤ 1000000) | _ => false, fun | [.d (.int .u64 x)] => ([.one ((.int .i64 ((bitN x.toNat : Nat) : Int)), false)], []) | _ => ([], []), fun _ => [], false, fun _ => none⟩
end math_bits_Len
namespace math_bits_Len
noncomputable def X : List Entry := [math_bits_Len64.E]
noncomputable def I : List Inl := [⟨45, Try.f45, ⟨[], [(1, [1, 2, 3, 4, 5, 6, 7])], [], [], [], []⟩⟩]
theorem I_ok : ∀ i ∈ I, Try.prog.funcs[i.f]? = some i.fn ∧ (i.fn.name == "runtime.NumGoroutine") = false := by
  intro i hi
  simp only [I, List.mem_cons, List.not_mem_nil, or_false] at hi
  subst hi
  exact ⟨by kernel_rfl, by kernel_rfl⟩
theorem e (fuel : Nat) (p0 : Int) : runF Try.prog X I 0 fuel 45 Try.f45 [.d (.int .u64 p0)] =
  (bif decide (0 ≤ p0) && decide (p0 ≤ 1000000) then
  some ([.one ((.int .i64 ((bitN p0.toNat : Nat) : Int)), false)], [])
  else
  none) := by kernel_rfl
end math_bits_Len
theorem math_bits_Len.ok_of (hX : ∀ E ∈ math_bits_Len.X, CallSpec Try.prog E) (h : ∀ (x : Int), (decide (0 ≤ x) && decide (x ≤ 1000000)) = true → ∃ fuel, runF Try.prog math_bits_Len.X math_bits_Len.I 0 fuel 45 Try.f45 [.d (.int .u64 x)] = some ([.one ((.int .i64 ((bitN x.toNat : Nat) : Int)), false)], [])) : CallSpec Try.prog math_bits_Len.E :=
  callSpec_of (d := 0) hX (by kernel_rfl) math_bits_Len.I_ok (by kernel_rfl) (by kernel_rfl) (by kernel_rfl) (fun _ _ _ _ h => by dsimp only [math_bits_Len.E] at h; cases h) (fun xs hp => by
    dsimp only [math_bits_Len.E] at hp ⊢
    split at hp
    · exact h _ hp
    · cases hp)
theorem math_bits_Len.ok : CallSpec Try.prog math_bits_Len.E := math_bits_Len.ok_of (by simp [math_bits_Len.X, math_bits_Len64.ok]) fun x h => ⟨0, by
  rw [math_bits_Len.e, h]
  rfl⟩

namespace math_bits_Mul64
noncomputable def E : Entry := ⟨64, true, false, fun | [.d (.int .u64 x), .d (.int .u64 y)] => decide (0 ≤ x) && decide (x ≤ 60) && decide (0 ≤ y) && decide (y ≤ 60) | _ => false, fun | [.d (.int .u64 x), .d (.int .u64 y)] => ([.one ((.int .u64 0), false), .one ((.int .u64 (x * y)), false)], []) | _ => ([], []), fun _ => [], false, fun _ => none⟩
end math_bits_Mul64
namespace math_bits_Mul64
noncomputable def X : List Entry := []
noncomputable def I : List Inl := [⟨64, Try.f64, ⟨[], [], [], [], [], []⟩⟩]
theorem I_ok : ∀ i ∈ I, Try.prog.funcs[i.f]? = some i.fn ∧ (i.fn.name == "runtime.NumGoroutine") = false := by
  intro i hi
  simp only [I, List.mem_cons, List.not_mem_nil, or_false] at hi
  subst hi
  exact ⟨by kernel_rfl, by kernel_rfl⟩
theorem e (fuel : Nat) (p0 : Int) (p1 : Int) : runF Try.prog X I 0 fuel 64 Try.f64 [.d (.int .u64 p0), .d (.int .u64 p1)] =
  some ([.one ((.int .u64 (IntKind.wrap .u64 ((IntKind.wrap .u64 ((IntKind.wrap .u64 ((Int.fdiv p0 (2 ^ min (32 : Int).toNat (IntKind.bits .u64))) * (Int.fdiv p1 (2 ^ min (32 : Int).toNat (IntKind.bits .u64))))) + (Int.fdiv (IntKind.wrap .u64 ((IntKind.wrap .u64 ((Int.fdiv p0 (2 ^ min (32 : Int).toNat (IntKind.bits .u64))) * (IntKind.wrap .u64 ((BitVec.ofInt (IntKind.bits .u64) p1 &&& BitVec.ofInt (IntKind.bits .u64) 4294967295).toNat : Int)))) + (Int.fdiv (IntKind.wrap .u64 ((IntKind.wrap .u64 ((BitVec.ofInt (IntKind.bits .u64) p0 &&& BitVec.ofInt (IntKind.bits .u64) 4294967295).toNat : Int)) * (IntKind.wrap .u64 ((BitVec.ofInt (IntKind.bits .u64) p1 &&& BitVec.ofInt (IntKind.bits .u64) 4294967295).toNat : Int)))) (2 ^ min (32 : Int).toNat (IntKind.bits .u64))))) (2 ^ min (32 : Int).toNat (IntKind.bits .u64))))) + (Int.fdiv (IntKind.wrap .u64 ((IntKind.wrap .u64 ((BitVec.ofInt (IntKind.bits .u64) (IntKind.wrap .u64 ((IntKind.wrap .u64 ((Int.fdiv p0 (2 ^ min (32 : Int).toNat (IntKind.bits .u64))) * (IntKind.wrap .u64 ((BitVec.ofInt (IntKind.bits .u64) p1 &&& BitVec.ofInt (IntKind.bits .u64) 4294967295).toNat : Int)))) + (Int.fdiv (IntKind.wrap .u64 ((IntKind.wrap .u64 ((BitVec.ofInt (IntKind.bits .u64) p0 &&& BitVec.ofInt (IntKind.bits .u64) 4294967295).toNat : Int)) * (IntKind.wrap .u64 ((BitVec.ofInt (IntKind.bits .u64) p1 &&& BitVec.ofInt (IntKind.bits .u64) 4294967295).toNat : Int)))) (2 ^ min (32 : Int).toNat (IntKind.bits .u64))))) &&& BitVec.ofInt (IntKind.bits .u64) 4294967295).toNat : Int)) + (IntKind.wrap .u64 ((IntKind.wrap .u64 ((BitVec.ofInt (IntKind.bits .u64) p0 &&& BitVec.ofInt (IntKind.bits .u64) 4294967295).toNat : Int)) * (Int.fdiv p1 (2 ^ min (32 : Int).toNat (IntKind.bits .u64))))))) (2 ^ min (32 : Int).toNat (IntKind.bits .u64)))))), false), .one ((.int .u64 (IntKind.wrap .u64 (p0 * p1))), false)], []) := by kernel_rfl
end math_bits_Mul64
theorem math_bits_Mul64.ok_of (hX : ∀ E ∈ math_bits_Mul64.X, CallSpec Try.prog E) (h : ∀ (x : Int) (y : Int), (decide (0 ≤ x) && decide (x ≤ 60) && decide (0 ≤ y) && decide (y ≤ 60)) = true → ∃ fuel, runF Try.prog math_bits_Mul64.X math_bits_Mul64.I 0 fuel 64 Try.f64 [.d (.int .u64 x), .d (.int .u64 y)] = some ([.one ((.int .u64 0), false), .one ((.int .u64 (x * y)), false)], [])) : CallSpec Try.prog math_bits_Mul64.E :=
  callSpec_of (d := 0) hX (by kernel_rfl) math_bits_Mul64.I_ok (by kernel_rfl) (by kernel_rfl) (by kernel_rfl) (fun _ _ _ _ h => by dsimp only [math_bits_Mul64.E] at h; cases h) (fun xs hp => by
    dsimp only [math_bits_Mul64.E] at hp ⊢
    split at hp
    · exact h _ _ hp
    · cases hp)
theorem mul_and_fin : ∀ a : Fin 61, IntKind.wrap .u64 ((BitVec.ofInt (IntKind.bits .u64) ((a.1 : Nat) : Int) &&& BitVec.ofInt (IntKind.bits .u64) 4294967295).toNat : Int) = ((a.1 : Nat) : Int) := by decide +kernel
theorem mul_and {n : Nat} (h : n ≤ 60) : IntKind.wrap .u64 ((BitVec.ofInt (IntKind.bits .u64) (n : Int) &&& BitVec.ofInt (IntKind.bits .u64) 4294967295).toNat : Int) = (n : Int) := mul_and_fin ⟨n, by omega⟩
theorem mul_shr {n : Nat} (h : n < 4294967296) : Int.fdiv (n : Int) (2 ^ min (32 : Int).toNat (IntKind.bits .u64)) = 0 := by
  have : Int.fdiv (n : Int) (2 ^ min (32 : Int).toNat (IntKind.bits .u64)) = ((n / 4294967296 : Nat) : Int) := fdivN n 4294967296
  rw [this]
  have : n / 4294967296 = 0 := Nat.div_eq_of_lt h
  omega
theorem math_bits_Mul64.ok : CallSpec Try.prog math_bits_Mul64.E := math_bits_Mul64.ok_of (by simp [math_bits_Mul64.X]) fun x y h => ⟨0, by
  simp only [Bool.and_eq_true, decide_eq_true_eq] at h
  obtain ⟨a, rfl⟩ : ∃ n : Nat, x = n := ⟨x.toNat, by omega⟩
  obtain ⟨b, rfl⟩ : ∃ n : Nat, y = n := ⟨y.toNat, by omega⟩
  have ha : a ≤ 60 := by omega
  have hb : b ≤ 60 := by omega
  have hab : a * b ≤ 60 * 60 := Nat.mul_le_mul ha hb
  have e : ((a : Int) * (b : Int)) = ((a * b : Nat) : Int) := by rw [Int.natCast_mul]
  have z0 : IntKind.wrap .u64 0 = 0 := rfl
  have z1 : Int.fdiv 0 (2 ^ min (32 : Int).toNat (IntKind.bits .u64)) = 0 := mul_shr (n := 0) (by omega)
  have z2 : IntKind.wrap .u64 ((BitVec.ofInt (IntKind.bits .u64) 0 &&& BitVec.ofInt (IntKind.bits .u64) 4294967295).toNat : Int) = 0 := mul_and (n := 0) (by omega)
  rw [math_bits_Mul64.e, mul_and ha, mul_and hb, mul_shr (n := a) (by omega), mul_shr (n := b) (by omega), e, wU0 (by omega), mul_shr (n := a * b) (by omega)]
  simp only [Int.zero_mul, Int.mul_zero, Int.add_zero, z0, z1, z2]⟩

namespace math_bits_Mul
noncomputable def E : Entry := ⟨58, true, false, fun | [.d (.int .u64 x), .d (.int .u64 y)] => decide (0 ≤ x) && decide (x ≤ 60) && decide (0 ≤ y) && decide (y ≤ 60) | _ => false, fun | [.d (.int .u64 x), .d (.int .u64 y)] => ([.one ((.int .u64 0), false), .one ((.int .u64 (x * y)), false)], []) | _ => ([], []), fun _ => [], false, fun _ => none⟩
end math_bits_Mul
namespace math_bits_Mul
noncomputable def X : List Entry := [math_bits_Mul64.E]
noncomputable def I : List Inl := [⟨58, Try.f58, ⟨[], [(1, [2, 3, 4, 5, 6, 7, 8, 9, 10, 11, 12, 13, 14, 15, 16, 17, 18, 19, 20, 21, 22, 23, 24, 25, 26, 27, 28, 29])], [], [], [], []⟩⟩]
theorem I_ok : ∀ i ∈ I, Try.prog.funcs[i.f]? = some i.fn ∧ (i.fn.name == "runtime.NumGoroutine") = false := by
  intro i hi
  simp only [I, List.mem_cons, List.not_mem_nil, or_false] at hi
  subst hi
  exact ⟨by kernel_rfl, by kernel_rfl⟩
theorem e (fuel : Nat) (p0 : Int) (p1 : Int) : runF Try.prog X I 0 fuel 58 Try.f58 [.d (.int .u64 p0), .d (.int .u64 p1)] =
  (bif decide (0 ≤ p0) && decide (p0 ≤ 60) && decide (0 ≤ p1) && decide (p1 ≤ 60) then
  some ([.one ((.int .u64 0), false), .one ((.int .u64 (p0 * p1)), false)], [])
  else
  none) := by kernel_rfl
end math_bits_Mul
theorem math_bits_Mul.ok_of (hX : ∀ E ∈ math_bits_Mul.X, CallSpec Try.prog E) (h : ∀ (x : Int) (y : Int), (decide (0 ≤ x) && decide (x ≤ 60) && decide (0 ≤ y) && decide (y ≤ 60)) = true → ∃ fuel, runF Try.prog math_bits_Mul.X math_bits_Mul.I 0 fuel 58 Try.f58 [.d (.int .u64 x), .d (.int .u64 y)] = some ([.one ((.int .u64 0), false), .one ((.int .u64 (x * y)), false)], [])) : CallSpec Try.prog math_bits_Mul.E :=
  callSpec_of (d := 0) hX (by kernel_rfl) math_bits_Mul.I_ok (by kernel_rfl) (by kernel_rfl) (by kernel_rfl) (fun _ _ _ _ h => by dsimp only [math_bits_Mul.E] at h; cases h) (fun xs hp => by
    dsimp only [math_bits_Mul.E] at hp ⊢
    split at hp
    · exact h _ _ hp
    · cases hp)
theorem math_bits_Mul.ok : CallSpec Try.prog math_bits_Mul.E := math_bits_Mul.ok_of (by simp [math_bits_Mul.X, math_bits_Mul64.ok]) fun x y h => ⟨0, by
  rw [math_bits_Mul.e, h]
  rfl⟩

namespace slices_Repeat_int_int
noncomputable def E : Entry := ⟨47, false, false, fun | [.d (.ints .i64 xs), .d (.int .i64 n)] => decide ((xs : List Int).length = 1) && decide (0 ≤ n) && decide (n ≤ 60) | _ => false, fun | [.d (.ints .i64 xs), .d (.int .i64 n)] => ([.one ((.ints .i64 (List.replicate n.toNat (xs.getD 0 0))), true)], []) | _ => ([], []), fun _ => [], true, fun _ => none⟩
end slices_Repeat_int_int
namespace slices_Repeat_int_int
noncomputable def X : List Entry := [math_bits_Mul.E]
noncomputable def I : List Inl := [⟨47, Try.f47, ⟨[], [(1000008, [0, 1, 2, 3, 4, 5, 6, 9, 10, 11, 12, 13, 14, 15, 16, 17, 18, 19, 20, 21, 22, 23, 24, 25, 26, 27, 28, 29, 30, 31, 32, 33, 34, 35, 36, 37, 38, 39, 40, 41, 42, 43, 44, 45, 46, 47])], [], [(9, [0, 1, 2, 4, 5, 3, 6, 7, 8, 9])], [], []⟩⟩]
theorem I_ok : ∀ i ∈ I, Try.prog.funcs[i.f]? = some i.fn ∧ (i.fn.name == "runtime.NumGoroutine") = false := by
  intro i hi
  simp only [I, List.mem_cons, List.not_mem_nil, or_false] at hi
  subst hi
  exact ⟨by kernel_rfl, by kernel_rfl⟩
noncomputable abbrev L0 (fuel n : Nat) (s : St) (k : Kont) := lAt Try.prog X I fuel true 0 false 47 (bodyOf Try.f47) [1, 1, 1, 1, 1, 1, 0, 0] n s k
noncomputable abbrev k0  (fuel : Nat) : Kont := (kAt Try.prog X I fuel true 0 false 47 (bodyOf Try.f47) [1, 1, 1, 1, 1, 1, 0, 0] [] (endK Try.prog Try.f47))
noncomputable def t0 (x0q0 : Int) (x0q1 : List Int) : St := ⟨[.dead, .dead, .dead, .dead, .dead, .dead, .dead, (.all 1000000000 1), (.imm (.int .i64 x0q0)), .dead, .dead, .dead, .dead, .dead, .dead, .dead, .dead, .dead, .dead, .dead, .dead, .dead, .dead, .dead, .dead, .dead, .dead, .dead, .dead, .dead, .dead, .dead, .dead, .dead, .dead, .dead, .dead, .dead, .dead, .dead, .dead, .dead, .dead, .dead, .dead, .dead, .dead, .dead], hOf [(1000000000, (.ints .i64 x0q1))], [], []⟩
theorem e (fuel : Nat) (p0 : List Int) (p1 : Int) : runF Try.prog X I 0 fuel 47 Try.f47 [.d (.ints .i64 p0), .d (.int .i64 p1)] =
  (bif (decide ((p1 : Int) < 0)) then
  none
  else
  (bif decide (0 ≤ ((IntKind.wrap .u64 ((p0.length : Nat) : Int)))) && decide (((IntKind.wrap .u64 ((p0.length : Nat) : Int))) ≤ 60) && decide (0 ≤ ((IntKind.wrap .u64 p1))) && decide (((IntKind.wrap .u64 p1)) ≤ 60) then
  (bif (decide ((0 : Int) > 0)) then
  none
  else
  (bif (decide (((((IntKind.wrap .u64 ((p0.length : Nat) : Int))) * ((IntKind.wrap .u64 p1))) : Int) > 9223372036854775807)) then
  none
  else
  (bif decide (0 ≤ ((IntKind.wrap .i64 (((IntKind.wrap .u64 ((p0.length : Nat) : Int))) * ((IntKind.wrap .u64 p1)))) : Int)) && decide (((IntKind.wrap .i64 (((IntKind.wrap .u64 ((p0.length : Nat) : Int))) * ((IntKind.wrap .u64 p1)))) : Int) ≤ (IntKind.wrap .i64 (((IntKind.wrap .u64 ((p0.length : Nat) : Int))) * ((IntKind.wrap .u64 p1))))) && decide (((IntKind.wrap .i64 (((IntKind.wrap .u64 ((p0.length : Nat) : Int))) * ((IntKind.wrap .u64 p1)))) : Int) ≤ 1152921504606846976) && decide (((8 : Nat) : Int) * (IntKind.wrap .i64 (((IntKind.wrap .u64 ((p0.length : Nat) : Int))) * ((IntKind.wrap .u64 p1)))) ≤ 281474976710656) then
  L0 fuel fuel (t0 (((min p0.length (List.replicate ((IntKind.wrap .i64 (((IntKind.wrap .u64 ((p0.length : Nat) : Int))) * ((IntKind.wrap .u64 p1))))).toNat (0 : Int)).length : Nat) : Int)) ((copyL (List.replicate ((IntKind.wrap .i64 (((IntKind.wrap .u64 ((p0.length : Nat) : Int))) * ((IntKind.wrap .u64 p1))))).toNat (0 : Int)) 0 (List.replicate ((IntKind.wrap .i64 (((IntKind.wrap .u64 ((p0.length : Nat) : Int))) * ((IntKind.wrap .u64 p1))))).toNat (0 : Int)).length p0))) (k0  fuel)
  else
  none)))
  else
  none)) := by kernel_rfl
theorem s0 (fuel n0 : Nat) (x0q0 : Int) (x0q1 : List Int) : L0 fuel (n0 + 1) (t0 x0q0 x0q1) (k0  fuel) =
  (bif (decide ((x0q0 : Int) < ((x0q1.length : Nat) : Int))) then
  (cutEnds x0q1.length (some (.imm (.int .i64 x0q0))) (none)).bind fun cq5 =>
  (cutEnds x0q1.length (none) (some (.imm (.int .i64 x0q0)))).bind fun cq6 =>
  (bif decide (cq6.1 + (cq6.2 - cq6.1) ≤ x0q1.length) then
  (bif decide (cq5.1 + (cq5.2 - cq5.1) ≤ x0q1.length) then
  L0 fuel n0 (t0 ((IntKind.wrap .i64 (x0q0 + ((min ((x0q1.drop cq6.1).take ((cq6.2 - cq6.1))).length ((cq5.2 - cq5.1)) : Nat) : Int)))) ((copyL x0q1 cq5.1 ((cq5.2 - cq5.1)) ((x0q1.drop cq6.1).take ((cq6.2 - cq6.1)))))) (k0  fuel)
  else
  none)
  else
  none)
  else
  some ([.one ((.ints .i64 x0q1), true)], [])) := by kernel_rfl
end slices_Repeat_int_int
theorem slices_Repeat_int_int.ok_of (hX : ∀ E ∈ slices_Repeat_int_int.X, CallSpec Try.prog E) (h : ∀ (xs : List Int) (n : Int), (decide ((xs : List Int).length = 1) && decide (0 ≤ n) && decide (n ≤ 60)) = true → ∃ fuel, runF Try.prog slices_Repeat_int_int.X slices_Repeat_int_int.I 0 fuel 47 Try.f47 [.d (.ints .i64 xs), .d (.int .i64 n)] = some ([.one ((.ints .i64 (List.replicate n.toNat (xs.getD 0 0))), true)], [])) : CallSpec Try.prog slices_Repeat_int_int.E :=
  callSpec_of (d := 0) hX (by kernel_rfl) slices_Repeat_int_int.I_ok (by kernel_rfl) (by kernel_rfl) (by kernel_rfl) (fun _ _ _ _ h => by dsimp only [slices_Repeat_int_int.E] at h; cases h) (fun xs hp => by
    dsimp only [slices_Repeat_int_int.E] at hp ⊢
    split at hp
    · exact h _ _ hp
    · cases hp)
theorem rep_step {N m : Nat} {v : Int} (h1 : m ≤ N) : copyL (List.replicate m v ++ List.replicate (N - m) 0) m (N - m) (List.replicate m v) = List.replicate (m + min m (N - m)) v ++ List.replicate (N - (m + min m (N - m))) 0 := by
  have e1 : min (List.replicate m v).length (N - m) = min m (N - m) := by simp
  unfold copyL spl
  rw [e1, List.take_left' (by simp), List.take_replicate, List.length_replicate, Nat.min_eq_left (Nat.min_le_left _ _), List.replicate_append_replicate]
  congr 1
  rw [List.drop_append, List.drop_eq_nil_of_le (by simp), List.nil_append, List.length_replicate, List.drop_replicate]
  congr 1
  omega
theorem slices_Repeat_int_int.loop (fuel N : Nat) (v : Int) (hN : N ≤ 60) : ∀ (f m : Nat), 1 ≤ m → m ≤ N → N - m < f →
    slices_Repeat_int_int.L0 fuel f (slices_Repeat_int_int.t0 (m : Int) (List.replicate m v ++ List.replicate (N - m) 0)) (slices_Repeat_int_int.k0 fuel) = some ([.one ((.ints .i64 (List.replicate N v)), true)], []) := by
  intro f
  induction f with
  | zero => intro m _ _ h; omega
  | succ f ih =>
    intro m h1 h2 h3
    have hl : (List.replicate m v ++ List.replicate (N - m) 0).length = N := by simp; omega
    rw [slices_Repeat_int_int.s0, hl]
    by_cases hm : m < N
    · have et : ((List.replicate m v ++ List.replicate (N - m) 0).drop 0).take (m - 0) = List.replicate m v := by
        rw [List.drop_zero, Nat.sub_zero, List.take_left' (by simp)]
      rw [dlt hm, cond_true, cut_lo (by omega), cut_hi (by omega)]
      simp only [Option.bind_some]
      rw [decide_eq_true (p := 0 + (m - 0) ≤ N) (by omega), decide_eq_true (p := m + (N - m) ≤ N) (by omega), cond_true, cond_true, et, rep_step (by omega), List.length_replicate, wAdd (by omega)]
      exact ih (m + min m (N - m)) (by omega) (by omega) (by omega)
    · obtain rfl : m = N := by omega
      rw [dge hm, cond_false, Nat.sub_self]
      simp
theorem slices_Repeat_int_int.ok : CallSpec Try.prog slices_Repeat_int_int.E := slices_Repeat_int_int.ok_of (by simp [slices_Repeat_int_int.X, math_bits_Mul.ok]) fun xs n h => by
  obtain ⟨F, hF⟩ : ∃ F : Nat, 100 < F := ⟨101, by omega⟩
  refine ⟨F, ?_⟩
  simp only [Bool.and_eq_true, decide_eq_true_eq] at h
  obtain ⟨N, rfl⟩ : ∃ N : Nat, n = N := ⟨n.toNat, by omega⟩
  obtain ⟨v, rfl⟩ : ∃ v, xs = [v] := by
    match xs, h.1.1 with
    | [v], _ => exact ⟨v, rfl⟩
  have hN : N ≤ 60 := by omega
  have eN : IntKind.wrap .u64 ((N : Nat) : Int) = ((N : Nat) : Int) := wU0 (by omega)
  have e1 : IntKind.wrap .u64 (((([v] : List Int).length : Nat) : Int)) = 1 := rfl
  rw [slices_Repeat_int_int.e, e1, eN, Int.one_mul, wN (by omega), mkOk (by omega) (by omega), decide_eq_false (p := (N : Int) < 0) (by omega), decide_eq_true (p := (0 : Int) ≤ ((N : Nat) : Int)) (by omega), decide_eq_true (p := ((N : Nat) : Int) ≤ 60) (by omega), decide_eq_false (p := ((N : Nat) : Int) > 9223372036854775807) (by omega), Int.toNat_natCast, List.length_replicate]
  show slices_Repeat_int_int.L0 F F (slices_Repeat_int_int.t0 _ _) (slices_Repeat_int_int.k0 F) = _
  by_cases h0 : N = 0
  · subst h0
    obtain ⟨f, rfl⟩ : ∃ f, F = f + 1 := ⟨F - 1, by omega⟩
    rw [slices_Repeat_int_int.s0]
    rfl
  · have e2 : copyL (List.replicate N (0 : Int)) 0 N [v] = List.replicate 1 v ++ List.replicate (N - 1) 0 := by
      obtain ⟨M, rfl⟩ : ∃ M, N = M + 1 := ⟨N - 1, by omega⟩
      unfold copyL spl
      rw [show min ([v] : List Int).length (M + 1) = 1 by simp]
      simp
    have e3 : min ([v] : List Int).length N = 1 := by simp; omega
    rw [e2, e3]
    exact slices_Repeat_int_int.loop F N v hN F 1 (by omega) (by omega) (by omega)

namespace impl_copyList
noncomputable def E : Entry := ⟨51, false, false, fun | [.d (.ints .i64 xs)] => szB xs | _ => false, fun | [.d (.ints .i64 xs)] => ([.one ((.ints .i64 xs), true)], []) | _ => ([], []), fun _ => [], true, fun _ => none⟩
end impl_copyList
namespace impl_copyList
noncomputable def X : List Entry := []
noncomputable def I : List Inl := [⟨51, Try.f51, ⟨[], [], [], [], [], []⟩⟩]
theorem I_ok : ∀ i ∈ I, Try.prog.funcs[i.f]? = some i.fn ∧ (i.fn.name == "runtime.NumGoroutine") = false := by
  intro i hi
  simp only [I, List.mem_cons, List.not_mem_nil, or_false] at hi
  subst hi
  exact ⟨by kernel_rfl, by kernel_rfl⟩
theorem e (fuel : Nat) (p0 : List Int) : runF Try.prog X I 0 fuel 51 Try.f51 [.d (.ints .i64 p0)] =
  (bif decide (0 ≤ (((p0.length : Nat) : Int) : Int)) && decide ((((p0.length : Nat) : Int) : Int) ≤ ((p0.length : Nat) : Int)) && decide ((((p0.length : Nat) : Int) : Int) ≤ 1152921504606846976) && decide (((8 : Nat) : Int) * ((p0.length : Nat) : Int) ≤ 281474976710656) then
  some ([.one ((.ints .i64 (copyL (List.replicate (((p0.length : Nat) : Int)).toNat (0 : Int)) 0 (List.replicate (((p0.length : Nat) : Int)).toNat (0 : Int)).length p0)), true)], [])
  else
  none) := by kernel_rfl
end impl_copyList
theorem impl_copyList.ok_of (hX : ∀ E ∈ impl_copyList.X, CallSpec Try.prog E) (h : ∀ (xs : List Int), (szB xs) = true → ∃ fuel, runF Try.prog impl_copyList.X impl_copyList.I 0 fuel 51 Try.f51 [.d (.ints .i64 xs)] = some ([.one ((.ints .i64 xs), true)], [])) : CallSpec Try.prog impl_copyList.E :=
  callSpec_of (d := 0) hX (by kernel_rfl) impl_copyList.I_ok (by kernel_rfl) (by kernel_rfl) (by kernel_rfl) (fun _ _ _ _ h => by dsimp only [impl_copyList.E] at h; cases h) (fun xs hp => by
    dsimp only [impl_copyList.E] at hp ⊢
    split at hp
    · exact h _ hp
    · cases hp)
theorem impl_copyList.ok : CallSpec Try.prog impl_copyList.E := impl_copyList.ok_of (by simp [impl_copyList.X]) fun xs h => ⟨0, by
  have hx := szB_le h
  rw [impl_copyList.e, mkOk (by omega) (by omega)]
  simp only [cond_true, Int.toNat_natCast, copyL_all]⟩

namespace impl_VectorOf
noncomputable def E : Entry := ⟨46, false, false, fun | [.d (.ints .i64 xs)] => szB xs | _ => false, fun | [.d (.ints .i64 xs)] => ([.agg [((.ints .i64 (vecS xs)), true), ((.ints .i64 (vecD xs)), true)]], []) | _ => ([], []), fun _ => [], true, fun _ => none⟩
end impl_VectorOf
namespace impl_VectorOf
noncomputable def X : List Entry := [impl_ValidArray.E, impl_copyList.E]
noncomputable def I : List Inl := [⟨46, Try.f46, ⟨[15], [], [], [], [], []⟩⟩]
theorem I_ok : ∀ i ∈ I, Try.prog.funcs[i.f]? = some i.fn ∧ (i.fn.name == "runtime.NumGoroutine") = false := by
  intro i hi
  simp only [I, List.mem_cons, List.not_mem_nil, or_false] at hi
  subst hi
  exact ⟨by kernel_rfl, by kernel_rfl⟩
theorem e (fuel : Nat) (p0 : List Int) : runF Try.prog X I 0 fuel 46 Try.f46 [.d (.ints .i64 p0)] =
  (bif decide (([((p0.length : Nat) : Int)]).length < 9223372036854775808) && decide (p0.length < 9223372036854775808) then
  (bif (!(validA ([((p0.length : Nat) : Int)]) p0)) then
  some ([.agg [((.ints .i64 []), true), ((.ints .i64 []), true)]], [])
  else
  (bif szB p0 then
  some ([.agg [((.ints .i64 [((p0.length : Nat) : Int)]), true), ((.ints .i64 p0), true)]], [])
  else
  none))
  else
  none) := by kernel_rfl
end impl_VectorOf
theorem impl_VectorOf.ok_of (hX : ∀ E ∈ impl_VectorOf.X, CallSpec Try.prog E) (h : ∀ (xs : List Int), (szB xs) = true → ∃ fuel, runF Try.prog impl_VectorOf.X impl_VectorOf.I 0 fuel 46 Try.f46 [.d (.ints .i64 xs)] = some ([.agg [((.ints .i64 (vecS xs)), true), ((.ints .i64 (vecD xs)), true)]], [])) : CallSpec Try.prog impl_VectorOf.E :=
  callSpec_of (d := 0) hX (by kernel_rfl) impl_VectorOf.I_ok (by kernel_rfl) (by kernel_rfl) (by kernel_rfl) (fun _ _ _ _ h => by dsimp only [impl_VectorOf.E] at h; cases h) (fun xs hp => by
    dsimp only [impl_VectorOf.E] at hp ⊢
    split at hp
    · exact h _ hp
    · cases hp)
theorem validA_vec0 (xs : List Int) (hx : xs.length < 9223372036854775808) : validA [((xs.length : Nat) : Int)] xs = vecOk xs := by
  have e1 := @wS ((xs.length : Nat) : Int) (by omega) (by omega)
  by_cases h1 : xs.length ≤ 60
  · have h2 : ((xs.length : Nat) : Int) ≤ 60 := by omega
    simp [validA, validS, vecOk, allB_cons, allB_nil, volW, volFrom, e1, h1, h2]
  · have h2 : ¬ ((xs.length : Nat) : Int) ≤ 60 := by omega
    simp [validA, validS, vecOk, allB_cons, allB_nil, volW, volFrom, e1, h1, h2]

theorem impl_VectorOf.ok : CallSpec Try.prog impl_VectorOf.E := impl_VectorOf.ok_of (by simp [impl_VectorOf.X, impl_ValidArray.ok, impl_copyList.ok]) fun xs h => ⟨0, by
  rw [impl_VectorOf.e, lt_of (szB_lt h), h, validA_vec0 xs (szB_lt h), lt_of (by simp)]
  unfold vecS vecD
  cases vecOk xs <;> rfl⟩

namespace impl_BitsOf
noncomputable def E : Entry := ⟨23, false, false, fun | [.d (.int .i64 n)] => true | _ => false, fun | [.d (.int .i64 n)] => ([.agg [((.ints .i64 (btS n)), true), ((.ints .i64 (btD n)), true)]], []) | _ => ([], []), fun _ => [], true, fun _ => none⟩
end impl_BitsOf
namespace impl_BitsOf
noncomputable def X : List Entry := [math_bits_Len.E, slices_Repeat_int_int.E, impl_digitsOf.E, impl_VectorOf.E]
noncomputable def I : List Inl := [⟨23, Try.f23, ⟨[17, 19, 20], [], [], [], [15], []⟩⟩]
theorem I_ok : ∀ i ∈ I, Try.prog.funcs[i.f]? = some i.fn ∧ (i.fn.name == "runtime.NumGoroutine") = false := by
  intro i hi
  simp only [I, List.mem_cons, List.not_mem_nil, or_false] at hi
  subst hi
  exact ⟨by kernel_rfl, by kernel_rfl⟩
theorem e (fuel : Nat) (p0 : Int) : runF Try.prog X I 0 fuel 23 Try.f23 [.d (.int .i64 p0)] =
  (bif (decide ((p0 : Int) < 0)) then
  some ([.agg [((.ints .i64 []), true), ((.ints .i64 []), true)]], [])
  else
  (bif (decide ((p0 : Int) > 1000000)) then
  some ([.agg [((.ints .i64 []), true), ((.ints .i64 []), true)]], [])
  else
  (bif decide (0 ≤ ((IntKind.wrap .u64 p0))) && decide (((IntKind.wrap .u64 p0)) ≤ 1000000) then
  (bif decide (((([2] : List Int)) : List Int).length = 1) && decide (0 ≤ ((maxI ((bitN ((IntKind.wrap .u64 p0)).toNat : Nat) : Int) 1))) && decide (((maxI ((bitN ((IntKind.wrap .u64 p0)).toNat : Nat) : Int) 1)) ≤ 60) then
  (bif posB ((List.replicate ((maxI ((bitN ((IntKind.wrap .u64 p0)).toNat : Nat) : Int) 1)).toNat ((([2] : List Int)).getD 0 0))) && decide (0 ≤ p0) && decide (p0 ≤ 1000000) then
  (bif szB ((plN ((List.replicate ((maxI ((bitN ((IntKind.wrap .u64 p0)).toNat : Nat) : Int) 1)).toNat ((([2] : List Int)).getD 0 0))) p0.toNat)) then
  some ([.agg [((.ints .i64 (vecS ((plN ((List.replicate ((maxI ((bitN ((IntKind.wrap .u64 p0)).toNat : Nat) : Int) 1)).toNat ((([2] : List Int)).getD 0 0))) p0.toNat)))), true), ((.ints .i64 (vecD ((plN ((List.replicate ((maxI ((bitN ((IntKind.wrap .u64 p0)).toNat : Nat) : Int) 1)).toNat ((([2] : List Int)).getD 0 0))) p0.toNat)))), true)]], [])
  else
  none)
  else
  none)
  else
  none)
  else
  none))) := by kernel_rfl
end impl_BitsOf
theorem impl_BitsOf.ok_of (hX : ∀ E ∈ impl_BitsOf.X, CallSpec Try.prog E) (h : ∀ (n : Int), (true) = true → ∃ fuel, runF Try.prog impl_BitsOf.X impl_BitsOf.I 0 fuel 23 Try.f23 [.d (.int .i64 n)] = some ([.agg [((.ints .i64 (btS n)), true), ((.ints .i64 (btD n)), true)]], [])) : CallSpec Try.prog impl_BitsOf.E :=
  callSpec_of (d := 0) hX (by kernel_rfl) impl_BitsOf.I_ok (by kernel_rfl) (by kernel_rfl) (by kernel_rfl) (fun _ _ _ _ h => by dsimp only [impl_BitsOf.E] at h; cases h) (fun xs hp => by
    dsimp only [impl_BitsOf.E] at hp ⊢
    split at hp
    · exact h _ hp
    · cases hp)
theorem bits_max (n : Nat) : (maxI ((bitN n : Nat) : Int) 1) = ((Nat.log2 n + 1 : Nat) : Int) := by
  unfold maxI bitN
  by_cases h : n = 0
  · subst h; rfl
  · rw [if_neg h]
    split <;> omega
theorem impl_BitsOf.ok : CallSpec Try.prog impl_BitsOf.E := impl_BitsOf.ok_of (by simp [impl_BitsOf.X, math_bits_Len.ok, slices_Repeat_int_int.ok, impl_digitsOf.ok, impl_VectorOf.ok]) fun n _ => ⟨0, by
  rw [impl_BitsOf.e]
  unfold btS btD btB
  by_cases h0 : 0 ≤ n
  · by_cases h1 : n ≤ 1000000
    · obtain ⟨j, rfl⟩ : ∃ j : Nat, n = j := ⟨n.toNat, by omega⟩
      have hl := log2_le (n := j) (by omega)
      have hb := btL_length j
      have hv : vecOk (btL j) = true := vec_part (by omega) fun x hx => by
        rcases btL_mem hx with rfl | rfl <;> omega
      have hp : posB (List.replicate (Nat.log2 j + 1) (2 : Int)) = true := by
        simp only [posB, Bool.and_eq_true, decide_eq_true_eq, List.length_replicate]
        refine ⟨allB_iff.2 fun v hv => ?_, by omega⟩
        rw [List.eq_of_mem_replicate hv]; omega
      have e2 : ([2] : List Int).getD 0 0 = 2 := rfl
      have e3 : plN (List.replicate (Nat.log2 j + 1) 2) j = btL j := rfl
      have hz : szB (btL j) = true := szB_of (by omega)
      rw [wU0 (by omega), Int.toNat_natCast, bits_max, Int.toNat_natCast, decide_eq_false (p := (j : Int) < 0) (by omega), decide_eq_false (p := (j : Int) > 1000000) (by omega), decide_eq_true h0, decide_eq_true h1, e2, hp, e3, hz, decide_eq_true (p := (0 : Int) ≤ ((Nat.log2 j + 1 : Nat) : Int)) (by omega), decide_eq_true (p := ((Nat.log2 j + 1 : Nat) : Int) ≤ 60) (by omega)]
      simp only [vecS, vecD, hv, hb]
      rfl
    · rw [decide_eq_false (p := n < 0) (by omega), decide_eq_true (p := n > 1000000) (by omega), decide_eq_false h1]
      simp only [Bool.and_false, cond_false, cond_true]
  · rw [decide_eq_true (p := n < 0) (by omega), decide_eq_false h0]
    simp only [Bool.false_and, cond_false, cond_true]⟩

namespace laws_markArray
noncomputable def E : Entry := ⟨24, false, true, fun | [.rows false [(.i64, sh), (.i64, da)], .d (.int .i64 k)] => decide (sh.length < 9223372036854775808) && decide (da.length < 9223372036854775808) | _ => false, fun | [.rows false [(.i64, sh), (.i64, da)], .d (.int .i64 k)] => ([.one ((.int .i64 (markK da (markK sh k))), false)], [[(.ints .i64 (markL sh k))], [(.ints .i64 (markL da (markK sh k)))]]) | _ => ([], []), fun _ => [], false, fun _ => none⟩
end laws_markArray
namespace laws_markArray
noncomputable def X : List Entry := [laws_markIntS.E]
noncomputable def I : List Inl := [⟨24, Try.f24, ⟨[], [], [], [], [], []⟩⟩]
theorem I_ok : ∀ i ∈ I, Try.prog.funcs[i.f]? = some i.fn ∧ (i.fn.name == "runtime.NumGoroutine") = false := by
  intro i hi
  simp only [I, List.mem_cons, List.not_mem_nil, or_false] at hi
  subst hi
  exact ⟨by kernel_rfl, by kernel_rfl⟩
theorem e (fuel : Nat) (p0q0 : List Int) (p0q1 : List Int) (p1 : Int) : runF Try.prog X I 0 fuel 24 Try.f24 [.rows false [(.i64, p0q0), (.i64, p0q1)], .d (.int .i64 p1)] =
  (bif decide (p0q0.length < 9223372036854775808) then
  (bif decide (p0q1.length < 9223372036854775808) then
  some ([.one ((.int .i64 (markK p0q1 ((markK p0q0 p1)))), false)], [[(.ints .i64 (markL p0q0 p1))], [(.ints .i64 (markL p0q1 ((markK p0q0 p1))))]])
  else
  none)
  else
  none) := by kernel_rfl
end laws_markArray
theorem laws_markArray.ok_of (hX : ∀ E ∈ laws_markArray.X, CallSpec Try.prog E) (h : ∀ (sh : List Int) (da : List Int) (k : Int), (decide (sh.length < 9223372036854775808) && decide (da.length < 9223372036854775808)) = true → ∃ fuel, runF Try.prog laws_markArray.X laws_markArray.I 0 fuel 24 Try.f24 [.rows false [(.i64, sh), (.i64, da)], .d (.int .i64 k)] = some ([.one ((.int .i64 (markK da (markK sh k))), false)], [[(.ints .i64 (markL sh k))], [(.ints .i64 (markL da (markK sh k)))]])) : CallSpec Try.prog laws_markArray.E :=
  callSpec_of (d := 0) hX (by kernel_rfl) laws_markArray.I_ok (by kernel_rfl) (by kernel_rfl) (by kernel_rfl) (fun _ _ _ _ h => by dsimp only [laws_markArray.E] at h; cases h) (fun xs hp => by
    dsimp only [laws_markArray.E] at hp ⊢
    split at hp
    · exact h _ _ _ hp
    · cases hp)
theorem laws_markArray.ok : CallSpec Try.prog laws_markArray.E := laws_markArray.ok_of (by simp [laws_markArray.X, laws_markIntS.ok]) fun sh da k h => ⟨0, by
  simp only [Bool.and_eq_true, decide_eq_true_eq] at h
  rw [laws_markArray.e]
  simp only [h.1, h.2, decide_true, cond_true]⟩

namespace laws_heldArray
noncomputable def E : Entry := ⟨25, true, false, fun | [.d (.agg [(.ints .i64 sh), (.ints .i64 da)]), .d (.int .i64 k)] => decide (sh.length < 9223372036854775808) && decide (da.length < 9223372036854775808) | _ => false, fun | [.d (.agg [(.ints .i64 sh), (.ints .i64 da)]), .d (.int .i64 k)] => ([.one ((.int .i64 (heldA sh da k)), false)], []) | _ => ([], []), fun _ => [], false, fun _ => none⟩
end laws_heldArray
namespace laws_heldArray
noncomputable def X : List Entry := [laws_heldIntS.E]
noncomputable def I : List Inl := [⟨25, Try.f25, ⟨[], [], [], [], [], []⟩⟩]
theorem I_ok : ∀ i ∈ I, Try.prog.funcs[i.f]? = some i.fn ∧ (i.fn.name == "runtime.NumGoroutine") = false := by
  intro i hi
  simp only [I, List.mem_cons, List.not_mem_nil, or_false] at hi
  subst hi
  exact ⟨by kernel_rfl, by kernel_rfl⟩
theorem e (fuel : Nat) (p0q0 : List Int) (p0q1 : List Int) (p1 : Int) : runF Try.prog X I 0 fuel 25 Try.f25 [.d (.agg [(.ints .i64 p0q0), (.ints .i64 p0q1)]), .d (.int .i64 p1)] =
  (bif decide (p0q0.length < 9223372036854775808) then
  (bif (decide (((heldL p0q0 p1) : Int) < 0)) then
  some ([.one ((.int .i64 (-1)), false)], [])
  else
  (bif decide (p0q1.length < 9223372036854775808) then
  (bif (decide (((heldL p0q1 ((heldL p0q0 p1))) : Int) < 0)) then
  some ([.one ((.int .i64 (-1)), false)], [])
  else
  some ([.one ((.int .i64 (heldL p0q1 ((heldL p0q0 p1)))), false)], []))
  else
  none))
  else
  none) := by kernel_rfl
end laws_heldArray
theorem laws_heldArray.ok_of (hX : ∀ E ∈ laws_heldArray.X, CallSpec Try.prog E) (h : ∀ (sh : List Int) (da : List Int) (k : Int), (decide (sh.length < 9223372036854775808) && decide (da.length < 9223372036854775808)) = true → ∃ fuel, runF Try.prog laws_heldArray.X laws_heldArray.I 0 fuel 25 Try.f25 [.d (.agg [(.ints .i64 sh), (.ints .i64 da)]), .d (.int .i64 k)] = some ([.one ((.int .i64 (heldA sh da k)), false)], [])) : CallSpec Try.prog laws_heldArray.E :=
  callSpec_of (d := 0) hX (by kernel_rfl) laws_heldArray.I_ok (by kernel_rfl) (by kernel_rfl) (by kernel_rfl) (fun _ _ _ _ h => by dsimp only [laws_heldArray.E] at h; cases h) (fun xs hp => by
    dsimp only [laws_heldArray.E] at hp ⊢
    split at hp
    · exact h _ _ _ hp
    · cases hp)
theorem laws_heldArray.ok : CallSpec Try.prog laws_heldArray.E := laws_heldArray.ok_of (by simp [laws_heldArray.X, laws_heldIntS.ok]) fun sh da k h => ⟨0, by
  simp only [Bool.and_eq_true, decide_eq_true_eq] at h
  rw [laws_heldArray.e]
  unfold heldA
  simp only [h.1, h.2, decide_true, cond_true]
  cases decide (heldL sh k < 0) <;> cases decide (heldL da (heldL sh k) < 0) <;> rfl⟩

namespace laws_FnExactBitsOf
noncomputable def E : Entry := ⟨6, true, false, fun | [.d (.int .i64 n)] => true | _ => false, fun | [.d (.int .i64 n)] => ([.one ((.bool true), false)], []) | _ => ([], []), fun _ => [], false, fun _ => none⟩
end laws_FnExactBitsOf
namespace laws_FnExactBitsOf
noncomputable def X : List Entry := [spec_BitsOf.E, impl_BitsOf.E, laws_eqArray.E, laws_markArray.E, laws_heldArray.E]
noncomputable def I : List Inl := [⟨6, Try.f6, ⟨[9, 11, 28], [], [], [], [], []⟩⟩]
theorem I_ok : ∀ i ∈ I, Try.prog.funcs[i.f]? = some i.fn ∧ (i.fn.name == "runtime.NumGoroutine") = false := by
  intro i hi
  simp only [I, List.mem_cons, List.not_mem_nil, or_false] at hi
  subst hi
  exact ⟨by kernel_rfl, by kernel_rfl⟩
theorem e (fuel : Nat) (p0 : Int) : runF Try.prog X I 0 fuel 6 Try.f6 [.d (.int .i64 p0)] =
  (bif decide (((btS p0)).length < 9223372036854775808) && decide (((btD p0)).length < 9223372036854775808) && decide (((btS p0)).length < 9223372036854775808) && decide (((btD p0)).length < 9223372036854775808) then
  (bif (!(decide (((btS p0)) = ((btS p0))) && decide (((btD p0)) = ((btD p0))))) then
  some ([.one ((.bool false), false)], [])
  else
  (bif decide (((btS p0)).length < 9223372036854775808) && decide (((btD p0)).length < 9223372036854775808) then
  (bif decide (((markL ((btS p0)) 1)).length < 9223372036854775808) && decide (((markL ((btD p0)) (markK ((btS p0)) 1))).length < 9223372036854775808) then
  (bif (decide (((heldA ((markL ((btS p0)) 1)) ((markL ((btD p0)) (markK ((btS p0)) 1))) 1) : Int) < 0)) then
  some ([.one ((.bool false), false)], [])
  else
  (bif (((heldA ((markL ((btS p0)) 1)) ((markL ((btD p0)) (markK ((btS p0)) 1))) 1) : Int) != (markK ((btD p0)) (markK ((btS p0)) 1))) then
  some ([.one ((.bool false), false)], [])
  else
  (bif decide (((btS p0)).length < 9223372036854775808) && decide (((btD p0)).length < 9223372036854775808) && decide (((btS p0)).length < 9223372036854775808) && decide (((btD p0)).length < 9223372036854775808) then
  (bif (!(decide (((btS p0)) = ((btS p0))) && decide (((btD p0)) = ((btD p0))))) then
  some ([.one ((.bool false), false)], [])
  else
  (bif decide (((markL ((btS p0)) 1)).length < 9223372036854775808) && decide (((markL ((btD p0)) (markK ((btS p0)) 1))).length < 9223372036854775808) then
  (bif (decide (((heldA ((markL ((btS p0)) 1)) ((markL ((btD p0)) (markK ((btS p0)) 1))) 1) : Int) < 0)) then
  some ([.one ((.bool false), false)], [])
  else
  (bif (((heldA ((markL ((btS p0)) 1)) ((markL ((btD p0)) (markK ((btS p0)) 1))) 1) : Int) != (markK ((btD p0)) (markK ((btS p0)) 1))) then
  some ([.one ((.bool false), false)], [])
  else
  some ([.one ((.bool true), false)], [])))
  else
  none))
  else
  none)))
  else
  none)
  else
  none))
  else
  none) := by kernel_rfl
end laws_FnExactBitsOf
theorem laws_FnExactBitsOf.ok_of (hX : ∀ E ∈ laws_FnExactBitsOf.X, CallSpec Try.prog E) (h : ∀ (n : Int), (true) = true → ∃ fuel, runF Try.prog laws_FnExactBitsOf.X laws_FnExactBitsOf.I 0 fuel 6 Try.f6 [.d (.int .i64 n)] = some ([.one ((.bool true), false)], [])) : CallSpec Try.prog laws_FnExactBitsOf.E :=
  callSpec_of (d := 0) hX (by kernel_rfl) laws_FnExactBitsOf.I_ok (by kernel_rfl) (by kernel_rfl) (by kernel_rfl) (fun _ _ _ _ h => by dsimp only [laws_FnExactBitsOf.E] at h; cases h) (fun xs hp => by
    dsimp only [laws_FnExactBitsOf.E] at hp ⊢
    split at hp
    · exact h _ hp
    · cases hp)
theorem laws_FnExactBitsOf.ok : CallSpec Try.prog laws_FnExactBitsOf.E := laws_FnExactBitsOf.ok_of (by simp [laws_FnExactBitsOf.X, spec_BitsOf.ok, impl_BitsOf.ok, laws_eqArray.ok, laws_markArray.ok, laws_heldArray.ok]) fun n h => ⟨0, by
  rw [laws_FnExactBitsOf.e]
  have hl := bt_len n
  obtain ⟨r0a, r0b, r0c, r0d, r0e, r0f⟩ := marks_ok (sh := (btS n)) (da := (btD n)) (by omega) (by omega)
  simp only [r0a, r0b, r0c, r0d, r0e, r0f, bne_self_eq_false, beq_self_eq_true, decide_true, Bool.and_self, Bool.not_true, cond_true, cond_false]⟩

namespace spec_isAxis
noncomputable def E : Entry := ⟨48, true, false, fun | [.d (.agg [(.ints .i64 sh), (.ints .i64 da)]), .d (.int .i64 k)] => decide (sh.length < 9223372036854775808) && decide (da.length < 9223372036854775808) | _ => false, fun | [.d (.agg [(.ints .i64 sh), (.ints .i64 da)]), .d (.int .i64 k)] => ([.one ((.bool (axB sh da k)), false)], []) | _ => ([], []), fun _ => [], false, fun _ => none⟩
end spec_isAxis
namespace spec_isAxis
noncomputable def X : List Entry := [spec_valid.E, spec_inRange.E]
noncomputable def I : List Inl := [⟨48, Try.f48, ⟨[], [], [], [], [], []⟩⟩]
theorem I_ok : ∀ i ∈ I, Try.prog.funcs[i.f]? = some i.fn ∧ (i.fn.name == "runtime.NumGoroutine") = false := by
  intro i hi
  simp only [I, List.mem_cons, List.not_mem_nil, or_false] at hi
  subst hi
  exact ⟨by kernel_rfl, by kernel_rfl⟩
theorem e (fuel : Nat) (p0q0 : List Int) (p0q1 : List Int) (p1 : Int) : runF Try.prog X I 0 fuel 48 Try.f48 [.d (.agg [(.ints .i64 p0q0), (.ints .i64 p0q1)]), .d (.int .i64 p1)] =
  (bif decide (p0q0.length < 9223372036854775808) && decide (p0q1.length < 9223372036854775808) then
  (bif (validA p0q0 p0q1) then
  some ([.one ((.bool (decide (0 ≤ p1) && decide (p1 ≤ ((IntKind.wrap .i64 (((p0q0.length : Nat) : Int) - 1)))))), false)], [])
  else
  some ([.one ((.bool false), false)], []))
  else
  none) := by kernel_rfl
end spec_isAxis
theorem spec_isAxis.ok_of (hX : ∀ E ∈ spec_isAxis.X, CallSpec Try.prog E) (h : ∀ (sh : List Int) (da : List Int) (k : Int), (decide (sh.length < 9223372036854775808) && decide (da.length < 9223372036854775808)) = true → ∃ fuel, runF Try.prog spec_isAxis.X spec_isAxis.I 0 fuel 48 Try.f48 [.d (.agg [(.ints .i64 sh), (.ints .i64 da)]), .d (.int .i64 k)] = some ([.one ((.bool (axB sh da k)), false)], [])) : CallSpec Try.prog spec_isAxis.E :=
  callSpec_of (d := 0) hX (by kernel_rfl) spec_isAxis.I_ok (by kernel_rfl) (by kernel_rfl) (by kernel_rfl) (fun _ _ _ _ h => by dsimp only [spec_isAxis.E] at h; cases h) (fun xs hp => by
    dsimp only [spec_isAxis.E] at hp ⊢
    split at hp
    · exact h _ _ _ hp
    · cases hp)
theorem spec_isAxis.ok : CallSpec Try.prog spec_isAxis.E := spec_isAxis.ok_of (by simp [spec_isAxis.X, spec_valid.ok, spec_inRange.ok]) fun sh da k h => ⟨0, by
  rw [spec_isAxis.e, h]
  simp only [Bool.and_eq_true, decide_eq_true_eq] at h
  unfold axB axOk
  rw [wS (by omega) (by omega)]
  cases hv : validA sh da with
  | false => rfl
  | true =>
    have : decide (k ≤ ((sh.length : Nat) : Int) - 1) = decide (k < ((sh.length : Nat) : Int)) := decide_eq_decide.2 (by omega)
    simp only [this, Bool.true_and, cond_true]⟩

namespace spec_CellOf
noncomputable def E : Entry := ⟨26, false, false, fun | [.d (.agg [(.ints .i64 sh), (.ints .i64 da)]), .d (.int .i64 n)] => decide (sh.length < 9223372036854775808) && decide (da.length < 9223372036854775808) | _ => false, fun | [.d (.agg [(.ints .i64 sh), (.ints .i64 da)]), .d (.int .i64 n)] => ([.agg [((.ints .i64 (ceS sh da n)), true), ((.ints .i64 (ceD sh da n)), true)], .one ((.bool (ceB sh da n)), false)], []) | _ => ([], []), fun _ => [], true, fun _ => none⟩
end spec_CellOf
namespace spec_CellOf
noncomputable def X : List Entry := [spec_isAxis.E, spec_inRange.E, spec_volume.E, spec_make1.E]
noncomputable def I : List Inl := [⟨26, Try.f26, ⟨[38], [], [], [(4, [0, 3, 5, 6, 7, 8, 9, 10, 11, 1, 2, 4, 12, 13, 14, 15])], [], []⟩⟩]
theorem I_ok : ∀ i ∈ I, Try.prog.funcs[i.f]? = some i.fn ∧ (i.fn.name == "runtime.NumGoroutine") = false := by
  intro i hi
  simp only [I, List.mem_cons, List.not_mem_nil, or_false] at hi
  subst hi
  exact ⟨by kernel_rfl, by kernel_rfl⟩
theorem e (fuel : Nat) (p0q0 : List Int) (p0q1 : List Int) (p1 : Int) : runF Try.prog X I 0 fuel 26 Try.f26 [.d (.agg [(.ints .i64 p0q0), (.ints .i64 p0q1)]), .d (.int .i64 p1)] =
  (bif decide (p0q0.length < 9223372036854775808) && decide (p0q1.length < 9223372036854775808) then
  (bif (!(axB p0q0 p0q1 0)) then
  some ([.agg [((.ints .i64 []), true), ((.ints .i64 []), true)], .one ((.bool false), false)], [])
  else
  (idx 0 p0q0.length).bind fun j1 =>
  (p0q0[j1]?).bind fun v2 =>
  (bif (!(decide (0 ≤ p1) && decide (p1 ≤ ((IntKind.wrap .i64 (v2 - 1)))))) then
  some ([.agg [((.ints .i64 []), true), ((.ints .i64 []), true)], .one ((.bool false), false)], [])
  else
  (cutEnds p0q0.length (some (.imm (.int .i64 1))) (none)).bind fun cq3 =>
  (bif decide ((((p0q0.drop cq3.1).take (cq3.2 - cq3.1))).length < 9223372036854775808) then
  (cutEnds p0q0.length (some (.imm (.int .i64 1))) (none)).bind fun cq4 =>
  (cutEnds p0q1.length (some (.imm (.int .i64 (IntKind.wrap .i64 (p1 * (volW (((p0q0.drop cq3.1).take (cq3.2 - cq3.1))))))))) (some (.imm (.int .i64 (IntKind.wrap .i64 ((IntKind.wrap .i64 (p1 + 1)) * (volW (((p0q0.drop cq3.1).take (cq3.2 - cq3.1)))))))))).bind fun cq5 =>
  (bif szB (((p0q0.drop cq4.1).take (cq4.2 - cq4.1))) && szB (((p0q1.drop cq5.1).take (cq5.2 - cq5.1))) then
  some ([.agg [((.ints .i64 (((p0q0.drop cq4.1).take (cq4.2 - cq4.1)))), true), ((.ints .i64 (((p0q1.drop cq5.1).take (cq5.2 - cq5.1)))), true)], .one ((.bool true), false)], [])
  else
  none)
  else
  none)))
  else
  none) := by kernel_rfl
end spec_CellOf
theorem spec_CellOf.ok_of (hX : ∀ E ∈ spec_CellOf.X, CallSpec Try.prog E) (h : ∀ (sh : List Int) (da : List Int) (n : Int), (decide (sh.length < 9223372036854775808) && decide (da.length < 9223372036854775808)) = true → ∃ fuel, runF Try.prog spec_CellOf.X spec_CellOf.I 0 fuel 26 Try.f26 [.d (.agg [(.ints .i64 sh), (.ints .i64 da)]), .d (.int .i64 n)] = some ([.agg [((.ints .i64 (ceS sh da n)), true), ((.ints .i64 (ceD sh da n)), true)], .one ((.bool (ceB sh da n)), false)], [])) : CallSpec Try.prog spec_CellOf.E :=
  callSpec_of (d := 0) hX (by kernel_rfl) spec_CellOf.I_ok (by kernel_rfl) (by kernel_rfl) (by kernel_rfl) (fun _ _ _ _ h => by dsimp only [spec_CellOf.E] at h; cases h) (fun xs hp => by
    dsimp only [spec_CellOf.E] at hp ⊢
    split at hp
    · exact h _ _ _ hp
    · cases hp)
theorem spec_CellOf.ok : CallSpec Try.prog spec_CellOf.E := spec_CellOf.ok_of (by simp [spec_CellOf.X, spec_isAxis.ok, spec_inRange.ok, spec_volume.ok, spec_make1.ok]) fun sh da n h => ⟨0, by
  rw [spec_CellOf.e, h]
  unfold ceS ceD
  cases hb : axB sh da 0 with
  | false =>
    have : ceB sh da n = false := by simp only [ceB, hb, Bool.false_and]
    rw [this]; rfl
  | true =>
    obtain ⟨hj, hv, ax, hd, hl⟩ := axB_zero hb
    have hr := ax.rank
    have hL := ax.len_le
    have hM := ax.le
    have e0 : sh[0]? = some (sh.getD 0 0) := getD_get hj
    rw [show idx 0 sh.length = some 0 from idx_nat (j := 0) hj]
    simp only [cond_true, Bool.not_true, cond_false, Option.bind_some, e0, ax.len]
    rw [wS (x := ((lenN sh 0 : Nat) : Int) - 1) (by omega) (by omega)]
    cases hc : ceB sh da n with
    | false =>
      have : (decide (0 ≤ n) && decide (n ≤ ((lenN sh 0 : Nat) : Int) - 1)) = false := by
        simp only [ceB, hb, Bool.true_and] at hc
        rw [← hc]
        congr 1
        simp only [decide_eq_decide]
        omega
      rw [this]; rfl
    | true =>
      obtain ⟨j, rfl, hj2, _, hle⟩ := ceB_inv hc
      have hle2 : j * behN sh 0 ≤ (j + 1) * behN sh 0 := Nat.mul_le_mul_right _ (by omega)
      have hlen := validA_len hv
      have e1 : IntKind.wrap .i64 ((j : Int) + 1) = ((j + 1 : Nat) : Int) := w1 (by omega)
      rw [decide_eq_true (p := (0 : Int) ≤ (j : Int)) (by omega), decide_eq_true (p := (j : Int) ≤ ((lenN sh 0 : Nat) : Int) - 1) (by omega)]
      simp only [Bool.and_self, Bool.not_true, cond_false]
      rw [cut_one hj]
      simp only [Option.bind_some, drop_take]
      rw [lt_of (by simp; omega), cond_true, show volW (sh.drop 1) = ((behN sh 0 : Nat) : Int) from ax.beh, e1, wMul (by omega), wMul (by omega), cut_both hle2 (by omega)]
      simp only [Option.bind_some, ce_cut]
      rw [szB_of (by simp; omega), szB_of (by simp; omega)]
      rfl⟩

namespace impl_axisLength
noncomputable def E : Entry := ⟨50, true, false, fun | [.d (.agg [(.ints .i64 sh), (.ints .i64 da)]), .d (.int .i64 k)] => decide (sh.length < 9223372036854775808) && decide (da.length < 9223372036854775808) | _ => false, fun | [.d (.agg [(.ints .i64 sh), (.ints .i64 da)]), .d (.int .i64 k)] => ([.one ((.int .i64 (axL sh da k)), false), .one ((.bool (axB sh da k)), false)], []) | _ => ([], []), fun _ => [], false, fun _ => none⟩
end impl_axisLength
namespace impl_axisLength
noncomputable def X : List Entry := [impl_ValidArray.E]
noncomputable def I : List Inl := [⟨50, Try.f50, ⟨[], [], [], [], [], []⟩⟩]
theorem I_ok : ∀ i ∈ I, Try.prog.funcs[i.f]? = some i.fn ∧ (i.fn.name == "runtime.NumGoroutine") = false := by
  intro i hi
  simp only [I, List.mem_cons, List.not_mem_nil, or_false] at hi
  subst hi
  exact ⟨by kernel_rfl, by kernel_rfl⟩
theorem e (fuel : Nat) (p0q0 : List Int) (p0q1 : List Int) (p1 : Int) : runF Try.prog X I 0 fuel 50 Try.f50 [.d (.agg [(.ints .i64 p0q0), (.ints .i64 p0q1)]), .d (.int .i64 p1)] =
  (bif decide (p0q0.length < 9223372036854775808) && decide (p0q1.length < 9223372036854775808) then
  (bif (!(validA p0q0 p0q1)) then
  some ([.one ((.int .i64 0), false), .one ((.bool false), false)], [])
  else
  (bif (decide ((p1 : Int) < 0)) then
  some ([.one ((.int .i64 0), false), .one ((.bool false), false)], [])
  else
  (bif (decide ((p1 : Int) ≥ ((p0q0.length : Nat) : Int))) then
  some ([.one ((.int .i64 0), false), .one ((.bool false), false)], [])
  else
  (idx p1 p0q0.length).bind fun j1 =>
  (p0q0[j1]?).bind fun v2 =>
  some ([.one ((.int .i64 v2), false), .one ((.bool true), false)], []))))
  else
  none) := by kernel_rfl
end impl_axisLength
theorem impl_axisLength.ok_of (hX : ∀ E ∈ impl_axisLength.X, CallSpec Try.prog E) (h : ∀ (sh : List Int) (da : List Int) (k : Int), (decide (sh.length < 9223372036854775808) && decide (da.length < 9223372036854775808)) = true → ∃ fuel, runF Try.prog impl_axisLength.X impl_axisLength.I 0 fuel 50 Try.f50 [.d (.agg [(.ints .i64 sh), (.ints .i64 da)]), .d (.int .i64 k)] = some ([.one ((.int .i64 (axL sh da k)), false), .one ((.bool (axB sh da k)), false)], [])) : CallSpec Try.prog impl_axisLength.E :=
  callSpec_of (d := 0) hX (by kernel_rfl) impl_axisLength.I_ok (by kernel_rfl) (by kernel_rfl) (by kernel_rfl) (fun _ _ _ _ h => by dsimp only [impl_axisLength.E] at h; cases h) (fun xs hp => by
    dsimp only [impl_axisLength.E] at hp ⊢
    split at hp
    · exact h _ _ _ hp
    · cases hp)
theorem impl_axisLength.ok : CallSpec Try.prog impl_axisLength.E := impl_axisLength.ok_of (by simp [impl_axisLength.X, impl_ValidArray.ok]) fun sh da k h => ⟨0, by
  rw [impl_axisLength.e, h]
  unfold axL axB
  cases hv : validA sh da with
  | false => rfl
  | true =>
    by_cases h0 : k < 0
    · rw [decide_eq_true h0, show axOk sh k = false by simp [axOk]; omega]; rfl
    by_cases h1 : k ≥ ((sh.length : Nat) : Int)
    · rw [decide_eq_false h0, decide_eq_true h1, show axOk sh k = false by simp [axOk]; omega]; rfl
    obtain ⟨j, rfl⟩ : ∃ j : Nat, k = j := ⟨k.toNat, by omega⟩
    have hj : j < sh.length := by omega
    rw [decide_eq_false h0, decide_eq_false h1, show axOk sh j = true by simp [axOk]; omega, idx_nat hj]
    simp [hj]⟩

namespace impl_CellOf
noncomputable def E : Entry := ⟨27, false, false, fun | [.d (.agg [(.ints .i64 sh), (.ints .i64 da)]), .d (.int .i64 n)] => decide (sh.length < 9223372036854775808) && decide (da.length < 9223372036854775808) | _ => false, fun | [.d (.agg [(.ints .i64 sh), (.ints .i64 da)]), .d (.int .i64 n)] => ([.agg [((.ints .i64 (ceS sh da n)), true), ((.ints .i64 (ceD sh da n)), true)], .one ((.bool (ceB sh da n)), false)], []) | _ => ([], []), fun _ => [], true, fun _ => none⟩
end impl_CellOf
namespace impl_CellOf
noncomputable def X : List Entry := [impl_axisLength.E, impl_copyList.E]
noncomputable def I : List Inl := [⟨27, Try.f27, ⟨[34, 45], [], [], [(5, [0, 4, 6, 7, 8, 9, 10, 11, 12, 1, 2, 5, 13, 3, 14, 15, 16, 17])], [], []⟩⟩]
theorem I_ok : ∀ i ∈ I, Try.prog.funcs[i.f]? = some i.fn ∧ (i.fn.name == "runtime.NumGoroutine") = false := by
  intro i hi
  simp only [I, List.mem_cons, List.not_mem_nil, or_false] at hi
  subst hi
  exact ⟨by kernel_rfl, by kernel_rfl⟩
theorem e (fuel : Nat) (p0q0 : List Int) (p0q1 : List Int) (p1 : Int) : runF Try.prog X I 0 fuel 27 Try.f27 [.d (.agg [(.ints .i64 p0q0), (.ints .i64 p0q1)]), .d (.int .i64 p1)] =
  (bif decide (p0q0.length < 9223372036854775808) && decide (p0q1.length < 9223372036854775808) then
  (bif (!(axB p0q0 p0q1 0)) then
  some ([.agg [((.ints .i64 []), true), ((.ints .i64 []), true)], .one ((.bool false), false)], [])
  else
  (bif (decide ((p1 : Int) < 0)) then
  some ([.agg [((.ints .i64 []), true), ((.ints .i64 []), true)], .one ((.bool false), false)], [])
  else
  (bif (decide ((p1 : Int) ≥ (axL p0q0 p0q1 0))) then
  some ([.agg [((.ints .i64 []), true), ((.ints .i64 []), true)], .one ((.bool false), false)], [])
  else
  (bif decide (((axL p0q0 p0q1 0) : Int) = 0) then
  none
  else
  (cutEnds p0q0.length (some (.imm (.int .i64 1))) (none)).bind fun cq1 =>
  (cutEnds p0q1.length (some (.imm (.int .i64 (IntKind.wrap .i64 (p1 * (IntKind.wrap .i64 (Int.tdiv ((p0q1.length : Nat) : Int) (axL p0q0 p0q1 0)))))))) (some (.imm (.int .i64 (IntKind.wrap .i64 ((IntKind.wrap .i64 (p1 + 1)) * (IntKind.wrap .i64 (Int.tdiv ((p0q1.length : Nat) : Int) (axL p0q0 p0q1 0))))))))).bind fun cq2 =>
  (bif szB (((p0q0.drop cq1.1).take (cq1.2 - cq1.1))) then
  (bif szB (((p0q1.drop cq2.1).take (cq2.2 - cq2.1))) then
  some ([.agg [((.ints .i64 (((p0q0.drop cq1.1).take (cq1.2 - cq1.1)))), true), ((.ints .i64 (((p0q1.drop cq2.1).take (cq2.2 - cq2.1)))), true)], .one ((.bool true), false)], [])
  else
  none)
  else
  none)))))
  else
  none) := by kernel_rfl
end impl_CellOf
theorem impl_CellOf.ok_of (hX : ∀ E ∈ impl_CellOf.X, CallSpec Try.prog E) (h : ∀ (sh : List Int) (da : List Int) (n : Int), (decide (sh.length < 9223372036854775808) && decide (da.length < 9223372036854775808)) = true → ∃ fuel, runF Try.prog impl_CellOf.X impl_CellOf.I 0 fuel 27 Try.f27 [.d (.agg [(.ints .i64 sh), (.ints .i64 da)]), .d (.int .i64 n)] = some ([.agg [((.ints .i64 (ceS sh da n)), true), ((.ints .i64 (ceD sh da n)), true)], .one ((.bool (ceB sh da n)), false)], [])) : CallSpec Try.prog impl_CellOf.E :=
  callSpec_of (d := 0) hX (by kernel_rfl) impl_CellOf.I_ok (by kernel_rfl) (by kernel_rfl) (by kernel_rfl) (fun _ _ _ _ h => by dsimp only [impl_CellOf.E] at h; cases h) (fun xs hp => by
    dsimp only [impl_CellOf.E] at hp ⊢
    split at hp
    · exact h _ _ _ hp
    · cases hp)
theorem impl_CellOf.ok : CallSpec Try.prog impl_CellOf.E := impl_CellOf.ok_of (by simp [impl_CellOf.X, impl_axisLength.ok, impl_copyList.ok]) fun sh da n h => ⟨0, by
  rw [impl_CellOf.e, h]
  unfold ceS ceD
  cases hb : axB sh da 0 with
  | false =>
    have : ceB sh da n = false := by simp only [ceB, hb, Bool.false_and]
    rw [this]; rfl
  | true =>
    obtain ⟨hj, hv, ax, hd, hl⟩ := axB_zero hb
    have hr := ax.rank
    have hL := ax.len_le
    have hM := ax.le
    rw [hl]
    simp only [cond_true, Bool.not_true, cond_false]
    cases hc : ceB sh da n with
    | false =>
      simp only [ceB, hb, Bool.true_and] at hc
      by_cases h0 : 0 ≤ n
      · rw [decide_eq_true h0, Bool.true_and, decide_eq_false_iff_not] at hc
        rw [decide_eq_false (p := n < 0) (by omega), decide_eq_true (p := n ≥ ((lenN sh 0 : Nat) : Int)) (by omega)]; rfl
      · rw [decide_eq_true (p := n < 0) (by omega)]; rfl
    | true =>
      obtain ⟨j, rfl, hj2, _, hle⟩ := ceB_inv hc
      have hle2 : j * behN sh 0 ≤ (j + 1) * behN sh 0 := Nat.mul_le_mul_right _ (by omega)
      have hlen := validA_len hv
      have e1 : IntKind.wrap .i64 ((j : Int) + 1) = ((j + 1 : Nat) : Int) := w1 (by omega)
      have e2 : da.length / lenN sh 0 = behN sh 0 := by rw [hd, Nat.mul_comm]; exact Nat.mul_div_cancel _ (by omega)
      have e3 : behN sh 0 ≤ da.length := by rw [← e2]; exact Nat.div_le_self _ _
      rw [decide_eq_false (p := (j : Int) < 0) (by omega), decide_eq_false (p := (j : Int) ≥ ((lenN sh 0 : Nat) : Int)) (by omega), decide_eq_false (p := ((lenN sh 0 : Nat) : Int) = 0) (by omega)]
      simp only [cond_false]
      rw [cut_one hj, tdivN, e2, wN (n := behN sh 0) (by omega), e1, wMul (by omega), wMul (by omega), cut_both hle2 (by omega)]
      simp only [Option.bind_some, drop_take, ce_cut]
      rw [szB_of (by simp; omega), szB_of (by simp; omega)]
      rfl⟩

namespace laws_FnExactCellOf
noncomputable def E : Entry := ⟨7, true, false, fun | [.d (.agg [(.ints .i64 sh), (.ints .i64 da)]), .d (.int .i64 n)] => decide (sh.length < 9223372036854775808) && decide (da.length < 9223372036854775808) | _ => false, fun | [.d (.agg [(.ints .i64 sh), (.ints .i64 da)]), .d (.int .i64 n)] => ([.one ((.bool true), false)], []) | _ => ([], []), fun _ => [], false, fun _ => none⟩
end laws_FnExactCellOf
namespace laws_FnExactCellOf
noncomputable def X : List Entry := [laws_szArray.E, laws_toArray.E, spec_CellOf.E, impl_CellOf.E, laws_eqArray.E, laws_markArray.E, laws_heldArray.E]
noncomputable def I : List Inl := [⟨7, Try.f7, ⟨[23, 25, 29, 33, 47, 79, 81], [], [], [], [], []⟩⟩]
theorem I_ok : ∀ i ∈ I, Try.prog.funcs[i.f]? = some i.fn ∧ (i.fn.name == "runtime.NumGoroutine") = false := by
  intro i hi
  simp only [I, List.mem_cons, List.not_mem_nil, or_false] at hi
  subst hi
  exact ⟨by kernel_rfl, by kernel_rfl⟩
theorem e (fuel : Nat) (p0q0 : List Int) (p0q1 : List Int) (p1 : Int) : runF Try.prog X I 0 fuel 7 Try.f7 [.d (.agg [(.ints .i64 p0q0), (.ints .i64 p0q1)]), .d (.int .i64 p1)] =
  (bif (decide (((szA p0q0 p0q1 1048576) : Int) < 0)) then
  some ([.one ((.bool true), false)], [])
  else
  (bif szB p0q0 && szB p0q1 then
  (bif decide (p0q0.length < 9223372036854775808) && decide (p0q1.length < 9223372036854775808) then
  (bif szB p0q0 && szB p0q1 then
  (bif decide (p0q0.length < 9223372036854775808) && decide (p0q1.length < 9223372036854775808) then
  (bif decide (((ceS p0q0 p0q1 p1)).length < 9223372036854775808) && decide (((ceD p0q0 p0q1 p1)).length < 9223372036854775808) && decide (((ceS p0q0 p0q1 p1)).length < 9223372036854775808) && decide (((ceD p0q0 p0q1 p1)).length < 9223372036854775808) then
  (bif (!(decide (((ceS p0q0 p0q1 p1)) = ((ceS p0q0 p0q1 p1))) && decide (((ceD p0q0 p0q1 p1)) = ((ceD p0q0 p0q1 p1))))) then
  some ([.one ((.bool false), false)], [])
  else
  (bif (!((ceB p0q0 p0q1 p1) == (ceB p0q0 p0q1 p1))) then
  some ([.one ((.bool false), false)], [])
  else
  (bif szB p0q0 && szB p0q1 then
  (bif decide (p0q0.length < 9223372036854775808) && decide (p0q1.length < 9223372036854775808) && decide (p0q0.length < 9223372036854775808) && decide (p0q1.length < 9223372036854775808) then
  (bif (!(decide (p0q0 = p0q0) && decide (p0q1 = p0q1))) then
  some ([.one ((.bool false), false)], [])
  else
  (bif decide (p0q0.length < 9223372036854775808) && decide (p0q1.length < 9223372036854775808) then
  (bif (decide (((markK p0q1 (markK p0q0 1)) : Int) < 0)) then
  some ([.one ((.bool false), false)], [])
  else
  (bif decide (((ceS p0q0 p0q1 p1)).length < 9223372036854775808) && decide (((ceD p0q0 p0q1 p1)).length < 9223372036854775808) && decide (((ceS p0q0 p0q1 p1)).length < 9223372036854775808) && decide (((ceD p0q0 p0q1 p1)).length < 9223372036854775808) then
  (bif (!(decide (((ceS p0q0 p0q1 p1)) = ((ceS p0q0 p0q1 p1))) && decide (((ceD p0q0 p0q1 p1)) = ((ceD p0q0 p0q1 p1))))) then
  some ([.one ((.bool false), false)], [])
  else
  (bif (!((ceB p0q0 p0q1 p1) == (ceB p0q0 p0q1 p1))) then
  some ([.one ((.bool false), false)], [])
  else
  (bif decide (((ceS p0q0 p0q1 p1)).length < 9223372036854775808) && decide (((ceD p0q0 p0q1 p1)).length < 9223372036854775808) then
  (bif decide (((markL ((ceS p0q0 p0q1 p1)) 1)).length < 9223372036854775808) && decide (((markL ((ceD p0q0 p0q1 p1)) (markK ((ceS p0q0 p0q1 p1)) 1))).length < 9223372036854775808) then
  (bif (decide (((heldA ((markL ((ceS p0q0 p0q1 p1)) 1)) ((markL ((ceD p0q0 p0q1 p1)) (markK ((ceS p0q0 p0q1 p1)) 1))) 1) : Int) < 0)) then
  some ([.one ((.bool false), false)], [])
  else
  (bif (((heldA ((markL ((ceS p0q0 p0q1 p1)) 1)) ((markL ((ceD p0q0 p0q1 p1)) (markK ((ceS p0q0 p0q1 p1)) 1))) 1) : Int) != (markK ((ceD p0q0 p0q1 p1)) (markK ((ceS p0q0 p0q1 p1)) 1))) then
  some ([.one ((.bool false), false)], [])
  else
  (bif szB p0q0 && szB p0q1 then
  (bif decide (p0q0.length < 9223372036854775808) && decide (p0q1.length < 9223372036854775808) then
  (bif decide (((ceS p0q0 p0q1 p1)).length < 9223372036854775808) && decide (((ceD p0q0 p0q1 p1)).length < 9223372036854775808) && decide (((ceS p0q0 p0q1 p1)).length < 9223372036854775808) && decide (((ceD p0q0 p0q1 p1)).length < 9223372036854775808) then
  (bif (!(decide (((ceS p0q0 p0q1 p1)) = ((ceS p0q0 p0q1 p1))) && decide (((ceD p0q0 p0q1 p1)) = ((ceD p0q0 p0q1 p1))))) then
  some ([.one ((.bool false), false)], [])
  else
  (bif (!((ceB p0q0 p0q1 p1) == (ceB p0q0 p0q1 p1))) then
  some ([.one ((.bool false), false)], [])
  else
  (bif decide (((markL ((ceS p0q0 p0q1 p1)) 1)).length < 9223372036854775808) && decide (((markL ((ceD p0q0 p0q1 p1)) (markK ((ceS p0q0 p0q1 p1)) 1))).length < 9223372036854775808) then
  (bif (decide (((heldA ((markL ((ceS p0q0 p0q1 p1)) 1)) ((markL ((ceD p0q0 p0q1 p1)) (markK ((ceS p0q0 p0q1 p1)) 1))) 1) : Int) < 0)) then
  some ([.one ((.bool false), false)], [])
  else
  (bif (((heldA ((markL ((ceS p0q0 p0q1 p1)) 1)) ((markL ((ceD p0q0 p0q1 p1)) (markK ((ceS p0q0 p0q1 p1)) 1))) 1) : Int) != (markK ((ceD p0q0 p0q1 p1)) (markK ((ceS p0q0 p0q1 p1)) 1))) then
  some ([.one ((.bool false), false)], [])
  else
  some ([.one ((.bool true), false)], [])))
  else
  none)))
  else
  none)
  else
  none)
  else
  none)))
  else
  none)
  else
  none)))
  else
  none))
  else
  none))
  else
  none)
  else
  none)))
  else
  none)
  else
  none)
  else
  none)
  else
  none)
  else
  none)) := by kernel_rfl
end laws_FnExactCellOf
theorem laws_FnExactCellOf.ok_of (hX : ∀ E ∈ laws_FnExactCellOf.X, CallSpec Try.prog E) (h : ∀ (sh : List Int) (da : List Int) (n : Int), (decide (sh.length < 9223372036854775808) && decide (da.length < 9223372036854775808)) = true → ∃ fuel, runF Try.prog laws_FnExactCellOf.X laws_FnExactCellOf.I 0 fuel 7 Try.f7 [.d (.agg [(.ints .i64 sh), (.ints .i64 da)]), .d (.int .i64 n)] = some ([.one ((.bool true), false)], [])) : CallSpec Try.prog laws_FnExactCellOf.E :=
  callSpec_of (d := 0) hX (by kernel_rfl) laws_FnExactCellOf.I_ok (by kernel_rfl) (by kernel_rfl) (by kernel_rfl) (fun _ _ _ _ h => by dsimp only [laws_FnExactCellOf.E] at h; cases h) (fun xs hp => by
    dsimp only [laws_FnExactCellOf.E] at hp ⊢
    split at hp
    · exact h _ _ _ hp
    · cases hp)
theorem laws_FnExactCellOf.ok : CallSpec Try.prog laws_FnExactCellOf.E := laws_FnExactCellOf.ok_of (by simp [laws_FnExactCellOf.X, laws_szArray.ok, laws_toArray.ok, spec_CellOf.ok, impl_CellOf.ok, laws_eqArray.ok, laws_markArray.ok, laws_heldArray.ok]) fun sh da n h => ⟨0, by
  rw [laws_FnExactCellOf.e]
  simp only [Bool.and_eq_true] at h
  obtain ⟨g0, g1⟩ := h
  by_cases a0 : szA sh da 1048576 < 0
  · rw [decide_eq_true a0]; rfl
  obtain ⟨q0, p0⟩ := szA_le (by omega) (by omega) (of_decide_eq_true g0) (of_decide_eq_true g1) a0
  have z0 := szB_of (xs := sh) (by omega)
  have z1 := szB_of (xs := da) (by omega)
  have hl := ce_len sh da n
  obtain ⟨r0a, r0b, r0c, r0d, r0e, r0f⟩ := marks_ok (sh := (ceS sh da n)) (da := (ceD sh da n)) (by omega) (by omega)
  have mk := mark2_ok (xs := sh) (ys := da) (by omega) (by omega)
  simp only [decide_eq_false a0, g0, g1, z0, z1, r0a, r0b, r0c, r0d, r0e, r0f, mk, bne_self_eq_false, beq_self_eq_true, decide_true, Bool.and_self, Bool.not_true, cond_true, cond_false]⟩

namespace spec_WhereItems
noncomputable def E : Entry := ⟨28, false, false, fun | [.d (.agg [(.ints .i64 sh), (.ints .i64 da)])] => decide (sh.length < 9223372036854775808) && decide (da.length < 9223372036854775808) | _ => false, fun | [.d (.agg [(.ints .i64 sh), (.ints .i64 da)])] => ([.agg [((.ints .i64 (whS sh da)), true), ((.ints .i64 (whD sh da)), true)]], []) | _ => ([], []), fun _ => [], true, fun _ => none⟩
end spec_WhereItems
namespace spec_WhereItems
noncomputable def X : List Entry := [spec_isVector.E, spec_vector.E]
noncomputable def I : List Inl := [⟨28, Try.f28, ⟨[28], [(1000005, [0, 5, 6, 7, 8, 9, 10, 11, 12, 13, 14, 15, 16, 17, 18, 19, 20, 21, 22, 23, 24, 25, 26, 27, 28])], [], [], [], []⟩⟩]
theorem I_ok : ∀ i ∈ I, Try.prog.funcs[i.f]? = some i.fn ∧ (i.fn.name == "runtime.NumGoroutine") = false := by
  intro i hi
  simp only [I, List.mem_cons, List.not_mem_nil, or_false] at hi
  subst hi
  exact ⟨by kernel_rfl, by kernel_rfl⟩
noncomputable abbrev L0 (fuel n : Nat) (s : St) (k : Kont) := lAt Try.prog X I fuel true 0 false 28 (bodyOf Try.f28) [1, 1, 1, 0, 1, 0] n s k
noncomputable abbrev k0  (fuel : Nat) : Kont := (kAt Try.prog X I fuel true 0 false 28 (bodyOf Try.f28) [1, 1, 1, 0, 1, 0] [] (endK Try.prog Try.f28))
noncomputable def t0 (p0q0 : List Int) (p0q1 : List Int) (x0q0 : Int) (x0q3 : List Int) : St := ⟨[.dead, (.ptr 1000000000 0 0), (.ptr 1000000001 0 0), (.all 1000000002 1), (.imm (.int .i64 x0q0)), .dead, .dead, .dead, .dead, .dead, .dead, .dead, .dead, .dead, .dead, .dead, .dead, .dead, .dead, .dead, .dead, .dead, .dead, .dead, .dead, .dead, .dead, .dead, .dead], hOf [(1000000000, (.box [(.imm (.ints .i64 p0q0)), (.imm (.ints .i64 p0q1))])), (1000000001, (.box [(.imm .nils), (.imm .nils)])), (1000000002, (.ints .i64 x0q3))], [], []⟩
theorem e (fuel : Nat) (p0q0 : List Int) (p0q1 : List Int) : runF Try.prog X I 0 fuel 28 Try.f28 [.d (.agg [(.ints .i64 p0q0), (.ints .i64 p0q1)])] =
  (bif decide (p0q0.length < 9223372036854775808) && decide (p0q1.length < 9223372036854775808) then
  (bif (!(vcB p0q0 p0q1)) then
  some ([.agg [((.ints .i64 []), true), ((.ints .i64 []), true)]], [])
  else
  L0 fuel fuel (t0 p0q0 p0q1 0 ([])) (k0  fuel))
  else
  none) := by kernel_rfl
theorem s0 (fuel n0 : Nat) (p0q0 : List Int) (p0q1 : List Int) (x0q0 : Int) (x0q3 : List Int) : L0 fuel (n0 + 1) (t0 p0q0 p0q1 x0q0 x0q3) (k0  fuel) =
  (bif (decide ((x0q0 : Int) < ((p0q1.length : Nat) : Int))) then
  (idx x0q0 p0q1.length).bind fun j5 =>
  (p0q1[j5]?).bind fun v6 =>
  (bif ((v6 : Int) != 0) then
  (bif fits (x0q3.length + ([x0q0] : List Int).length) 8 then
  L0 fuel n0 (t0 p0q0 p0q1 ((IntKind.wrap .i64 (x0q0 + 1))) ((x0q3 ++ [x0q0]))) (k0  fuel)
  else
  none)
  else
  L0 fuel n0 (t0 p0q0 p0q1 ((IntKind.wrap .i64 (x0q0 + 1))) x0q3) (k0  fuel))
  else
  (bif szB x0q3 then
  some ([.agg [((.ints .i64 [((x0q3.length : Nat) : Int)]), true), ((.ints .i64 x0q3), true)]], [])
  else
  none)) := by kernel_rfl
end spec_WhereItems
theorem spec_WhereItems.ok_of (hX : ∀ E ∈ spec_WhereItems.X, CallSpec Try.prog E) (h : ∀ (sh : List Int) (da : List Int), (decide (sh.length < 9223372036854775808) && decide (da.length < 9223372036854775808)) = true → ∃ fuel, runF Try.prog spec_WhereItems.X spec_WhereItems.I 0 fuel 28 Try.f28 [.d (.agg [(.ints .i64 sh), (.ints .i64 da)])] = some ([.agg [((.ints .i64 (whS sh da)), true), ((.ints .i64 (whD sh da)), true)]], [])) : CallSpec Try.prog spec_WhereItems.E :=
  callSpec_of (d := 0) hX (by kernel_rfl) spec_WhereItems.I_ok (by kernel_rfl) (by kernel_rfl) (by kernel_rfl) (fun _ _ _ _ h => by dsimp only [spec_WhereItems.E] at h; cases h) (fun xs hp => by
    dsimp only [spec_WhereItems.E] at hp ⊢
    split at hp
    · exact h _ _ hp
    · cases hp)
theorem spec_WhereItems.ok : CallSpec Try.prog spec_WhereItems.E := spec_WhereItems.ok_of (by simp [spec_WhereItems.X, spec_isVector.ok, spec_vector.ok]) fun sh da h => ⟨da.length + 1, by
  rw [spec_WhereItems.e, h]
  unfold whS whD
  cases hb : vcB sh da with
  | false => rfl
  | true =>
    obtain ⟨_, _, hl, _⟩ := vcB_inv hb
    have hw := whC_len da
    refine run_loop (N := da.length) (fun n j out => spec_WhereItems.L0 (da.length + 1) n (spec_WhereItems.t0 sh da (j : Int) out) (spec_WhereItems.k0 (da.length + 1))) (fun j out => out = whC da j) ?_ ?_ (da.length + 1) 0 [] (by omega) (by omega) rfl
    · rintro n out rfl
      have := hw da.length
      rw [spec_WhereItems.s0, dge (by omega), cond_false, szB_of (by omega)]
      rfl
    · rintro n j out hj rfl
      have := hw j
      rw [spec_WhereItems.s0, dlt hj, cond_true, idx_nat hj, w1 (by omega), fitsOk (by simp only [List.length_cons, List.length_nil]; omega)]
      simp only [Option.bind_some, getD_get hj, cond_true]
      cases hc : (da.getD j 0 == 0) with
      | true =>
        refine ⟨whC da j, by simp only [whC, hc, cond_true], ?_⟩
        rw [show (da.getD j 0 != 0) = false by simp only [bne, hc]; rfl]; rfl
      | false =>
        refine ⟨whC da j ++ [(j : Int)], by simp only [whC, hc, cond_false], ?_⟩
        rw [show (da.getD j 0 != 0) = true by simp only [bne, hc]; rfl]; rfl⟩

end Go.Ab
