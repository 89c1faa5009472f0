import Derived.Test.YtpafnakefbnofabEb1
import Derived.Test.YtpafnakefbnofabProg
import Derived.Test.YtpafnakefbnofabChecked
open Go Go.Ab Go.Proofs
set_option maxRecDepth 100000
set_option linter.unusedVariables false
set_option linter.unusedSimpArgs false
namespace Go.Ab
namespace spec_modulo
noncomputable def E : Entry := ⟨79, true, false, fun | [.d (.int .i64 a), .d (.int .i64 b)] => decide (0 < b) | _ => false, fun | [.d (.int .i64 a), .d (.int .i64 b)] => ([.one ((.int .i64 (modV a b)), false)], []) | _ => ([], []), fun _ => [], false, fun _ => none⟩
end spec_modulo
namespace spec_modulo
noncomputable def X : List Entry := []
noncomputable def I : List Inl := [⟨79, Try.f79, ⟨[], [], [], [], [], []⟩⟩]
theorem I_ok : ∀ i ∈ I, Try.prog.funcs[i.f]? = some i.fn ∧ (i.fn.name == "runtime.NumGoroutine") = false := by
  intro i hi
  simp only [I, List.mem_cons, List.not_mem_nil, or_false] at hi
  subst hi
  exact ⟨by kernel_rfl, by kernel_rfl⟩
theorem e (fuel : Nat) (p0 : Int) (p1 : Int) : runF Try.prog X I 0 fuel 79 Try.f79 [.d (.int .i64 p0), .d (.int .i64 p1)] =
  (bif decide ((p1 : Int) = 0) then
  none
  else
  (bif decide ((p1 : Int) = 0) then
  none
  else
  some ([.one ((.int .i64 (Int.tmod (IntKind.wrap .i64 ((Int.tmod p0 p1) + p1)) p1)), false)], []))) := by kernel_rfl
end spec_modulo
theorem spec_modulo.ok_of (hX : ∀ E ∈ spec_modulo.X, CallSpec Try.prog E) (h : ∀ (a : Int) (b : Int), (decide (0 < b)) = true → ∃ fuel, runF Try.prog spec_modulo.X spec_modulo.I 0 fuel 79 Try.f79 [.d (.int .i64 a), .d (.int .i64 b)] = some ([.one ((.int .i64 (modV a b)), false)], [])) : CallSpec Try.prog spec_modulo.E :=
  callSpec_of (d := 0) hX (by kernel_rfl) spec_modulo.I_ok (by kernel_rfl) (by kernel_rfl) (by kernel_rfl) (fun _ _ _ _ h => by dsimp only [spec_modulo.E] at h; cases h) (fun xs hp => by
    dsimp only [spec_modulo.E] at hp ⊢
    split at hp
    · exact h _ _ hp
    · cases hp)
theorem spec_modulo.ok : CallSpec Try.prog spec_modulo.E := spec_modulo.ok_of (by simp [spec_modulo.X]) fun a b h => ⟨0, by
  have := of_decide_eq_true h
  rw [spec_modulo.e, decide_eq_false (p := b = 0) (by omega)]
  rfl⟩

namespace spec_operate
noncomputable def E : Entry := ⟨72, true, false, fun | [.d (.int .i64 op), .d (.int .i64 a), .d (.int .i64 b)] => true | _ => false, fun | [.d (.int .i64 op), .d (.int .i64 a), .d (.int .i64 b)] => ([.one ((.int .i64 (operF op a b)), false)], []) | _ => ([], []), fun _ => [], false, fun _ => none⟩
end spec_operate
namespace spec_operate
noncomputable def X : List Entry := [spec_limit.E, spec_toInt.E, spec_modulo.E]
noncomputable def I : List Inl := [⟨72, Try.f72, ⟨[], [], [], [], [], []⟩⟩]
theorem I_ok : ∀ i ∈ I, Try.prog.funcs[i.f]? = some i.fn ∧ (i.fn.name == "runtime.NumGoroutine") = false := by
  intro i hi
  simp only [I, List.mem_cons, List.not_mem_nil, or_false] at hi
  subst hi
  exact ⟨by kernel_rfl, by kernel_rfl⟩
theorem e (fuel : Nat) (p0 : Int) (p1 : Int) (p2 : Int) : runF Try.prog X I 0 fuel 72 Try.f72 [.d (.int .i64 p0), .d (.int .i64 p1), .d (.int .i64 p2)] =
  (bif ((p0 : Int) == 1) then
  some ([.one ((.int .i64 (limV ((IntKind.wrap .i64 (p1 + p2))))), false)], [])
  else
  (bif ((p0 : Int) == 2) then
  some ([.one ((.int .i64 (limV ((IntKind.wrap .i64 (p1 - p2))))), false)], [])
  else
  (bif ((p0 : Int) == 3) then
  some ([.one ((.int .i64 (limV ((IntKind.wrap .i64 (p1 * p2))))), false)], [])
  else
  (bif ((p0 : Int) == 4) then
  some ([.one ((.int .i64 (minI p1 p2)), false)], [])
  else
  (bif ((p0 : Int) == 5) then
  some ([.one ((.int .i64 (maxI p1 p2)), false)], [])
  else
  (bif ((p0 : Int) == 6) then
  some ([.one ((.int .i64 (tInt (((p1 : Int) == p2)))), false)], [])
  else
  (bif ((p0 : Int) == 7) then
  some ([.one ((.int .i64 (tInt ((decide ((p1 : Int) < p2))))), false)], [])
  else
  (bif (decide ((p1 : Int) ≤ 0)) then
  some ([.one ((.int .i64 p2), false)], [])
  else
  (bif decide (0 < p1) then
  some ([.one ((.int .i64 (modV p2 p1)), false)], [])
  else
  none))))))))) := by kernel_rfl
end spec_operate
theorem spec_operate.ok_of (hX : ∀ E ∈ spec_operate.X, CallSpec Try.prog E) (h : ∀ (op : Int) (a : Int) (b : Int), (true) = true → ∃ fuel, runF Try.prog spec_operate.X spec_operate.I 0 fuel 72 Try.f72 [.d (.int .i64 op), .d (.int .i64 a), .d (.int .i64 b)] = some ([.one ((.int .i64 (operF op a b)), false)], [])) : CallSpec Try.prog spec_operate.E :=
  callSpec_of (d := 0) hX (by kernel_rfl) spec_operate.I_ok (by kernel_rfl) (by kernel_rfl) (by kernel_rfl) (fun _ _ _ _ h => by dsimp only [spec_operate.E] at h; cases h) (fun xs hp => by
    dsimp only [spec_operate.E] at hp ⊢
    split at hp
    · exact h _ _ _ hp
    · cases hp)
theorem spec_operate.ok : CallSpec Try.prog spec_operate.E := spec_operate.ok_of (by simp [spec_operate.X, spec_limit.ok, spec_toInt.ok, spec_modulo.ok]) fun op a b _ => ⟨0, by
  rw [spec_operate.e]
  unfold operF restV
  by_cases h : a ≤ 0
  · rw [decide_eq_true h]
    cases op == 1 <;> cases op == 2 <;> cases op == 3 <;> cases op == 4 <;> cases op == 5 <;> cases op == 6 <;> cases op == 7 <;> rfl
  · rw [decide_eq_false h, decide_eq_true (p := 0 < a) (by omega)]
    cases op == 1 <;> cases op == 2 <;> cases op == 3 <;> cases op == 4 <;> cases op == 5 <;> cases op == 6 <;> cases op == 7 <;> rfl⟩

namespace spec_combine
noncomputable def E : Entry := ⟨40, false, false, fun | [.d (.int .i64 op), .d (.agg [(.ints .i64 s1), (.ints .i64 d1)]), .d (.agg [(.ints .i64 s2), (.ints .i64 d2)])] => validA s1 d1 && validA s2 d2 && fitB s1 s2 | _ => false, fun | [.d (.int .i64 op), .d (.agg [(.ints .i64 s1), (.ints .i64 d1)]), .d (.agg [(.ints .i64 s2), (.ints .i64 d2)])] => ([.agg [((.ints .i64 (cS s1 s2)), true), ((.ints .i64 (cD op s1 d1 s2 d2)), true)]], []) | _ => ([], []), fun _ => [], true, fun _ => none⟩
end spec_combine
namespace spec_combine
noncomputable def X : List Entry := [spec_volume.E, spec_operate.E, spec_make1.E]
noncomputable def I : List Inl := [⟨40, Try.f40, ⟨[52], [(1000006, [1, 2, 3, 10, 11, 12, 13, 14, 15, 16, 17, 18, 19, 20, 21, 22, 23, 24, 25, 26, 27, 28, 29, 30, 31, 32, 33, 34, 35, 36, 37, 38, 39, 40, 41, 42, 43, 44, 45, 46, 47, 48, 49, 50, 51, 52])], [], [(8, [0, 1, 2, 4, 5, 12, 14, 15, 3, 6, 7, 8, 9, 10, 11, 13, 16, 17, 18, 19, 20, 21, 22, 23, 24, 25])], [], []⟩⟩]
theorem I_ok : ∀ i ∈ I, Try.prog.funcs[i.f]? = some i.fn ∧ (i.fn.name == "runtime.NumGoroutine") = false := by
  intro i hi
  simp only [I, List.mem_cons, List.not_mem_nil, or_false] at hi
  subst hi
  exact ⟨by kernel_rfl, by kernel_rfl⟩
noncomputable abbrev L0 (fuel n : Nat) (s : St) (k : Kont) := lAt Try.prog X I fuel true 0 false 40 (bodyOf Try.f40) [1, 1, 1, 1, 0, 1, 0] n s k
noncomputable abbrev k0  (fuel : Nat) : Kont := (kAt Try.prog X I fuel true 0 false 40 (bodyOf Try.f40) [1, 1, 1, 1, 0, 1, 0] [] (endK Try.prog Try.f40))
noncomputable def t0 (p0 : Int) (p1q0 : List Int) (p1q1 : List Int) (p2q0 : List Int) (p2q1 : List Int) (x0q1 : List Int) (x0q2 : Int) (x0q7 : List Int) : St := ⟨[(.imm (.int .i64 p0)), .dead, .dead, .dead, (.ptr 1000000000 0 0), (.ptr 1000000001 0 0), (.ptr 1000000002 0 0), (.imm (.ints .i64 x0q1)), (.all 1000000003 1), (.imm (.int .i64 x0q2)), .dead, .dead, .dead, .dead, .dead, .dead, .dead, .dead, .dead, .dead, .dead, .dead, .dead, .dead, .dead, .dead, .dead, .dead, .dead, .dead, .dead, .dead, .dead, .dead, .dead, .dead, .dead, .dead, .dead, .dead, .dead, .dead, .dead, .dead, .dead, .dead, .dead, .dead, .dead, .dead, .dead, .dead, .dead], hOf [(1000000000, (.box [(.imm (.ints .i64 p1q0)), (.imm (.ints .i64 p1q1))])), (1000000001, (.box [(.imm (.ints .i64 p2q0)), (.imm (.ints .i64 p2q1))])), (1000000002, (.box [(.imm .nils), (.imm .nils)])), (1000000003, (.ints .i64 x0q7))], [], []⟩
theorem e (fuel : Nat) (p0 : Int) (p1q0 : List Int) (p1q1 : List Int) (p2q0 : List Int) (p2q1 : List Int) : runF Try.prog X I 0 fuel 40 Try.f40 [.d (.int .i64 p0), .d (.agg [(.ints .i64 p1q0), (.ints .i64 p1q1)]), .d (.agg [(.ints .i64 p2q0), (.ints .i64 p2q1)])] =
  (bif ((((p1q0.length : Nat) : Int) : Int) == 0) then
  L0 fuel fuel (t0 p0 p1q0 p1q1 p2q0 p2q1 p2q0 0 ([])) (k0  fuel)
  else
  L0 fuel fuel (t0 p0 p1q0 p1q1 p2q0 p2q1 p1q0 0 ([])) (k0  fuel)) := by kernel_rfl
theorem s0 (fuel n0 : Nat) (p0 : Int) (p1q0 : List Int) (p1q1 : List Int) (p2q0 : List Int) (p2q1 : List Int) (x0q1 : List Int) (x0q2 : Int) (x0q7 : List Int) : L0 fuel (n0 + 1) (t0 p0 p1q0 p1q1 p2q0 p2q1 x0q1 x0q2 x0q7) (k0  fuel) =
  (bif decide (x0q1.length < 9223372036854775808) then
  (bif (decide ((x0q2 : Int) < (volW x0q1))) then
  (idx (minI x0q2 (IntKind.wrap .i64 (((p1q1.length : Nat) : Int) - 1))) p1q1.length).bind fun j5 =>
  (p1q1[j5]?).bind fun v6 =>
  (idx (minI x0q2 (IntKind.wrap .i64 (((p2q1.length : Nat) : Int) - 1))) p2q1.length).bind fun j7 =>
  (p2q1[j7]?).bind fun v8 =>
  (bif fits (x0q7.length + ([(operF p0 v6 v8)] : List Int).length) 8 then
  L0 fuel n0 (t0 p0 p1q0 p1q1 p2q0 p2q1 x0q1 ((IntKind.wrap .i64 (x0q2 + 1))) ((x0q7 ++ [(operF p0 v6 v8)]))) (k0  fuel)
  else
  none)
  else
  (bif szB x0q1 && szB x0q7 then
  some ([.agg [((.ints .i64 x0q1), true), ((.ints .i64 x0q7), true)]], [])
  else
  none))
  else
  none) := by kernel_rfl
end spec_combine
theorem spec_combine.ok_of (hX : ∀ E ∈ spec_combine.X, CallSpec Try.prog E) (h : ∀ (op : Int) (s1 : List Int) (d1 : List Int) (s2 : List Int) (d2 : List Int), (validA s1 d1 && validA s2 d2 && fitB s1 s2) = true → ∃ fuel, runF Try.prog spec_combine.X spec_combine.I 0 fuel 40 Try.f40 [.d (.int .i64 op), .d (.agg [(.ints .i64 s1), (.ints .i64 d1)]), .d (.agg [(.ints .i64 s2), (.ints .i64 d2)])] = some ([.agg [((.ints .i64 (cS s1 s2)), true), ((.ints .i64 (cD op s1 d1 s2 d2)), true)]], [])) : CallSpec Try.prog spec_combine.E :=
  callSpec_of (d := 0) hX (by kernel_rfl) spec_combine.I_ok (by kernel_rfl) (by kernel_rfl) (by kernel_rfl) (fun _ _ _ _ h => by dsimp only [spec_combine.E] at h; cases h) (fun xs hp => by
    dsimp only [spec_combine.E] at hp ⊢
    split at hp
    · exact h _ _ _ _ _ hp
    · cases hp)
theorem spec_combine.loop (fuel : Nat) (op : Int) (s1 d1 s2 d2 : List Int) (S : List Int) (hS : S.length ≤ 3) (hV : ((volW S).toNat : Int) = volW S) (hv : (volW S).toNat ≤ 60) (g1 : 0 < d1.length ∧ d1.length ≤ 60 ∨ (volW S).toNat = 0) (g2 : 0 < d2.length ∧ d2.length ≤ 60 ∨ (volW S).toNat = 0) : ∀ (m n j : Nat) (out : List Int), (volW S).toNat - j = m → m < n → j ≤ (volW S).toNat → out = tab j (fun i => operF op (d1.getD (min i (d1.length - 1)) 0) (d2.getD (min i (d2.length - 1)) 0)) →
    spec_combine.L0 fuel n (spec_combine.t0 op s1 d1 s2 d2 S (j : Int) out) (spec_combine.k0 fuel) = some ([.agg [(.ints .i64 S, true), (.ints .i64 (tab (volW S).toNat (fun i => operF op (d1.getD (min i (d1.length - 1)) 0) (d2.getD (min i (d2.length - 1)) 0))), true)]], []) := by
  intro m
  induction m with
  | zero =>
    intro n j out h1 h2 h3 h4
    obtain ⟨n, rfl⟩ : ∃ n', n = n' + 1 := ⟨n - 1, by omega⟩
    have ho : out.length = j := by rw [h4, tab_length]
    rw [spec_combine.s0, decide_eq_true (p := S.length < 9223372036854775808) (by omega), decide_eq_false (p := (j : Int) < volW S) (by omega), szB_of (xs := S) (by omega), szB_of (xs := out) (by omega), h4, show j = (volW S).toNat by omega]
    rfl
  | succ m ih =>
    intro n j out h1 h2 h3 h4
    obtain ⟨n, rfl⟩ : ∃ n', n = n' + 1 := ⟨n - 1, by omega⟩
    have ho : out.length = j := by rw [h4, tab_length]
    have a1 : min j (d1.length - 1) < d1.length := by omega
    have a2 : min j (d2.length - 1) < d2.length := by omega
    have c1 : minI (j : Int) (IntKind.wrap .i64 (((d1.length : Nat) : Int) - 1)) = ((min j (d1.length - 1) : Nat) : Int) := by
      rw [wS (by omega) (by omega)]; unfold minI; split <;> omega
    have c2 : minI (j : Int) (IntKind.wrap .i64 (((d2.length : Nat) : Int) - 1)) = ((min j (d2.length - 1) : Nat) : Int) := by
      rw [wS (by omega) (by omega)]; unfold minI; split <;> omega
    rw [spec_combine.s0, decide_eq_true (p := S.length < 9223372036854775808) (by omega), decide_eq_true (p := (j : Int) < volW S) (by omega), c1, c2, idx_nat a1, idx_nat a2, w1 (by omega)]
    simp only [cond_true, Option.bind_some, getS a1, getS a2]
    rw [fitsOk (by simp; omega)]
    simp only [cond_true]
    have b1 : d1.getD (min j (d1.length - 1)) 0 = d1[min j (d1.length - 1)] := by simp [a1]
    have b2 : d2.getD (min j (d2.length - 1)) 0 = d2[min j (d2.length - 1)] := by simp [a2]
    exact ih n (j + 1) _ (by omega) (by omega) (by omega) (by rw [tab_succ, h4, b1, b2])
theorem spec_combine.ok : CallSpec Try.prog spec_combine.E := spec_combine.ok_of (by simp [spec_combine.X, spec_volume.ok, spec_operate.ok, spec_make1.ok]) fun op s1 d1 s2 d2 h => by
  simp only [Bool.and_eq_true] at h
  obtain ⟨⟨v1, v2⟩, hf⟩ := h
  have b1 := validA_len v1
  have b2 := validA_len v2
  have e1 := vol_len v1
  have e2 := vol_len v2
  have p1 := (vol_bd (validA_inv v1).1).1
  have p2 := (vol_bd (validA_inv v2).1).1
  obtain ⟨F, hF⟩ : ∃ F : Nat, 60 < F := ⟨61, by omega⟩
  refine ⟨F, ?_⟩
  rw [spec_combine.e, len0]
  by_cases h1 : s1.length = 0
  · have e := List.length_eq_zero_iff.mp h1
    subst e
    have l1 := sc_len v1
    have hc : cS [] s2 = s2 := rfl
    rw [decide_eq_true h1, cond_true, cD, hc]
    exact spec_combine.loop F op [] d1 s2 d2 s2 (by omega) (by omega) (by omega) (by omega) (by omega) _ F 0 [] rfl (by omega) (by omega) rfl
  · have hc : cS s1 s2 = s1 := by rw [cS, decide_eq_false h1]; rfl
    rw [decide_eq_false h1, cond_false, cD, hc]
    refine spec_combine.loop F op s1 d1 s2 d2 s1 (by omega) (by omega) (by omega) (by omega) ?_ _ F 0 [] rfl (by omega) (by omega) rfl
    by_cases h2 : s2.length = 0
    · have e := List.length_eq_zero_iff.mp h2
      subst e
      have l2 := sc_len v2
      omega
    · rw [fitB, decide_eq_false h1, decide_eq_false h2, cond_false, cond_false] at hf
      have := of_decide_eq_true hf
      subst this
      omega

namespace spec_Combine
noncomputable def E : Entry := ⟨16, false, false, fun | [.d (.int .i64 op), .d (.agg [(.ints .i64 s1), (.ints .i64 d1)]), .d (.agg [(.ints .i64 s2), (.ints .i64 d2)])] => decide (s1.length < 9223372036854775808) && decide (d1.length < 9223372036854775808) && decide (s2.length < 9223372036854775808) && decide (d2.length < 9223372036854775808) | _ => false, fun | [.d (.int .i64 op), .d (.agg [(.ints .i64 s1), (.ints .i64 d1)]), .d (.agg [(.ints .i64 s2), (.ints .i64 d2)])] => ([.agg [((.ints .i64 (comS op s1 d1 s2 d2)), true), ((.ints .i64 (comD op s1 d1 s2 d2)), true)], .one ((.bool (comB op s1 d1 s2 d2)), false)], []) | _ => ([], []), fun _ => [], true, fun _ => none⟩
end spec_Combine
namespace spec_Combine
noncomputable def X : List Entry := [spec_validOp.E, spec_valid.E, spec_fits.E, spec_combine.E]
noncomputable def I : List Inl := [⟨16, Try.f16, ⟨[31], [], [], [], [], []⟩⟩]
theorem I_ok : ∀ i ∈ I, Try.prog.funcs[i.f]? = some i.fn ∧ (i.fn.name == "runtime.NumGoroutine") = false := by
  intro i hi
  simp only [I, List.mem_cons, List.not_mem_nil, or_false] at hi
  subst hi
  exact ⟨by kernel_rfl, by kernel_rfl⟩
theorem e (fuel : Nat) (p0 : Int) (p1q0 : List Int) (p1q1 : List Int) (p2q0 : List Int) (p2q1 : List Int) : runF Try.prog X I 0 fuel 16 Try.f16 [.d (.int .i64 p0), .d (.agg [(.ints .i64 p1q0), (.ints .i64 p1q1)]), .d (.agg [(.ints .i64 p2q0), (.ints .i64 p2q1)])] =
  (bif (!(opOk p0)) then
  some ([.agg [((.ints .i64 []), true), ((.ints .i64 []), true)], .one ((.bool false), false)], [])
  else
  (bif decide (p1q0.length < 9223372036854775808) && decide (p1q1.length < 9223372036854775808) then
  (bif (!(validA p1q0 p1q1)) then
  some ([.agg [((.ints .i64 []), true), ((.ints .i64 []), true)], .one ((.bool false), false)], [])
  else
  (bif decide (p2q0.length < 9223372036854775808) && decide (p2q1.length < 9223372036854775808) then
  (bif (!(validA p2q0 p2q1)) then
  some ([.agg [((.ints .i64 []), true), ((.ints .i64 []), true)], .one ((.bool false), false)], [])
  else
  (bif decide (p1q0.length < 9223372036854775808) && decide (p2q0.length < 9223372036854775808) then
  (bif (!(fitB p1q0 p2q0)) then
  some ([.agg [((.ints .i64 []), true), ((.ints .i64 []), true)], .one ((.bool false), false)], [])
  else
  (bif validA p1q0 p1q1 && validA p2q0 p2q1 && fitB p1q0 p2q0 then
  some ([.agg [((.ints .i64 (cS p1q0 p2q0)), true), ((.ints .i64 (cD p0 p1q0 p1q1 p2q0 p2q1)), true)], .one ((.bool true), false)], [])
  else
  none))
  else
  none))
  else
  none))
  else
  none)) := by kernel_rfl
end spec_Combine
theorem spec_Combine.ok_of (hX : ∀ E ∈ spec_Combine.X, CallSpec Try.prog E) (h : ∀ (op : Int) (s1 : List Int) (d1 : List Int) (s2 : List Int) (d2 : List Int), (decide (s1.length < 9223372036854775808) && decide (d1.length < 9223372036854775808) && decide (s2.length < 9223372036854775808) && decide (d2.length < 9223372036854775808)) = true → ∃ fuel, runF Try.prog spec_Combine.X spec_Combine.I 0 fuel 16 Try.f16 [.d (.int .i64 op), .d (.agg [(.ints .i64 s1), (.ints .i64 d1)]), .d (.agg [(.ints .i64 s2), (.ints .i64 d2)])] = some ([.agg [((.ints .i64 (comS op s1 d1 s2 d2)), true), ((.ints .i64 (comD op s1 d1 s2 d2)), true)], .one ((.bool (comB op s1 d1 s2 d2)), false)], [])) : CallSpec Try.prog spec_Combine.E :=
  callSpec_of (d := 0) hX (by kernel_rfl) spec_Combine.I_ok (by kernel_rfl) (by kernel_rfl) (by kernel_rfl) (fun _ _ _ _ h => by dsimp only [spec_Combine.E] at h; cases h) (fun xs hp => by
    dsimp only [spec_Combine.E] at hp ⊢
    split at hp
    · exact h _ _ _ _ _ hp
    · cases hp)
theorem spec_Combine.ok : CallSpec Try.prog spec_Combine.E := spec_Combine.ok_of (by simp [spec_Combine.X, spec_validOp.ok, spec_valid.ok, spec_fits.ok, spec_combine.ok]) fun op s1 d1 s2 d2 h => ⟨0, by
  simp only [Bool.and_eq_true] at h
  obtain ⟨⟨⟨h1, h2⟩, h3⟩, h4⟩ := h
  rw [spec_Combine.e]
  simp only [h1, h2, h3, h4, Bool.and_self, cond_true]
  unfold comS comD comB
  cases opOk op <;> cases validA s1 d1 <;> cases validA s2 d2 <;> cases fitB s1 s2 <;> rfl⟩

namespace impl_Operate
noncomputable def E : Entry := ⟨17, true, false, fun | [.d (.int .i64 op), .d (.int .i64 a), .d (.int .i64 b)] => true | _ => false, fun | [.d (.int .i64 op), .d (.int .i64 a), .d (.int .i64 b)] => ([.one ((.int .i64 (operV op a b)), false)], []) | _ => ([], []), fun _ => [], false, fun _ => none⟩
end impl_Operate
namespace impl_Operate
noncomputable def X : List Entry := [impl_functionOfTwo.E, impl_isNumber.E, impl_restOf.E, impl_functionOfTwo_7.E, impl_functionOfTwo_6.E, impl_functionOfTwo_5.E, impl_functionOfTwo_4.E, impl_functionOfTwo_3.E, impl_functionOfTwo_2.E, impl_functionOfTwo_1.E]
noncomputable def I : List Inl := [⟨17, Try.f17, ⟨[], [], [], [], [], []⟩⟩]
theorem I_ok : ∀ i ∈ I, Try.prog.funcs[i.f]? = some i.fn ∧ (i.fn.name == "runtime.NumGoroutine") = false := by
  intro i hi
  simp only [I, List.mem_cons, List.not_mem_nil, or_false] at hi
  subst hi
  exact ⟨by kernel_rfl, by kernel_rfl⟩
theorem e (fuel : Nat) (p0 : Int) (p1 : Int) (p2 : Int) : runF Try.prog X I 0 fuel 17 Try.f17 [.d (.int .i64 p0), .d (.int .i64 p1), .d (.int .i64 p2)] =
  (bif decide (p0 = 1) then
  (bif (!(numB p1)) then
  some ([.one ((.int .i64 0), false)], [])
  else
  (bif (!(numB p2)) then
  some ([.one ((.int .i64 0), false)], [])
  else
  some ([.one ((.int .i64 (limV (IntKind.wrap .i64 (p1 + p2)))), false)], [])))
  else
  (bif decide (p0 = 2) then
  (bif (!(numB p1)) then
  some ([.one ((.int .i64 0), false)], [])
  else
  (bif (!(numB p2)) then
  some ([.one ((.int .i64 0), false)], [])
  else
  some ([.one ((.int .i64 (limV (IntKind.wrap .i64 (p1 - p2)))), false)], [])))
  else
  (bif decide (p0 = 3) then
  (bif (!(numB p1)) then
  some ([.one ((.int .i64 0), false)], [])
  else
  (bif (!(numB p2)) then
  some ([.one ((.int .i64 0), false)], [])
  else
  some ([.one ((.int .i64 (limV (IntKind.wrap .i64 (p1 * p2)))), false)], [])))
  else
  (bif decide (p0 = 4) then
  (bif (!(numB p1)) then
  some ([.one ((.int .i64 0), false)], [])
  else
  (bif (!(numB p2)) then
  some ([.one ((.int .i64 0), false)], [])
  else
  some ([.one ((.int .i64 (minI p1 p2)), false)], [])))
  else
  (bif decide (p0 = 5) then
  (bif (!(numB p1)) then
  some ([.one ((.int .i64 0), false)], [])
  else
  (bif (!(numB p2)) then
  some ([.one ((.int .i64 0), false)], [])
  else
  some ([.one ((.int .i64 (maxI p1 p2)), false)], [])))
  else
  (bif decide (p0 = 6) then
  (bif (!(numB p1)) then
  some ([.one ((.int .i64 0), false)], [])
  else
  (bif (!(numB p2)) then
  some ([.one ((.int .i64 0), false)], [])
  else
  some ([.one ((.int .i64 (tInt (p1 == p2))), false)], [])))
  else
  (bif decide (p0 = 7) then
  (bif (!(numB p1)) then
  some ([.one ((.int .i64 0), false)], [])
  else
  (bif (!(numB p2)) then
  some ([.one ((.int .i64 0), false)], [])
  else
  some ([.one ((.int .i64 (tInt (decide (p1 < p2)))), false)], [])))
  else
  (bif decide (p0 = 8) then
  (bif (!(numB p1)) then
  some ([.one ((.int .i64 0), false)], [])
  else
  (bif (!(numB p2)) then
  some ([.one ((.int .i64 0), false)], [])
  else
  some ([.one ((.int .i64 (restV p1 p2)), false)], [])))
  else
  some ([.one ((.int .i64 0), false)], []))))))))) := by kernel_rfl
end impl_Operate
theorem impl_Operate.ok_of (hX : ∀ E ∈ impl_Operate.X, CallSpec Try.prog E) (h : ∀ (op : Int) (a : Int) (b : Int), (true) = true → ∃ fuel, runF Try.prog impl_Operate.X impl_Operate.I 0 fuel 17 Try.f17 [.d (.int .i64 op), .d (.int .i64 a), .d (.int .i64 b)] = some ([.one ((.int .i64 (operV op a b)), false)], [])) : CallSpec Try.prog impl_Operate.E :=
  callSpec_of (d := 0) hX (by kernel_rfl) impl_Operate.I_ok (by kernel_rfl) (by kernel_rfl) (by kernel_rfl) (fun _ _ _ _ h => by dsimp only [impl_Operate.E] at h; cases h) (fun xs hp => by
    dsimp only [impl_Operate.E] at hp ⊢
    split at hp
    · exact h _ _ _ hp
    · cases hp)
theorem impl_Operate.ok : CallSpec Try.prog impl_Operate.E := impl_Operate.ok_of (by simp [impl_Operate.X, impl_functionOfTwo.ok, impl_isNumber.ok, impl_restOf.ok, impl_functionOfTwo_1.ok, impl_functionOfTwo_2.ok, impl_functionOfTwo_3.ok, impl_functionOfTwo_4.ok, impl_functionOfTwo_5.ok, impl_functionOfTwo_6.ok, impl_functionOfTwo_7.ok]) fun op a b _ => ⟨0, by
  rw [impl_Operate.e]
  unfold operV
  cases ho : opOk op with
  | true =>
    rcases opOk_cases ho with rfl | rfl | rfl | rfl | rfl | rfl | rfl | rfl <;> cases numB a <;> cases numB b <;> rfl
  | false =>
    have h := opOk_no ho
    rw [decide_eq_false (p := op = 1) (by omega), decide_eq_false (p := op = 2) (by omega), decide_eq_false (p := op = 3) (by omega), decide_eq_false (p := op = 4) (by omega),
      decide_eq_false (p := op = 5) (by omega), decide_eq_false (p := op = 6) (by omega), decide_eq_false (p := op = 7) (by omega), decide_eq_false (p := op = 8) (by omega)]
    rfl⟩

namespace laws_FnCombine
noncomputable def E : Entry := ⟨4, true, false, fun | [.d (.ints .u8 bs)] => bytesB bs | _ => false, fun | [.d (.ints .u8 bs)] => ([.one ((.bool true), false)], []) | _ => ([], []), fun _ => [], false, fun _ => none⟩
end laws_FnCombine
namespace laws_FnCombine
noncomputable def X : List Entry := [spec_DrawCombine.E, impl_Combine.E, spec_Combine.E, laws_equalArray.E, impl_Operate.E, impl_ValidArray.E]
noncomputable def I : List Inl := [⟨4, Try.f4, ⟨[18, 26, 33], [(1000009, [0, 1, 2, 7, 8, 9, 11, 12, 13, 14, 15, 16, 17, 18, 19, 20, 21, 22, 23, 24, 25, 26, 27, 28, 29, 30, 31, 32, 33, 34, 35, 36, 37, 38, 39, 40, 41, 42, 43, 44, 45, 46, 47, 48, 49, 50, 51, 52, 53, 54, 55, 56, 57, 58, 59, 60, 61, 62, 63, 64, 65, 66, 67, 68, 69, 70, 71, 72, 73, 74, 75, 76, 77, 78, 79, 80, 81, 82, 83, 84, 85, 86, 87, 88, 89, 90, 91, 92, 93, 94, 95, 96, 97, 98, 99, 100, 101])], [], [(17, [0, 2, 5, 6, 7, 1, 3, 4, 8, 9])], [], []⟩⟩]
theorem I_ok : ∀ i ∈ I, Try.prog.funcs[i.f]? = some i.fn ∧ (i.fn.name == "runtime.NumGoroutine") = false := by
  intro i hi
  simp only [I, List.mem_cons, List.not_mem_nil, or_false] at hi
  subst hi
  exact ⟨by kernel_rfl, by kernel_rfl⟩
noncomputable abbrev L0 (fuel n : Nat) (s : St) (k : Kont) := lAt Try.prog X I fuel true 0 false 4 (bodyOf Try.f4) [1, 1, 1, 1, 1, 1, 0, 1, 0] n s k
noncomputable abbrev k0  (fuel : Nat) : Kont := (kAt Try.prog X I fuel true 0 false 4 (bodyOf Try.f4) [1, 1, 1, 1, 1, 1, 0, 1, 0] [] (endK Try.prog Try.f4))
noncomputable def t0 (p0 : List Int) (x0q1 : Int) : St := ⟨[.dead, .dead, .dead, (.imm (.int .i64 (anyOpV (cutC p0) 0))), (.ptr 1000000000 0 0), (.ptr 1000000001 0 0), (.ptr 1000000002 0 0), .dead, .dead, .dead, (.imm (.int .i64 x0q1)), .dead, .dead, .dead, .dead, .dead, .dead, .dead, .dead, .dead, .dead, .dead, .dead, .dead, .dead, .dead, .dead, .dead, .dead, .dead, .dead, .dead, .dead, .dead, .dead, .dead, .dead, .dead, .dead, .dead, .dead, .dead, .dead, .dead, .dead, .dead, .dead, .dead, .dead, .dead, .dead, .dead, .dead, .dead, .dead, .dead, .dead, .dead, .dead, .dead, .dead, .dead, .dead, .dead, .dead, .dead, .dead, .dead, .dead, .dead, .dead, .dead, .dead, .dead, .dead, .dead, .dead, .dead, .dead, .dead, .dead, .dead, .dead, .dead, .dead, .dead, .dead, .dead, .dead, .dead, .dead, .dead, .dead, .dead, .dead, .dead, .dead, .dead, .dead, .dead, .dead, .dead], hOf [(1000000000, (.box [(.imm (.ints .i64 (apS1 (cutC p0) 2))), (.imm (.ints .i64 (apD1 (cutC p0) 2)))])), (1000000001, (.box [(.imm (.ints .i64 (apS2 (cutC p0) 2))), (.imm (.ints .i64 (apD2 (cutC p0) 2)))])), (1000000002, (.box [(.all 1000000003 1), (.all 1000000004 1)])), (1000000003, (.ints .i64 (comS ((anyOpV (cutC p0) 0)) ((apS1 (cutC p0) 2)) ((apD1 (cutC p0) 2)) ((apS2 (cutC p0) 2)) ((apD2 (cutC p0) 2))))), (1000000004, (.ints .i64 (comD ((anyOpV (cutC p0) 0)) ((apS1 (cutC p0) 2)) ((apD1 (cutC p0) 2)) ((apS2 (cutC p0) 2)) ((apD2 (cutC p0) 2)))))], [], []⟩
theorem e (fuel : Nat) (p0 : List Int) : runF Try.prog X I 0 fuel 4 Try.f4 [.d (.ints .u8 p0)] =
  (bif (decide ((((p0.length : Nat) : Int) : Int) > 1048576)) then
  some ([.one ((.bool true), false)], [])
  else
  (bif bytesB p0 then
  (bif decide (((apS1 (cutC p0) 2)).length < 9223372036854775808) && decide (((apD1 (cutC p0) 2)).length < 9223372036854775808) && decide (((apS2 (cutC p0) 2)).length < 9223372036854775808) && decide (((apD2 (cutC p0) 2)).length < 9223372036854775808) then
  (bif decide (((apS1 (cutC p0) 2)).length < 9223372036854775808) && decide (((apD1 (cutC p0) 2)).length < 9223372036854775808) && decide (((apS2 (cutC p0) 2)).length < 9223372036854775808) && decide (((apD2 (cutC p0) 2)).length < 9223372036854775808) then
  (bif decide (((comS ((anyOpV (cutC p0) 0)) ((apS1 (cutC p0) 2)) ((apD1 (cutC p0) 2)) ((apS2 (cutC p0) 2)) ((apD2 (cutC p0) 2)))).length < 9223372036854775808) && decide (((comD ((anyOpV (cutC p0) 0)) ((apS1 (cutC p0) 2)) ((apD1 (cutC p0) 2)) ((apS2 (cutC p0) 2)) ((apD2 (cutC p0) 2)))).length < 9223372036854775808) && decide (((comS ((anyOpV (cutC p0) 0)) ((apS1 (cutC p0) 2)) ((apD1 (cutC p0) 2)) ((apS2 (cutC p0) 2)) ((apD2 (cutC p0) 2)))).length < 9223372036854775808) && decide (((comD ((anyOpV (cutC p0) 0)) ((apS1 (cutC p0) 2)) ((apD1 (cutC p0) 2)) ((apS2 (cutC p0) 2)) ((apD2 (cutC p0) 2)))).length < 9223372036854775808) then
  (bif (!(decide (((comS ((anyOpV (cutC p0) 0)) ((apS1 (cutC p0) 2)) ((apD1 (cutC p0) 2)) ((apS2 (cutC p0) 2)) ((apD2 (cutC p0) 2)))) = ((comS ((anyOpV (cutC p0) 0)) ((apS1 (cutC p0) 2)) ((apD1 (cutC p0) 2)) ((apS2 (cutC p0) 2)) ((apD2 (cutC p0) 2))))) && decide (((comD ((anyOpV (cutC p0) 0)) ((apS1 (cutC p0) 2)) ((apD1 (cutC p0) 2)) ((apS2 (cutC p0) 2)) ((apD2 (cutC p0) 2)))) = ((comD ((anyOpV (cutC p0) 0)) ((apS1 (cutC p0) 2)) ((apD1 (cutC p0) 2)) ((apS2 (cutC p0) 2)) ((apD2 (cutC p0) 2))))))) then
  (bif decide (((comS ((anyOpV (cutC p0) 0)) ((apS1 (cutC p0) 2)) ((apD1 (cutC p0) 2)) ((apS2 (cutC p0) 2)) ((apD2 (cutC p0) 2)))).length < 9223372036854775808) && decide (((comD ((anyOpV (cutC p0) 0)) ((apS1 (cutC p0) 2)) ((apD1 (cutC p0) 2)) ((apS2 (cutC p0) 2)) ((apD2 (cutC p0) 2)))).length < 9223372036854775808) && decide (((comS ((anyOpV (cutC p0) 0)) ((apS1 (cutC p0) 2)) ((apD1 (cutC p0) 2)) ((apS2 (cutC p0) 2)) ((apD2 (cutC p0) 2)))).length < 9223372036854775808) && decide (((comD ((anyOpV (cutC p0) 0)) ((apS1 (cutC p0) 2)) ((apD1 (cutC p0) 2)) ((apS2 (cutC p0) 2)) ((apD2 (cutC p0) 2)))).length < 9223372036854775808) then
  (bif (decide (((comS ((anyOpV (cutC p0) 0)) ((apS1 (cutC p0) 2)) ((apD1 (cutC p0) 2)) ((apS2 (cutC p0) 2)) ((apD2 (cutC p0) 2)))) = ((comS ((anyOpV (cutC p0) 0)) ((apS1 (cutC p0) 2)) ((apD1 (cutC p0) 2)) ((apS2 (cutC p0) 2)) ((apD2 (cutC p0) 2))))) && decide (((comD ((anyOpV (cutC p0) 0)) ((apS1 (cutC p0) 2)) ((apD1 (cutC p0) 2)) ((apS2 (cutC p0) 2)) ((apD2 (cutC p0) 2)))) = ((comD ((anyOpV (cutC p0) 0)) ((apS1 (cutC p0) 2)) ((apD1 (cutC p0) 2)) ((apS2 (cutC p0) 2)) ((apD2 (cutC p0) 2)))))) then
  some ([.one ((.bool ((comB ((anyOpV (cutC p0) 0)) ((apS1 (cutC p0) 2)) ((apD1 (cutC p0) 2)) ((apS2 (cutC p0) 2)) ((apD2 (cutC p0) 2))) == (comB ((anyOpV (cutC p0) 0)) ((apS1 (cutC p0) 2)) ((apD1 (cutC p0) 2)) ((apS2 (cutC p0) 2)) ((apD2 (cutC p0) 2))))), false)], [])
  else
  some ([.one ((.bool false), false)], []))
  else
  none)
  else
  (bif (!((comB ((anyOpV (cutC p0) 0)) ((apS1 (cutC p0) 2)) ((apD1 (cutC p0) 2)) ((apS2 (cutC p0) 2)) ((apD2 (cutC p0) 2))) == (comB ((anyOpV (cutC p0) 0)) ((apS1 (cutC p0) 2)) ((apD1 (cutC p0) 2)) ((apS2 (cutC p0) 2)) ((apD2 (cutC p0) 2))))) then
  (bif decide (((comS ((anyOpV (cutC p0) 0)) ((apS1 (cutC p0) 2)) ((apD1 (cutC p0) 2)) ((apS2 (cutC p0) 2)) ((apD2 (cutC p0) 2)))).length < 9223372036854775808) && decide (((comD ((anyOpV (cutC p0) 0)) ((apS1 (cutC p0) 2)) ((apD1 (cutC p0) 2)) ((apS2 (cutC p0) 2)) ((apD2 (cutC p0) 2)))).length < 9223372036854775808) && decide (((comS ((anyOpV (cutC p0) 0)) ((apS1 (cutC p0) 2)) ((apD1 (cutC p0) 2)) ((apS2 (cutC p0) 2)) ((apD2 (cutC p0) 2)))).length < 9223372036854775808) && decide (((comD ((anyOpV (cutC p0) 0)) ((apS1 (cutC p0) 2)) ((apD1 (cutC p0) 2)) ((apS2 (cutC p0) 2)) ((apD2 (cutC p0) 2)))).length < 9223372036854775808) then
  (bif (decide (((comS ((anyOpV (cutC p0) 0)) ((apS1 (cutC p0) 2)) ((apD1 (cutC p0) 2)) ((apS2 (cutC p0) 2)) ((apD2 (cutC p0) 2)))) = ((comS ((anyOpV (cutC p0) 0)) ((apS1 (cutC p0) 2)) ((apD1 (cutC p0) 2)) ((apS2 (cutC p0) 2)) ((apD2 (cutC p0) 2))))) && decide (((comD ((anyOpV (cutC p0) 0)) ((apS1 (cutC p0) 2)) ((apD1 (cutC p0) 2)) ((apS2 (cutC p0) 2)) ((apD2 (cutC p0) 2)))) = ((comD ((anyOpV (cutC p0) 0)) ((apS1 (cutC p0) 2)) ((apD1 (cutC p0) 2)) ((apS2 (cutC p0) 2)) ((apD2 (cutC p0) 2)))))) then
  some ([.one ((.bool ((comB ((anyOpV (cutC p0) 0)) ((apS1 (cutC p0) 2)) ((apD1 (cutC p0) 2)) ((apS2 (cutC p0) 2)) ((apD2 (cutC p0) 2))) == (comB ((anyOpV (cutC p0) 0)) ((apS1 (cutC p0) 2)) ((apD1 (cutC p0) 2)) ((apS2 (cutC p0) 2)) ((apD2 (cutC p0) 2))))), false)], [])
  else
  some ([.one ((.bool false), false)], []))
  else
  none)
  else
  (bif (!(comB ((anyOpV (cutC p0) 0)) ((apS1 (cutC p0) 2)) ((apD1 (cutC p0) 2)) ((apS2 (cutC p0) 2)) ((apD2 (cutC p0) 2)))) then
  (bif decide (((comS ((anyOpV (cutC p0) 0)) ((apS1 (cutC p0) 2)) ((apD1 (cutC p0) 2)) ((apS2 (cutC p0) 2)) ((apD2 (cutC p0) 2)))).length < 9223372036854775808) && decide (((comD ((anyOpV (cutC p0) 0)) ((apS1 (cutC p0) 2)) ((apD1 (cutC p0) 2)) ((apS2 (cutC p0) 2)) ((apD2 (cutC p0) 2)))).length < 9223372036854775808) && decide (((comS ((anyOpV (cutC p0) 0)) ((apS1 (cutC p0) 2)) ((apD1 (cutC p0) 2)) ((apS2 (cutC p0) 2)) ((apD2 (cutC p0) 2)))).length < 9223372036854775808) && decide (((comD ((anyOpV (cutC p0) 0)) ((apS1 (cutC p0) 2)) ((apD1 (cutC p0) 2)) ((apS2 (cutC p0) 2)) ((apD2 (cutC p0) 2)))).length < 9223372036854775808) then
  (bif (decide (((comS ((anyOpV (cutC p0) 0)) ((apS1 (cutC p0) 2)) ((apD1 (cutC p0) 2)) ((apS2 (cutC p0) 2)) ((apD2 (cutC p0) 2)))) = ((comS ((anyOpV (cutC p0) 0)) ((apS1 (cutC p0) 2)) ((apD1 (cutC p0) 2)) ((apS2 (cutC p0) 2)) ((apD2 (cutC p0) 2))))) && decide (((comD ((anyOpV (cutC p0) 0)) ((apS1 (cutC p0) 2)) ((apD1 (cutC p0) 2)) ((apS2 (cutC p0) 2)) ((apD2 (cutC p0) 2)))) = ((comD ((anyOpV (cutC p0) 0)) ((apS1 (cutC p0) 2)) ((apD1 (cutC p0) 2)) ((apS2 (cutC p0) 2)) ((apD2 (cutC p0) 2)))))) then
  some ([.one ((.bool ((comB ((anyOpV (cutC p0) 0)) ((apS1 (cutC p0) 2)) ((apD1 (cutC p0) 2)) ((apS2 (cutC p0) 2)) ((apD2 (cutC p0) 2))) == (comB ((anyOpV (cutC p0) 0)) ((apS1 (cutC p0) 2)) ((apD1 (cutC p0) 2)) ((apS2 (cutC p0) 2)) ((apD2 (cutC p0) 2))))), false)], [])
  else
  some ([.one ((.bool false), false)], []))
  else
  none)
  else
  L0 fuel fuel (t0 p0 0) (k0  fuel))))
  else
  none)
  else
  none)
  else
  none)
  else
  none)) := by kernel_rfl
theorem s0 (fuel n0 : Nat) (p0 : List Int) (x0q1 : Int) : L0 fuel (n0 + 1) (t0 p0 x0q1) (k0  fuel) =
  (bif (decide ((x0q1 : Int) < (((comD ((anyOpV (cutC p0) 0)) ((apS1 (cutC p0) 2)) ((apD1 (cutC p0) 2)) ((apS2 (cutC p0) 2)) ((apD2 (cutC p0) 2))).length : Nat) : Int))) then
  (idx 0 (apD1 (cutC p0) 2).length).bind fun j37 =>
  ((apD1 (cutC p0) 2)[j37]?).bind fun v38 =>
  (idx 0 (apD2 (cutC p0) 2).length).bind fun j39 =>
  ((apD2 (cutC p0) 2)[j39]?).bind fun v40 =>
  (bif (decide (((((apS1 (cutC p0) 2).length : Nat) : Int) : Int) > 0)) then
  (idx x0q1 (apD1 (cutC p0) 2).length).bind fun j41 =>
  ((apD1 (cutC p0) 2)[j41]?).bind fun v42 =>
  (bif (decide (((((apS2 (cutC p0) 2).length : Nat) : Int) : Int) > 0)) then
  (idx x0q1 (apD2 (cutC p0) 2).length).bind fun j43 =>
  ((apD2 (cutC p0) 2)[j43]?).bind fun v44 =>
  (idx x0q1 (comD ((anyOpV (cutC p0) 0)) ((apS1 (cutC p0) 2)) ((apD1 (cutC p0) 2)) ((apS2 (cutC p0) 2)) ((apD2 (cutC p0) 2))).length).bind fun j45 =>
  ((comD ((anyOpV (cutC p0) 0)) ((apS1 (cutC p0) 2)) ((apD1 (cutC p0) 2)) ((apS2 (cutC p0) 2)) ((apD2 (cutC p0) 2)))[j45]?).bind fun v46 =>
  (bif ((v46 : Int) != (operV ((anyOpV (cutC p0) 0)) v42 v44)) then
  some ([.one ((.bool false), false)], [])
  else
  L0 fuel n0 (t0 p0 ((IntKind.wrap .i64 (x0q1 + 1)))) (k0  fuel))
  else
  (idx x0q1 (comD ((anyOpV (cutC p0) 0)) ((apS1 (cutC p0) 2)) ((apD1 (cutC p0) 2)) ((apS2 (cutC p0) 2)) ((apD2 (cutC p0) 2))).length).bind fun j47 =>
  ((comD ((anyOpV (cutC p0) 0)) ((apS1 (cutC p0) 2)) ((apD1 (cutC p0) 2)) ((apS2 (cutC p0) 2)) ((apD2 (cutC p0) 2)))[j47]?).bind fun v48 =>
  (bif ((v48 : Int) != (operV ((anyOpV (cutC p0) 0)) v42 v40)) then
  some ([.one ((.bool false), false)], [])
  else
  L0 fuel n0 (t0 p0 ((IntKind.wrap .i64 (x0q1 + 1)))) (k0  fuel)))
  else
  (bif (decide (((((apS2 (cutC p0) 2).length : Nat) : Int) : Int) > 0)) then
  (idx x0q1 (apD2 (cutC p0) 2).length).bind fun j49 =>
  ((apD2 (cutC p0) 2)[j49]?).bind fun v50 =>
  (idx x0q1 (comD ((anyOpV (cutC p0) 0)) ((apS1 (cutC p0) 2)) ((apD1 (cutC p0) 2)) ((apS2 (cutC p0) 2)) ((apD2 (cutC p0) 2))).length).bind fun j51 =>
  ((comD ((anyOpV (cutC p0) 0)) ((apS1 (cutC p0) 2)) ((apD1 (cutC p0) 2)) ((apS2 (cutC p0) 2)) ((apD2 (cutC p0) 2)))[j51]?).bind fun v52 =>
  (bif ((v52 : Int) != (operV ((anyOpV (cutC p0) 0)) v38 v50)) then
  some ([.one ((.bool false), false)], [])
  else
  L0 fuel n0 (t0 p0 ((IntKind.wrap .i64 (x0q1 + 1)))) (k0  fuel))
  else
  (idx x0q1 (comD ((anyOpV (cutC p0) 0)) ((apS1 (cutC p0) 2)) ((apD1 (cutC p0) 2)) ((apS2 (cutC p0) 2)) ((apD2 (cutC p0) 2))).length).bind fun j53 =>
  ((comD ((anyOpV (cutC p0) 0)) ((apS1 (cutC p0) 2)) ((apD1 (cutC p0) 2)) ((apS2 (cutC p0) 2)) ((apD2 (cutC p0) 2)))[j53]?).bind fun v54 =>
  (bif ((v54 : Int) != (operV ((anyOpV (cutC p0) 0)) v38 v40)) then
  some ([.one ((.bool false), false)], [])
  else
  L0 fuel n0 (t0 p0 ((IntKind.wrap .i64 (x0q1 + 1)))) (k0  fuel))))
  else
  (bif decide (((comS ((anyOpV (cutC p0) 0)) ((apS1 (cutC p0) 2)) ((apD1 (cutC p0) 2)) ((apS2 (cutC p0) 2)) ((apD2 (cutC p0) 2)))).length < 9223372036854775808) && decide (((comD ((anyOpV (cutC p0) 0)) ((apS1 (cutC p0) 2)) ((apD1 (cutC p0) 2)) ((apS2 (cutC p0) 2)) ((apD2 (cutC p0) 2)))).length < 9223372036854775808) then
  some ([.one ((.bool (validA ((comS ((anyOpV (cutC p0) 0)) ((apS1 (cutC p0) 2)) ((apD1 (cutC p0) 2)) ((apS2 (cutC p0) 2)) ((apD2 (cutC p0) 2)))) ((comD ((anyOpV (cutC p0) 0)) ((apS1 (cutC p0) 2)) ((apD1 (cutC p0) 2)) ((apS2 (cutC p0) 2)) ((apD2 (cutC p0) 2)))))), false)], [])
  else
  none)) := by kernel_rfl
end laws_FnCombine
theorem laws_FnCombine.ok_of (hX : ∀ E ∈ laws_FnCombine.X, CallSpec Try.prog E) (h : ∀ (bs : List Int), (bytesB bs) = true → ∃ fuel, runF Try.prog laws_FnCombine.X laws_FnCombine.I 0 fuel 4 Try.f4 [.d (.ints .u8 bs)] = some ([.one ((.bool true), false)], [])) : CallSpec Try.prog laws_FnCombine.E :=
  callSpec_of (d := 0) hX (by kernel_rfl) laws_FnCombine.I_ok (by kernel_rfl) (by kernel_rfl) (by kernel_rfl) (fun _ _ _ _ h => by dsimp only [laws_FnCombine.E] at h; cases h) (fun xs hp => by
    dsimp only [laws_FnCombine.E] at hp ⊢
    split at hp
    · exact h _ hp
    · cases hp)
theorem laws_FnCombine.ok : CallSpec Try.prog laws_FnCombine.E := laws_FnCombine.ok_of (by simp [laws_FnCombine.X, spec_DrawCombine.ok, impl_Combine.ok, spec_Combine.ok, laws_equalArray.ok, impl_Operate.ok, impl_ValidArray.ok]) fun bs h => by
  obtain ⟨F, hF⟩ : ∃ F : Nat, 4000 < F := ⟨4001, by omega⟩
  refine ⟨F, ?_⟩
  rw [laws_FnCombine.e]
  by_cases hl : ((bs.length : Nat) : Int) > 1048576
  · rw [decide_eq_true hl]; rfl
  rw [decide_eq_false hl, cond_false, h, cond_true]
  have r0 := cut_ok h (p := 0) (by omega) (by omega)
  obtain ⟨a1, a2, a3, a4, _, _⟩ := ap_bd (rd_le (q := 2) r0 (by omega) (by omega)) (by omega)
  obtain ⟨op, hop⟩ : ∃ x, anyOpV (cutC bs) 0 = x := ⟨_, rfl⟩
  obtain ⟨s1, hs1⟩ : ∃ x, apS1 (cutC bs) 2 = x := ⟨_, rfl⟩
  obtain ⟨d1, hd1⟩ : ∃ x, apD1 (cutC bs) 2 = x := ⟨_, rfl⟩
  obtain ⟨s2, hs2⟩ : ∃ x, apS2 (cutC bs) 2 = x := ⟨_, rfl⟩
  obtain ⟨d2, hd2⟩ : ∃ x, apD2 (cutC bs) 2 = x := ⟨_, rfl⟩
  rw [hs1] at a1
  rw [hd1] at a2
  rw [hs2] at a3
  rw [hd2] at a4
  have g1 := lt_of (xs := s1) (by omega)
  have g2 := lt_of (xs := d1) (by omega)
  have g3 := lt_of (xs := s2) (by omega)
  have g4 := lt_of (xs := d2) (by omega)
  have cl := com_len op s1 d1 s2 d2
  have g5 := lt_of (xs := comS op s1 d1 s2 d2) (by omega)
  have g6 := lt_of (xs := comD op s1 d1 s2 d2) (by omega)
  simp only [hop, hs1, hd1, hs2, hd2]
  cases hb : comB op s1 d1 s2 d2 with
  | false =>
    simp only [Bool.and_self, Bool.and_true, Bool.true_and, cond_true, cond_false, Bool.not_true, Bool.not_false, bne_self_eq_false, beq_self_eq_true, decide_true, eq_self, g1, g2, g3, g4, g5, g6, hb]
  | true =>
    have cS' : comS op s1 d1 s2 d2 = cS s1 s2 := by simp only [comS, hb, cond_true]
    have cD' : comD op s1 d1 s2 d2 = cD op s1 d1 s2 d2 := by simp only [comD, hb, cond_true]
    have hvc := com_valid hb
    have hlc := validA_len hvc
    obtain ⟨h1, h2, h3, h4, h5⟩ := com_inv hb
    have l1 := validA_len h2
    have l2 := validA_len h3
    have g7 := lt_of (xs := cS s1 s2) (by omega)
    have g8 := lt_of (xs := cD op s1 d1 s2 d2) (by omega)
    simp only [Bool.and_self, Bool.and_true, Bool.true_and, cond_true, cond_false, Bool.not_true, Bool.not_false, bne_self_eq_false, beq_self_eq_true, decide_true, eq_self, g1, g2, g3, g4, g5, g6, hb]
    refine run_loop (N := (cD op s1 d1 s2 d2).length) (fun n j (_ : Unit) => laws_FnCombine.L0 F n (laws_FnCombine.t0 bs (j : Int)) (laws_FnCombine.k0 F)) (fun _ _ => True) ?_ ?_ F 0 () (by omega) (by omega) trivial
    · intro n _ _
      rw [laws_FnCombine.s0]
      simp only [hop, hs1, hd1, hs2, hd2, cS', cD']
      rw [dge (by omega), cond_false]
      simp only [Bool.and_self, Bool.and_true, Bool.true_and, cond_true, cond_false, Bool.not_true, Bool.not_false, bne_self_eq_false, beq_self_eq_true, decide_true, eq_self, g7, g8, hvc]
    · intro n j _ hj _
      obtain ⟨x1, x2, x3, x4, x5⟩ := com_get hb hj
      have y1 := c1_num h2 x1 x3
      have y2 := c1_num h3 x2 x4
      have i1 : idx 0 d1.length = some 0 := idx_nat (j := 0) x1
      have i2 : idx 0 d2.length = some 0 := idx_nat (j := 0) x2
      rw [laws_FnCombine.s0]
      simp only [hop, hs1, hd1, hs2, hd2, cS', cD']
      rw [dlt hj, cond_true, i1, i2, idx_nat hj, w1 (by omega)]
      simp only [Option.bind_some, getD_get x1, getD_get x2, getD_get hj, x5]
      refine ⟨(), trivial, ?_⟩
      have ev : ∀ x y, numB x = true → numB y = true → operV op x y = operF op x y := fun x y hx hy => by simp only [operV, h1, hx, hy, Bool.and_self, cond_true]
      have e0 := ev _ _ y1 y2
      unfold c1 at e0 ⊢
      by_cases q1 : s1.length > 0
      · have j1 := x3 q1
        rw [decide_eq_true (p := ((s1.length : Nat) : Int) > 0) (by omega), decide_eq_true q1] at *
        simp only [cond_true, idx_nat j1, Option.bind_some, getD_get j1] at e0 ⊢
        by_cases q2 : s2.length > 0
        · have j2 := x4 q2
          rw [decide_eq_true (p := ((s2.length : Nat) : Int) > 0) (by omega), decide_eq_true q2] at *
          simp only [cond_true, idx_nat j2, Option.bind_some, getD_get j2] at e0 ⊢
          rw [e0, bne_self_eq_false, cond_false]
        · rw [decide_eq_false (p := ((s2.length : Nat) : Int) > 0) (by omega), decide_eq_false q2] at *
          simp only [cond_false] at e0 ⊢
          rw [e0, bne_self_eq_false, cond_false]
      · rw [decide_eq_false (p := ((s1.length : Nat) : Int) > 0) (by omega), decide_eq_false q1] at *
        simp only [cond_false] at e0 ⊢
        by_cases q2 : s2.length > 0
        · have j2 := x4 q2
          rw [decide_eq_true (p := ((s2.length : Nat) : Int) > 0) (by omega), decide_eq_true q2] at *
          simp only [cond_true, idx_nat j2, Option.bind_some, getD_get j2] at e0 ⊢
          rw [e0, bne_self_eq_false, cond_false]
        · rw [decide_eq_false (p := ((s2.length : Nat) : Int) > 0) (by omega), decide_eq_false q2] at *
          simp only [cond_false] at e0 ⊢
          rw [e0, bne_self_eq_false, cond_false]

namespace laws_FnCombineReshape
noncomputable def E : Entry := ⟨5, true, false, fun | [.d (.ints .u8 bs)] => bytesB bs | _ => false, fun | [.d (.ints .u8 bs)] => ([.one ((.bool true), false)], []) | _ => ([], []), fun _ => [], false, fun _ => none⟩
end laws_FnCombineReshape
namespace laws_FnCombineReshape
noncomputable def X : List Entry := [spec_DrawCombine.E, impl_Combine.E, spec_Combine.E, laws_equalArray.E, impl_Reshape.E]
noncomputable def I : List Inl := [⟨5, Try.f5, ⟨[19, 27, 34, 68, 75], [], [], [], [], []⟩⟩]
theorem I_ok : ∀ i ∈ I, Try.prog.funcs[i.f]? = some i.fn ∧ (i.fn.name == "runtime.NumGoroutine") = false := by
  intro i hi
  simp only [I, List.mem_cons, List.not_mem_nil, or_false] at hi
  subst hi
  exact ⟨by kernel_rfl, by kernel_rfl⟩
theorem e (fuel : Nat) (p0 : List Int) : runF Try.prog X I 0 fuel 5 Try.f5 [.d (.ints .u8 p0)] =
  (bif (decide ((((p0.length : Nat) : Int) : Int) > 1048576)) then
  some ([.one ((.bool true), false)], [])
  else
  (bif bytesB p0 then
  (bif decide (((apS1 (cutC p0) 2)).length < 9223372036854775808) && decide (((apD1 (cutC p0) 2)).length < 9223372036854775808) && decide (((apS2 (cutC p0) 2)).length < 9223372036854775808) && decide (((apD2 (cutC p0) 2)).length < 9223372036854775808) then
  (bif decide (((apS1 (cutC p0) 2)).length < 9223372036854775808) && decide (((apD1 (cutC p0) 2)).length < 9223372036854775808) && decide (((apS2 (cutC p0) 2)).length < 9223372036854775808) && decide (((apD2 (cutC p0) 2)).length < 9223372036854775808) then
  (bif decide (((comS ((anyOpV (cutC p0) 0)) ((apS1 (cutC p0) 2)) ((apD1 (cutC p0) 2)) ((apS2 (cutC p0) 2)) ((apD2 (cutC p0) 2)))).length < 9223372036854775808) && decide (((comD ((anyOpV (cutC p0) 0)) ((apS1 (cutC p0) 2)) ((apD1 (cutC p0) 2)) ((apS2 (cutC p0) 2)) ((apD2 (cutC p0) 2)))).length < 9223372036854775808) && decide (((comS ((anyOpV (cutC p0) 0)) ((apS1 (cutC p0) 2)) ((apD1 (cutC p0) 2)) ((apS2 (cutC p0) 2)) ((apD2 (cutC p0) 2)))).length < 9223372036854775808) && decide (((comD ((anyOpV (cutC p0) 0)) ((apS1 (cutC p0) 2)) ((apD1 (cutC p0) 2)) ((apS2 (cutC p0) 2)) ((apD2 (cutC p0) 2)))).length < 9223372036854775808) then
  (bif (!(decide (((comS ((anyOpV (cutC p0) 0)) ((apS1 (cutC p0) 2)) ((apD1 (cutC p0) 2)) ((apS2 (cutC p0) 2)) ((apD2 (cutC p0) 2)))) = ((comS ((anyOpV (cutC p0) 0)) ((apS1 (cutC p0) 2)) ((apD1 (cutC p0) 2)) ((apS2 (cutC p0) 2)) ((apD2 (cutC p0) 2))))) && decide (((comD ((anyOpV (cutC p0) 0)) ((apS1 (cutC p0) 2)) ((apD1 (cutC p0) 2)) ((apS2 (cutC p0) 2)) ((apD2 (cutC p0) 2)))) = ((comD ((anyOpV (cutC p0) 0)) ((apS1 (cutC p0) 2)) ((apD1 (cutC p0) 2)) ((apS2 (cutC p0) 2)) ((apD2 (cutC p0) 2))))))) then
  (bif decide (((comS ((anyOpV (cutC p0) 0)) ((apS1 (cutC p0) 2)) ((apD1 (cutC p0) 2)) ((apS2 (cutC p0) 2)) ((apD2 (cutC p0) 2)))).length < 9223372036854775808) && decide (((comD ((anyOpV (cutC p0) 0)) ((apS1 (cutC p0) 2)) ((apD1 (cutC p0) 2)) ((apS2 (cutC p0) 2)) ((apD2 (cutC p0) 2)))).length < 9223372036854775808) && decide (((comS ((anyOpV (cutC p0) 0)) ((apS1 (cutC p0) 2)) ((apD1 (cutC p0) 2)) ((apS2 (cutC p0) 2)) ((apD2 (cutC p0) 2)))).length < 9223372036854775808) && decide (((comD ((anyOpV (cutC p0) 0)) ((apS1 (cutC p0) 2)) ((apD1 (cutC p0) 2)) ((apS2 (cutC p0) 2)) ((apD2 (cutC p0) 2)))).length < 9223372036854775808) then
  (bif (decide (((comS ((anyOpV (cutC p0) 0)) ((apS1 (cutC p0) 2)) ((apD1 (cutC p0) 2)) ((apS2 (cutC p0) 2)) ((apD2 (cutC p0) 2)))) = ((comS ((anyOpV (cutC p0) 0)) ((apS1 (cutC p0) 2)) ((apD1 (cutC p0) 2)) ((apS2 (cutC p0) 2)) ((apD2 (cutC p0) 2))))) && decide (((comD ((anyOpV (cutC p0) 0)) ((apS1 (cutC p0) 2)) ((apD1 (cutC p0) 2)) ((apS2 (cutC p0) 2)) ((apD2 (cutC p0) 2)))) = ((comD ((anyOpV (cutC p0) 0)) ((apS1 (cutC p0) 2)) ((apD1 (cutC p0) 2)) ((apS2 (cutC p0) 2)) ((apD2 (cutC p0) 2)))))) then
  some ([.one ((.bool ((comB ((anyOpV (cutC p0) 0)) ((apS1 (cutC p0) 2)) ((apD1 (cutC p0) 2)) ((apS2 (cutC p0) 2)) ((apD2 (cutC p0) 2))) == (comB ((anyOpV (cutC p0) 0)) ((apS1 (cutC p0) 2)) ((apD1 (cutC p0) 2)) ((apS2 (cutC p0) 2)) ((apD2 (cutC p0) 2))))), false)], [])
  else
  some ([.one ((.bool false), false)], []))
  else
  none)
  else
  (bif (!((comB ((anyOpV (cutC p0) 0)) ((apS1 (cutC p0) 2)) ((apD1 (cutC p0) 2)) ((apS2 (cutC p0) 2)) ((apD2 (cutC p0) 2))) == (comB ((anyOpV (cutC p0) 0)) ((apS1 (cutC p0) 2)) ((apD1 (cutC p0) 2)) ((apS2 (cutC p0) 2)) ((apD2 (cutC p0) 2))))) then
  (bif decide (((comS ((anyOpV (cutC p0) 0)) ((apS1 (cutC p0) 2)) ((apD1 (cutC p0) 2)) ((apS2 (cutC p0) 2)) ((apD2 (cutC p0) 2)))).length < 9223372036854775808) && decide (((comD ((anyOpV (cutC p0) 0)) ((apS1 (cutC p0) 2)) ((apD1 (cutC p0) 2)) ((apS2 (cutC p0) 2)) ((apD2 (cutC p0) 2)))).length < 9223372036854775808) && decide (((comS ((anyOpV (cutC p0) 0)) ((apS1 (cutC p0) 2)) ((apD1 (cutC p0) 2)) ((apS2 (cutC p0) 2)) ((apD2 (cutC p0) 2)))).length < 9223372036854775808) && decide (((comD ((anyOpV (cutC p0) 0)) ((apS1 (cutC p0) 2)) ((apD1 (cutC p0) 2)) ((apS2 (cutC p0) 2)) ((apD2 (cutC p0) 2)))).length < 9223372036854775808) then
  (bif (decide (((comS ((anyOpV (cutC p0) 0)) ((apS1 (cutC p0) 2)) ((apD1 (cutC p0) 2)) ((apS2 (cutC p0) 2)) ((apD2 (cutC p0) 2)))) = ((comS ((anyOpV (cutC p0) 0)) ((apS1 (cutC p0) 2)) ((apD1 (cutC p0) 2)) ((apS2 (cutC p0) 2)) ((apD2 (cutC p0) 2))))) && decide (((comD ((anyOpV (cutC p0) 0)) ((apS1 (cutC p0) 2)) ((apD1 (cutC p0) 2)) ((apS2 (cutC p0) 2)) ((apD2 (cutC p0) 2)))) = ((comD ((anyOpV (cutC p0) 0)) ((apS1 (cutC p0) 2)) ((apD1 (cutC p0) 2)) ((apS2 (cutC p0) 2)) ((apD2 (cutC p0) 2)))))) then
  some ([.one ((.bool ((comB ((anyOpV (cutC p0) 0)) ((apS1 (cutC p0) 2)) ((apD1 (cutC p0) 2)) ((apS2 (cutC p0) 2)) ((apD2 (cutC p0) 2))) == (comB ((anyOpV (cutC p0) 0)) ((apS1 (cutC p0) 2)) ((apD1 (cutC p0) 2)) ((apS2 (cutC p0) 2)) ((apD2 (cutC p0) 2))))), false)], [])
  else
  some ([.one ((.bool false), false)], []))
  else
  none)
  else
  (bif (!(comB ((anyOpV (cutC p0) 0)) ((apS1 (cutC p0) 2)) ((apD1 (cutC p0) 2)) ((apS2 (cutC p0) 2)) ((apD2 (cutC p0) 2)))) then
  (bif decide (((comS ((anyOpV (cutC p0) 0)) ((apS1 (cutC p0) 2)) ((apD1 (cutC p0) 2)) ((apS2 (cutC p0) 2)) ((apD2 (cutC p0) 2)))).length < 9223372036854775808) && decide (((comD ((anyOpV (cutC p0) 0)) ((apS1 (cutC p0) 2)) ((apD1 (cutC p0) 2)) ((apS2 (cutC p0) 2)) ((apD2 (cutC p0) 2)))).length < 9223372036854775808) && decide (((comS ((anyOpV (cutC p0) 0)) ((apS1 (cutC p0) 2)) ((apD1 (cutC p0) 2)) ((apS2 (cutC p0) 2)) ((apD2 (cutC p0) 2)))).length < 9223372036854775808) && decide (((comD ((anyOpV (cutC p0) 0)) ((apS1 (cutC p0) 2)) ((apD1 (cutC p0) 2)) ((apS2 (cutC p0) 2)) ((apD2 (cutC p0) 2)))).length < 9223372036854775808) then
  (bif (decide (((comS ((anyOpV (cutC p0) 0)) ((apS1 (cutC p0) 2)) ((apD1 (cutC p0) 2)) ((apS2 (cutC p0) 2)) ((apD2 (cutC p0) 2)))) = ((comS ((anyOpV (cutC p0) 0)) ((apS1 (cutC p0) 2)) ((apD1 (cutC p0) 2)) ((apS2 (cutC p0) 2)) ((apD2 (cutC p0) 2))))) && decide (((comD ((anyOpV (cutC p0) 0)) ((apS1 (cutC p0) 2)) ((apD1 (cutC p0) 2)) ((apS2 (cutC p0) 2)) ((apD2 (cutC p0) 2)))) = ((comD ((anyOpV (cutC p0) 0)) ((apS1 (cutC p0) 2)) ((apD1 (cutC p0) 2)) ((apS2 (cutC p0) 2)) ((apD2 (cutC p0) 2)))))) then
  some ([.one ((.bool ((comB ((anyOpV (cutC p0) 0)) ((apS1 (cutC p0) 2)) ((apD1 (cutC p0) 2)) ((apS2 (cutC p0) 2)) ((apD2 (cutC p0) 2))) == (comB ((anyOpV (cutC p0) 0)) ((apS1 (cutC p0) 2)) ((apD1 (cutC p0) 2)) ((apS2 (cutC p0) 2)) ((apD2 (cutC p0) 2))))), false)], [])
  else
  some ([.one ((.bool false), false)], []))
  else
  none)
  else
  (bif (decide (((((apS1 (cutC p0) 2).length : Nat) : Int) : Int) > 0)) then
  (bif decide (((comS ((anyOpV (cutC p0) 0)) ((apS1 (cutC p0) 2)) ((apD1 (cutC p0) 2)) ((apS2 (cutC p0) 2)) ((apD2 (cutC p0) 2)))).length < 9223372036854775808) && decide (((comD ((anyOpV (cutC p0) 0)) ((apS1 (cutC p0) 2)) ((apD1 (cutC p0) 2)) ((apS2 (cutC p0) 2)) ((apD2 (cutC p0) 2)))).length < 9223372036854775808) && decide (((comS ((anyOpV (cutC p0) 0)) ((apS1 (cutC p0) 2)) ((apD1 (cutC p0) 2)) ((apS2 (cutC p0) 2)) ((apD2 (cutC p0) 2)))).length < 9223372036854775808) && decide (((comD ((anyOpV (cutC p0) 0)) ((apS1 (cutC p0) 2)) ((apD1 (cutC p0) 2)) ((apS2 (cutC p0) 2)) ((apD2 (cutC p0) 2)))).length < 9223372036854775808) then
  (bif (decide (((comS ((anyOpV (cutC p0) 0)) ((apS1 (cutC p0) 2)) ((apD1 (cutC p0) 2)) ((apS2 (cutC p0) 2)) ((apD2 (cutC p0) 2)))) = ((comS ((anyOpV (cutC p0) 0)) ((apS1 (cutC p0) 2)) ((apD1 (cutC p0) 2)) ((apS2 (cutC p0) 2)) ((apD2 (cutC p0) 2))))) && decide (((comD ((anyOpV (cutC p0) 0)) ((apS1 (cutC p0) 2)) ((apD1 (cutC p0) 2)) ((apS2 (cutC p0) 2)) ((apD2 (cutC p0) 2)))) = ((comD ((anyOpV (cutC p0) 0)) ((apS1 (cutC p0) 2)) ((apD1 (cutC p0) 2)) ((apS2 (cutC p0) 2)) ((apD2 (cutC p0) 2)))))) then
  some ([.one ((.bool ((comB ((anyOpV (cutC p0) 0)) ((apS1 (cutC p0) 2)) ((apD1 (cutC p0) 2)) ((apS2 (cutC p0) 2)) ((apD2 (cutC p0) 2))) == (comB ((anyOpV (cutC p0) 0)) ((apS1 (cutC p0) 2)) ((apD1 (cutC p0) 2)) ((apS2 (cutC p0) 2)) ((apD2 (cutC p0) 2))))), false)], [])
  else
  some ([.one ((.bool false), false)], []))
  else
  none)
  else
  (bif decide (((apS2 (cutC p0) 2)).length < 9223372036854775808) && decide (((apS1 (cutC p0) 2)).length < 9223372036854775808) && decide (((apD1 (cutC p0) 2)).length < 9223372036854775808) then
  (bif decide (((reshS ((apS2 (cutC p0) 2)) ((apS1 (cutC p0) 2)) ((apD1 (cutC p0) 2)))).length < 9223372036854775808) && decide (((reshD ((apS2 (cutC p0) 2)) ((apS1 (cutC p0) 2)) ((apD1 (cutC p0) 2)))).length < 9223372036854775808) && decide (((apS2 (cutC p0) 2)).length < 9223372036854775808) && decide (((apD2 (cutC p0) 2)).length < 9223372036854775808) then
  (bif (reshB ((apS2 (cutC p0) 2)) ((apS1 (cutC p0) 2)) ((apD1 (cutC p0) 2))) then
  (bif (comB ((anyOpV (cutC p0) 0)) ((reshS ((apS2 (cutC p0) 2)) ((apS1 (cutC p0) 2)) ((apD1 (cutC p0) 2)))) ((reshD ((apS2 (cutC p0) 2)) ((apS1 (cutC p0) 2)) ((apD1 (cutC p0) 2)))) ((apS2 (cutC p0) 2)) ((apD2 (cutC p0) 2))) then
  (bif decide (((comS ((anyOpV (cutC p0) 0)) ((reshS ((apS2 (cutC p0) 2)) ((apS1 (cutC p0) 2)) ((apD1 (cutC p0) 2)))) ((reshD ((apS2 (cutC p0) 2)) ((apS1 (cutC p0) 2)) ((apD1 (cutC p0) 2)))) ((apS2 (cutC p0) 2)) ((apD2 (cutC p0) 2)))).length < 9223372036854775808) && decide (((comD ((anyOpV (cutC p0) 0)) ((reshS ((apS2 (cutC p0) 2)) ((apS1 (cutC p0) 2)) ((apD1 (cutC p0) 2)))) ((reshD ((apS2 (cutC p0) 2)) ((apS1 (cutC p0) 2)) ((apD1 (cutC p0) 2)))) ((apS2 (cutC p0) 2)) ((apD2 (cutC p0) 2)))).length < 9223372036854775808) && decide (((comS ((anyOpV (cutC p0) 0)) ((apS1 (cutC p0) 2)) ((apD1 (cutC p0) 2)) ((apS2 (cutC p0) 2)) ((apD2 (cutC p0) 2)))).length < 9223372036854775808) && decide (((comD ((anyOpV (cutC p0) 0)) ((apS1 (cutC p0) 2)) ((apD1 (cutC p0) 2)) ((apS2 (cutC p0) 2)) ((apD2 (cutC p0) 2)))).length < 9223372036854775808) then
  some ([.one ((.bool (decide (((comS ((anyOpV (cutC p0) 0)) ((reshS ((apS2 (cutC p0) 2)) ((apS1 (cutC p0) 2)) ((apD1 (cutC p0) 2)))) ((reshD ((apS2 (cutC p0) 2)) ((apS1 (cutC p0) 2)) ((apD1 (cutC p0) 2)))) ((apS2 (cutC p0) 2)) ((apD2 (cutC p0) 2)))) = ((comS ((anyOpV (cutC p0) 0)) ((apS1 (cutC p0) 2)) ((apD1 (cutC p0) 2)) ((apS2 (cutC p0) 2)) ((apD2 (cutC p0) 2))))) && decide (((comD ((anyOpV (cutC p0) 0)) ((reshS ((apS2 (cutC p0) 2)) ((apS1 (cutC p0) 2)) ((apD1 (cutC p0) 2)))) ((reshD ((apS2 (cutC p0) 2)) ((apS1 (cutC p0) 2)) ((apD1 (cutC p0) 2)))) ((apS2 (cutC p0) 2)) ((apD2 (cutC p0) 2)))) = ((comD ((anyOpV (cutC p0) 0)) ((apS1 (cutC p0) 2)) ((apD1 (cutC p0) 2)) ((apS2 (cutC p0) 2)) ((apD2 (cutC p0) 2))))))), false)], [])
  else
  none)
  else
  some ([.one ((.bool false), false)], []))
  else
  some ([.one ((.bool false), false)], []))
  else
  none)
  else
  none)))))
  else
  none)
  else
  none)
  else
  none)
  else
  none)) := by kernel_rfl
end laws_FnCombineReshape
theorem laws_FnCombineReshape.ok_of (hX : ∀ E ∈ laws_FnCombineReshape.X, CallSpec Try.prog E) (h : ∀ (bs : List Int), (bytesB bs) = true → ∃ fuel, runF Try.prog laws_FnCombineReshape.X laws_FnCombineReshape.I 0 fuel 5 Try.f5 [.d (.ints .u8 bs)] = some ([.one ((.bool true), false)], [])) : CallSpec Try.prog laws_FnCombineReshape.E :=
  callSpec_of (d := 0) hX (by kernel_rfl) laws_FnCombineReshape.I_ok (by kernel_rfl) (by kernel_rfl) (by kernel_rfl) (fun _ _ _ _ h => by dsimp only [laws_FnCombineReshape.E] at h; cases h) (fun xs hp => by
    dsimp only [laws_FnCombineReshape.E] at hp ⊢
    split at hp
    · exact h _ hp
    · cases hp)
theorem laws_FnCombineReshape.ok : CallSpec Try.prog laws_FnCombineReshape.E := laws_FnCombineReshape.ok_of (by simp [laws_FnCombineReshape.X, spec_DrawCombine.ok, impl_Combine.ok, spec_Combine.ok, laws_equalArray.ok, impl_Reshape.ok]) fun bs h => by
  obtain ⟨F, hF⟩ : ∃ F : Nat, 4000 < F := ⟨4001, by omega⟩
  refine ⟨F, ?_⟩
  rw [laws_FnCombineReshape.e]
  by_cases hl : ((bs.length : Nat) : Int) > 1048576
  · rw [decide_eq_true hl]; rfl
  rw [decide_eq_false hl, cond_false, h, cond_true]
  have r0 := cut_ok h (p := 0) (by omega) (by omega)
  obtain ⟨a1, a2, a3, a4, _, _⟩ := ap_bd (rd_le (q := 2) r0 (by omega) (by omega)) (by omega)
  obtain ⟨op, hop⟩ : ∃ x, anyOpV (cutC bs) 0 = x := ⟨_, rfl⟩
  obtain ⟨s1, hs1⟩ : ∃ x, apS1 (cutC bs) 2 = x := ⟨_, rfl⟩
  obtain ⟨d1, hd1⟩ : ∃ x, apD1 (cutC bs) 2 = x := ⟨_, rfl⟩
  obtain ⟨s2, hs2⟩ : ∃ x, apS2 (cutC bs) 2 = x := ⟨_, rfl⟩
  obtain ⟨d2, hd2⟩ : ∃ x, apD2 (cutC bs) 2 = x := ⟨_, rfl⟩
  rw [hs1] at a1
  rw [hd1] at a2
  rw [hs2] at a3
  rw [hd2] at a4
  have g1 := lt_of (xs := s1) (by omega)
  have g2 := lt_of (xs := d1) (by omega)
  have g3 := lt_of (xs := s2) (by omega)
  have g4 := lt_of (xs := d2) (by omega)
  have cl := com_len op s1 d1 s2 d2
  have g5 := lt_of (xs := comS op s1 d1 s2 d2) (by omega)
  have g6 := lt_of (xs := comD op s1 d1 s2 d2) (by omega)
  simp only [hop, hs1, hd1, hs2, hd2]
  cases hb : comB op s1 d1 s2 d2 with
  | false =>
    simp only [Bool.and_self, Bool.and_true, Bool.true_and, cond_true, cond_false, Bool.not_true, Bool.not_false, bne_self_eq_false, beq_self_eq_true, decide_true, eq_self, g1, g2, g3, g4, g5, g6, hb]
  | true =>
    have cS' : comS op s1 d1 s2 d2 = cS s1 s2 := by simp only [comS, hb, cond_true]
    have cD' : comD op s1 d1 s2 d2 = cD op s1 d1 s2 d2 := by simp only [comD, hb, cond_true]
    have hvc := com_valid hb
    have hlc := validA_len hvc
    obtain ⟨h1, h2, h3, h4, h5⟩ := com_inv hb
    have l1 := validA_len h2
    have l2 := validA_len h3
    have g7 := lt_of (xs := cS s1 s2) (by omega)
    have g8 := lt_of (xs := cD op s1 d1 s2 d2) (by omega)
    by_cases q1 : ((s1.length : Nat) : Int) > 0
    · have d0 := decide_eq_true q1
      simp only [Bool.and_self, Bool.and_true, Bool.true_and, cond_true, cond_false, Bool.not_true, Bool.not_false, bne_self_eq_false, beq_self_eq_true, decide_true, eq_self, g1, g2, g3, g4, g5, g6, hb, d0]
    · have d0 := decide_eq_false q1
      have e := List.length_eq_zero_iff.mp (show s1.length = 0 by omega)
      subst e
      have q := sc_len h2
      have rb : reshB s2 [] d1 = true := by simp only [reshB, h2, (validA_inv h3).1, Bool.and_self]
      obtain ⟨r1, r2⟩ := resh_sc h2 h3 rfl
      have hrv : validA s2 (reshD s2 [] d1) = true := by
        have := re_valid (s2 := s2) (validA_inv h3).1 (validA_inv h2).2.2
        simpa only [reshD, rb, cond_true] using this
      obtain ⟨c1, c2, c3⟩ := com_same h1 hrv h3
      have hlr := validA_len hrv
      have elr : (reshD s2 [] d1).length = d2.length := by rw [r2, tab_length]
      rw [elr, cD_a op h2 h3] at c3
      have g9 := lt_of (xs := reshD s2 [] d1) (by omega)
      have hcs : cS [] s2 = s2 := rfl
      simp only [Bool.and_self, Bool.and_true, Bool.true_and, cond_true, cond_false, Bool.not_true, Bool.not_false, bne_self_eq_false, beq_self_eq_true, decide_true, eq_self, g1, g2, g3, g4, g5, g6, g8, g9, hb, d0, rb, r1, c1, c2, c3, cS', cD', hcs]

namespace impl_VectorOf
noncomputable def E : Entry := ⟨41, false, false, fun | [.d (.ints .i64 xs)] => szB xs | _ => false, fun | [.d (.ints .i64 xs)] => ([.agg [((.ints .i64 (vecS xs)), true), ((.ints .i64 (vecD xs)), true)]], []) | _ => ([], []), fun _ => [], true, fun _ => none⟩
end impl_VectorOf
namespace impl_VectorOf
noncomputable def X : List Entry := [impl_ValidArray.E, impl_copyList.E]
noncomputable def I : List Inl := [⟨41, Try.f41, ⟨[15], [], [], [], [], []⟩⟩]
theorem I_ok : ∀ i ∈ I, Try.prog.funcs[i.f]? = some i.fn ∧ (i.fn.name == "runtime.NumGoroutine") = false := by
  intro i hi
  simp only [I, List.mem_cons, List.not_mem_nil, or_false] at hi
  subst hi
  exact ⟨by kernel_rfl, by kernel_rfl⟩
theorem e (fuel : Nat) (p0 : List Int) : runF Try.prog X I 0 fuel 41 Try.f41 [.d (.ints .i64 p0)] =
  (bif decide (([((p0.length : Nat) : Int)]).length < 9223372036854775808) && decide (p0.length < 9223372036854775808) then
  (bif (!(validA ([((p0.length : Nat) : Int)]) p0)) then
  some ([.agg [((.ints .i64 []), true), ((.ints .i64 []), true)]], [])
  else
  (bif szB p0 then
  some ([.agg [((.ints .i64 [((p0.length : Nat) : Int)]), true), ((.ints .i64 p0), true)]], [])
  else
  none))
  else
  none) := by kernel_rfl
end impl_VectorOf
theorem impl_VectorOf.ok_of (hX : ∀ E ∈ impl_VectorOf.X, CallSpec Try.prog E) (h : ∀ (xs : List Int), (szB xs) = true → ∃ fuel, runF Try.prog impl_VectorOf.X impl_VectorOf.I 0 fuel 41 Try.f41 [.d (.ints .i64 xs)] = some ([.agg [((.ints .i64 (vecS xs)), true), ((.ints .i64 (vecD xs)), true)]], [])) : CallSpec Try.prog impl_VectorOf.E :=
  callSpec_of (d := 0) hX (by kernel_rfl) impl_VectorOf.I_ok (by kernel_rfl) (by kernel_rfl) (by kernel_rfl) (fun _ _ _ _ h => by dsimp only [impl_VectorOf.E] at h; cases h) (fun xs hp => by
    dsimp only [impl_VectorOf.E] at hp ⊢
    split at hp
    · exact h _ hp
    · cases hp)
theorem validA_vec0 (xs : List Int) (hx : xs.length < 9223372036854775808) : validA [((xs.length : Nat) : Int)] xs = vecOk xs := by
  have e1 := @wS ((xs.length : Nat) : Int) (by omega) (by omega)
  by_cases h1 : xs.length ≤ 60
  · have h2 : ((xs.length : Nat) : Int) ≤ 60 := by omega
    simp [validA, validS, vecOk, allB_cons, allB_nil, volW, volFrom, e1, h1, h2]
  · have h2 : ¬ ((xs.length : Nat) : Int) ≤ 60 := by omega
    simp [validA, validS, vecOk, allB_cons, allB_nil, volW, volFrom, e1, h1, h2]

theorem impl_VectorOf.ok : CallSpec Try.prog impl_VectorOf.E := impl_VectorOf.ok_of (by simp [impl_VectorOf.X, impl_ValidArray.ok, impl_copyList.ok]) fun xs h => ⟨0, by
  rw [impl_VectorOf.e, lt_of (szB_lt h), h, validA_vec0 xs (szB_lt h), lt_of (by simp)]
  unfold vecS vecD
  cases vecOk xs <;> rfl⟩

namespace impl_Ravel
noncomputable def E : Entry := ⟨19, false, false, fun | [.d (.agg [(.ints .i64 sh), (.ints .i64 da)])] => decide (sh.length < 9223372036854775808) && decide (da.length < 9223372036854775808) | _ => false, fun | [.d (.agg [(.ints .i64 sh), (.ints .i64 da)])] => ([.agg [((.ints .i64 (ravS sh da)), true), ((.ints .i64 (ravD sh da)), true)]], []) | _ => ([], []), fun _ => [], true, fun _ => none⟩
end impl_Ravel
namespace impl_Ravel
noncomputable def X : List Entry := [impl_ValidArray.E, impl_VectorOf.E]
noncomputable def I : List Inl := [⟨19, Try.f19, ⟨[9], [], [], [], [], []⟩⟩]
theorem I_ok : ∀ i ∈ I, Try.prog.funcs[i.f]? = some i.fn ∧ (i.fn.name == "runtime.NumGoroutine") = false := by
  intro i hi
  simp only [I, List.mem_cons, List.not_mem_nil, or_false] at hi
  subst hi
  exact ⟨by kernel_rfl, by kernel_rfl⟩
theorem e (fuel : Nat) (p0q0 : List Int) (p0q1 : List Int) : runF Try.prog X I 0 fuel 19 Try.f19 [.d (.agg [(.ints .i64 p0q0), (.ints .i64 p0q1)])] =
  (bif decide (p0q0.length < 9223372036854775808) && decide (p0q1.length < 9223372036854775808) then
  (bif (!(validA p0q0 p0q1)) then
  some ([.agg [((.ints .i64 []), true), ((.ints .i64 []), true)]], [])
  else
  (bif szB p0q1 then
  some ([.agg [((.ints .i64 (vecS p0q1)), true), ((.ints .i64 (vecD p0q1)), true)]], [])
  else
  none))
  else
  none) := by kernel_rfl
end impl_Ravel
theorem impl_Ravel.ok_of (hX : ∀ E ∈ impl_Ravel.X, CallSpec Try.prog E) (h : ∀ (sh : List Int) (da : List Int), (decide (sh.length < 9223372036854775808) && decide (da.length < 9223372036854775808)) = true → ∃ fuel, runF Try.prog impl_Ravel.X impl_Ravel.I 0 fuel 19 Try.f19 [.d (.agg [(.ints .i64 sh), (.ints .i64 da)])] = some ([.agg [((.ints .i64 (ravS sh da)), true), ((.ints .i64 (ravD sh da)), true)]], [])) : CallSpec Try.prog impl_Ravel.E :=
  callSpec_of (d := 0) hX (by kernel_rfl) impl_Ravel.I_ok (by kernel_rfl) (by kernel_rfl) (by kernel_rfl) (fun _ _ _ _ h => by dsimp only [impl_Ravel.E] at h; cases h) (fun xs hp => by
    dsimp only [impl_Ravel.E] at hp ⊢
    split at hp
    · exact h _ _ hp
    · cases hp)
theorem impl_Ravel.ok : CallSpec Try.prog impl_Ravel.E := impl_Ravel.ok_of (by simp [impl_Ravel.X, impl_ValidArray.ok, impl_VectorOf.ok]) fun sh da h => ⟨0, by
  rw [impl_Ravel.e, h]
  unfold ravS ravD vecS vecD
  cases hv : validA sh da with
  | false => rfl
  | true => rw [szB_of (by have := validA_len hv; omega), vecOk_of hv]; rfl⟩

namespace laws_FnCombineRavel
noncomputable def E : Entry := ⟨6, true, false, fun | [.d (.ints .u8 bs)] => bytesB bs | _ => false, fun | [.d (.ints .u8 bs)] => ([.one ((.bool true), false)], []) | _ => ([], []), fun _ => [], false, fun _ => none⟩
end laws_FnCombineRavel
namespace laws_FnCombineRavel
noncomputable def X : List Entry := [spec_DrawCombine.E, impl_Combine.E, spec_Combine.E, laws_equalArray.E, impl_Ravel.E]
noncomputable def I : List Inl := [⟨6, Try.f6, ⟨[17, 25, 32, 71, 73, 74, 81], [], [], [(8, [0, 1, 3, 2, 4, 5, 6, 7, 8, 9, 10, 11])], [], []⟩⟩]
theorem I_ok : ∀ i ∈ I, Try.prog.funcs[i.f]? = some i.fn ∧ (i.fn.name == "runtime.NumGoroutine") = false := by
  intro i hi
  simp only [I, List.mem_cons, List.not_mem_nil, or_false] at hi
  subst hi
  exact ⟨by kernel_rfl, by kernel_rfl⟩
theorem e (fuel : Nat) (p0 : List Int) : runF Try.prog X I 0 fuel 6 Try.f6 [.d (.ints .u8 p0)] =
  (bif (decide ((((p0.length : Nat) : Int) : Int) > 1048576)) then
  some ([.one ((.bool true), false)], [])
  else
  (bif bytesB p0 then
  (bif decide (((apS1 (cutC p0) 2)).length < 9223372036854775808) && decide (((apD1 (cutC p0) 2)).length < 9223372036854775808) && decide (((apS2 (cutC p0) 2)).length < 9223372036854775808) && decide (((apD2 (cutC p0) 2)).length < 9223372036854775808) then
  (bif decide (((apS1 (cutC p0) 2)).length < 9223372036854775808) && decide (((apD1 (cutC p0) 2)).length < 9223372036854775808) && decide (((apS2 (cutC p0) 2)).length < 9223372036854775808) && decide (((apD2 (cutC p0) 2)).length < 9223372036854775808) then
  (bif decide (((comS ((anyOpV (cutC p0) 0)) ((apS1 (cutC p0) 2)) ((apD1 (cutC p0) 2)) ((apS2 (cutC p0) 2)) ((apD2 (cutC p0) 2)))).length < 9223372036854775808) && decide (((comD ((anyOpV (cutC p0) 0)) ((apS1 (cutC p0) 2)) ((apD1 (cutC p0) 2)) ((apS2 (cutC p0) 2)) ((apD2 (cutC p0) 2)))).length < 9223372036854775808) && decide (((comS ((anyOpV (cutC p0) 0)) ((apS1 (cutC p0) 2)) ((apD1 (cutC p0) 2)) ((apS2 (cutC p0) 2)) ((apD2 (cutC p0) 2)))).length < 9223372036854775808) && decide (((comD ((anyOpV (cutC p0) 0)) ((apS1 (cutC p0) 2)) ((apD1 (cutC p0) 2)) ((apS2 (cutC p0) 2)) ((apD2 (cutC p0) 2)))).length < 9223372036854775808) then
  (bif (!(decide (((comS ((anyOpV (cutC p0) 0)) ((apS1 (cutC p0) 2)) ((apD1 (cutC p0) 2)) ((apS2 (cutC p0) 2)) ((apD2 (cutC p0) 2)))) = ((comS ((anyOpV (cutC p0) 0)) ((apS1 (cutC p0) 2)) ((apD1 (cutC p0) 2)) ((apS2 (cutC p0) 2)) ((apD2 (cutC p0) 2))))) && decide (((comD ((anyOpV (cutC p0) 0)) ((apS1 (cutC p0) 2)) ((apD1 (cutC p0) 2)) ((apS2 (cutC p0) 2)) ((apD2 (cutC p0) 2)))) = ((comD ((anyOpV (cutC p0) 0)) ((apS1 (cutC p0) 2)) ((apD1 (cutC p0) 2)) ((apS2 (cutC p0) 2)) ((apD2 (cutC p0) 2))))))) then
  (bif decide (((comS ((anyOpV (cutC p0) 0)) ((apS1 (cutC p0) 2)) ((apD1 (cutC p0) 2)) ((apS2 (cutC p0) 2)) ((apD2 (cutC p0) 2)))).length < 9223372036854775808) && decide (((comD ((anyOpV (cutC p0) 0)) ((apS1 (cutC p0) 2)) ((apD1 (cutC p0) 2)) ((apS2 (cutC p0) 2)) ((apD2 (cutC p0) 2)))).length < 9223372036854775808) && decide (((comS ((anyOpV (cutC p0) 0)) ((apS1 (cutC p0) 2)) ((apD1 (cutC p0) 2)) ((apS2 (cutC p0) 2)) ((apD2 (cutC p0) 2)))).length < 9223372036854775808) && decide (((comD ((anyOpV (cutC p0) 0)) ((apS1 (cutC p0) 2)) ((apD1 (cutC p0) 2)) ((apS2 (cutC p0) 2)) ((apD2 (cutC p0) 2)))).length < 9223372036854775808) then
  (bif (decide (((comS ((anyOpV (cutC p0) 0)) ((apS1 (cutC p0) 2)) ((apD1 (cutC p0) 2)) ((apS2 (cutC p0) 2)) ((apD2 (cutC p0) 2)))) = ((comS ((anyOpV (cutC p0) 0)) ((apS1 (cutC p0) 2)) ((apD1 (cutC p0) 2)) ((apS2 (cutC p0) 2)) ((apD2 (cutC p0) 2))))) && decide (((comD ((anyOpV (cutC p0) 0)) ((apS1 (cutC p0) 2)) ((apD1 (cutC p0) 2)) ((apS2 (cutC p0) 2)) ((apD2 (cutC p0) 2)))) = ((comD ((anyOpV (cutC p0) 0)) ((apS1 (cutC p0) 2)) ((apD1 (cutC p0) 2)) ((apS2 (cutC p0) 2)) ((apD2 (cutC p0) 2)))))) then
  some ([.one ((.bool ((comB ((anyOpV (cutC p0) 0)) ((apS1 (cutC p0) 2)) ((apD1 (cutC p0) 2)) ((apS2 (cutC p0) 2)) ((apD2 (cutC p0) 2))) == (comB ((anyOpV (cutC p0) 0)) ((apS1 (cutC p0) 2)) ((apD1 (cutC p0) 2)) ((apS2 (cutC p0) 2)) ((apD2 (cutC p0) 2))))), false)], [])
  else
  some ([.one ((.bool false), false)], []))
  else
  none)
  else
  (bif (!((comB ((anyOpV (cutC p0) 0)) ((apS1 (cutC p0) 2)) ((apD1 (cutC p0) 2)) ((apS2 (cutC p0) 2)) ((apD2 (cutC p0) 2))) == (comB ((anyOpV (cutC p0) 0)) ((apS1 (cutC p0) 2)) ((apD1 (cutC p0) 2)) ((apS2 (cutC p0) 2)) ((apD2 (cutC p0) 2))))) then
  (bif decide (((comS ((anyOpV (cutC p0) 0)) ((apS1 (cutC p0) 2)) ((apD1 (cutC p0) 2)) ((apS2 (cutC p0) 2)) ((apD2 (cutC p0) 2)))).length < 9223372036854775808) && decide (((comD ((anyOpV (cutC p0) 0)) ((apS1 (cutC p0) 2)) ((apD1 (cutC p0) 2)) ((apS2 (cutC p0) 2)) ((apD2 (cutC p0) 2)))).length < 9223372036854775808) && decide (((comS ((anyOpV (cutC p0) 0)) ((apS1 (cutC p0) 2)) ((apD1 (cutC p0) 2)) ((apS2 (cutC p0) 2)) ((apD2 (cutC p0) 2)))).length < 9223372036854775808) && decide (((comD ((anyOpV (cutC p0) 0)) ((apS1 (cutC p0) 2)) ((apD1 (cutC p0) 2)) ((apS2 (cutC p0) 2)) ((apD2 (cutC p0) 2)))).length < 9223372036854775808) then
  (bif (decide (((comS ((anyOpV (cutC p0) 0)) ((apS1 (cutC p0) 2)) ((apD1 (cutC p0) 2)) ((apS2 (cutC p0) 2)) ((apD2 (cutC p0) 2)))) = ((comS ((anyOpV (cutC p0) 0)) ((apS1 (cutC p0) 2)) ((apD1 (cutC p0) 2)) ((apS2 (cutC p0) 2)) ((apD2 (cutC p0) 2))))) && decide (((comD ((anyOpV (cutC p0) 0)) ((apS1 (cutC p0) 2)) ((apD1 (cutC p0) 2)) ((apS2 (cutC p0) 2)) ((apD2 (cutC p0) 2)))) = ((comD ((anyOpV (cutC p0) 0)) ((apS1 (cutC p0) 2)) ((apD1 (cutC p0) 2)) ((apS2 (cutC p0) 2)) ((apD2 (cutC p0) 2)))))) then
  some ([.one ((.bool ((comB ((anyOpV (cutC p0) 0)) ((apS1 (cutC p0) 2)) ((apD1 (cutC p0) 2)) ((apS2 (cutC p0) 2)) ((apD2 (cutC p0) 2))) == (comB ((anyOpV (cutC p0) 0)) ((apS1 (cutC p0) 2)) ((apD1 (cutC p0) 2)) ((apS2 (cutC p0) 2)) ((apD2 (cutC p0) 2))))), false)], [])
  else
  some ([.one ((.bool false), false)], []))
  else
  none)
  else
  (bif (!(comB ((anyOpV (cutC p0) 0)) ((apS1 (cutC p0) 2)) ((apD1 (cutC p0) 2)) ((apS2 (cutC p0) 2)) ((apD2 (cutC p0) 2)))) then
  (bif decide (((comS ((anyOpV (cutC p0) 0)) ((apS1 (cutC p0) 2)) ((apD1 (cutC p0) 2)) ((apS2 (cutC p0) 2)) ((apD2 (cutC p0) 2)))).length < 9223372036854775808) && decide (((comD ((anyOpV (cutC p0) 0)) ((apS1 (cutC p0) 2)) ((apD1 (cutC p0) 2)) ((apS2 (cutC p0) 2)) ((apD2 (cutC p0) 2)))).length < 9223372036854775808) && decide (((comS ((anyOpV (cutC p0) 0)) ((apS1 (cutC p0) 2)) ((apD1 (cutC p0) 2)) ((apS2 (cutC p0) 2)) ((apD2 (cutC p0) 2)))).length < 9223372036854775808) && decide (((comD ((anyOpV (cutC p0) 0)) ((apS1 (cutC p0) 2)) ((apD1 (cutC p0) 2)) ((apS2 (cutC p0) 2)) ((apD2 (cutC p0) 2)))).length < 9223372036854775808) then
  (bif (decide (((comS ((anyOpV (cutC p0) 0)) ((apS1 (cutC p0) 2)) ((apD1 (cutC p0) 2)) ((apS2 (cutC p0) 2)) ((apD2 (cutC p0) 2)))) = ((comS ((anyOpV (cutC p0) 0)) ((apS1 (cutC p0) 2)) ((apD1 (cutC p0) 2)) ((apS2 (cutC p0) 2)) ((apD2 (cutC p0) 2))))) && decide (((comD ((anyOpV (cutC p0) 0)) ((apS1 (cutC p0) 2)) ((apD1 (cutC p0) 2)) ((apS2 (cutC p0) 2)) ((apD2 (cutC p0) 2)))) = ((comD ((anyOpV (cutC p0) 0)) ((apS1 (cutC p0) 2)) ((apD1 (cutC p0) 2)) ((apS2 (cutC p0) 2)) ((apD2 (cutC p0) 2)))))) then
  some ([.one ((.bool ((comB ((anyOpV (cutC p0) 0)) ((apS1 (cutC p0) 2)) ((apD1 (cutC p0) 2)) ((apS2 (cutC p0) 2)) ((apD2 (cutC p0) 2))) == (comB ((anyOpV (cutC p0) 0)) ((apS1 (cutC p0) 2)) ((apD1 (cutC p0) 2)) ((apS2 (cutC p0) 2)) ((apD2 (cutC p0) 2))))), false)], [])
  else
  some ([.one ((.bool false), false)], []))
  else
  none)
  else
  (bif (((((apS1 (cutC p0) 2).length : Nat) : Int) : Int) == 0) then
  (bif decide (((comS ((anyOpV (cutC p0) 0)) ((apS1 (cutC p0) 2)) ((apD1 (cutC p0) 2)) ((apS2 (cutC p0) 2)) ((apD2 (cutC p0) 2)))).length < 9223372036854775808) && decide (((comD ((anyOpV (cutC p0) 0)) ((apS1 (cutC p0) 2)) ((apD1 (cutC p0) 2)) ((apS2 (cutC p0) 2)) ((apD2 (cutC p0) 2)))).length < 9223372036854775808) && decide (((comS ((anyOpV (cutC p0) 0)) ((apS1 (cutC p0) 2)) ((apD1 (cutC p0) 2)) ((apS2 (cutC p0) 2)) ((apD2 (cutC p0) 2)))).length < 9223372036854775808) && decide (((comD ((anyOpV (cutC p0) 0)) ((apS1 (cutC p0) 2)) ((apD1 (cutC p0) 2)) ((apS2 (cutC p0) 2)) ((apD2 (cutC p0) 2)))).length < 9223372036854775808) then
  (bif (decide (((comS ((anyOpV (cutC p0) 0)) ((apS1 (cutC p0) 2)) ((apD1 (cutC p0) 2)) ((apS2 (cutC p0) 2)) ((apD2 (cutC p0) 2)))) = ((comS ((anyOpV (cutC p0) 0)) ((apS1 (cutC p0) 2)) ((apD1 (cutC p0) 2)) ((apS2 (cutC p0) 2)) ((apD2 (cutC p0) 2))))) && decide (((comD ((anyOpV (cutC p0) 0)) ((apS1 (cutC p0) 2)) ((apD1 (cutC p0) 2)) ((apS2 (cutC p0) 2)) ((apD2 (cutC p0) 2)))) = ((comD ((anyOpV (cutC p0) 0)) ((apS1 (cutC p0) 2)) ((apD1 (cutC p0) 2)) ((apS2 (cutC p0) 2)) ((apD2 (cutC p0) 2)))))) then
  some ([.one ((.bool ((comB ((anyOpV (cutC p0) 0)) ((apS1 (cutC p0) 2)) ((apD1 (cutC p0) 2)) ((apS2 (cutC p0) 2)) ((apD2 (cutC p0) 2))) == (comB ((anyOpV (cutC p0) 0)) ((apS1 (cutC p0) 2)) ((apD1 (cutC p0) 2)) ((apS2 (cutC p0) 2)) ((apD2 (cutC p0) 2))))), false)], [])
  else
  some ([.one ((.bool false), false)], []))
  else
  none)
  else
  (bif (((((apS2 (cutC p0) 2).length : Nat) : Int) : Int) == 0) then
  (bif decide (((comS ((anyOpV (cutC p0) 0)) ((apS1 (cutC p0) 2)) ((apD1 (cutC p0) 2)) ((apS2 (cutC p0) 2)) ((apD2 (cutC p0) 2)))).length < 9223372036854775808) && decide (((comD ((anyOpV (cutC p0) 0)) ((apS1 (cutC p0) 2)) ((apD1 (cutC p0) 2)) ((apS2 (cutC p0) 2)) ((apD2 (cutC p0) 2)))).length < 9223372036854775808) && decide (((comS ((anyOpV (cutC p0) 0)) ((apS1 (cutC p0) 2)) ((apD1 (cutC p0) 2)) ((apS2 (cutC p0) 2)) ((apD2 (cutC p0) 2)))).length < 9223372036854775808) && decide (((comD ((anyOpV (cutC p0) 0)) ((apS1 (cutC p0) 2)) ((apD1 (cutC p0) 2)) ((apS2 (cutC p0) 2)) ((apD2 (cutC p0) 2)))).length < 9223372036854775808) then
  (bif (decide (((comS ((anyOpV (cutC p0) 0)) ((apS1 (cutC p0) 2)) ((apD1 (cutC p0) 2)) ((apS2 (cutC p0) 2)) ((apD2 (cutC p0) 2)))) = ((comS ((anyOpV (cutC p0) 0)) ((apS1 (cutC p0) 2)) ((apD1 (cutC p0) 2)) ((apS2 (cutC p0) 2)) ((apD2 (cutC p0) 2))))) && decide (((comD ((anyOpV (cutC p0) 0)) ((apS1 (cutC p0) 2)) ((apD1 (cutC p0) 2)) ((apS2 (cutC p0) 2)) ((apD2 (cutC p0) 2)))) = ((comD ((anyOpV (cutC p0) 0)) ((apS1 (cutC p0) 2)) ((apD1 (cutC p0) 2)) ((apS2 (cutC p0) 2)) ((apD2 (cutC p0) 2)))))) then
  some ([.one ((.bool ((comB ((anyOpV (cutC p0) 0)) ((apS1 (cutC p0) 2)) ((apD1 (cutC p0) 2)) ((apS2 (cutC p0) 2)) ((apD2 (cutC p0) 2))) == (comB ((anyOpV (cutC p0) 0)) ((apS1 (cutC p0) 2)) ((apD1 (cutC p0) 2)) ((apS2 (cutC p0) 2)) ((apD2 (cutC p0) 2))))), false)], [])
  else
  some ([.one ((.bool false), false)], []))
  else
  none)
  else
  (bif decide (((apS1 (cutC p0) 2)).length < 9223372036854775808) && decide (((apD1 (cutC p0) 2)).length < 9223372036854775808) then
  (bif decide (((apS2 (cutC p0) 2)).length < 9223372036854775808) && decide (((apD2 (cutC p0) 2)).length < 9223372036854775808) then
  (bif decide (((ravS ((apS1 (cutC p0) 2)) ((apD1 (cutC p0) 2)))).length < 9223372036854775808) && decide (((ravD ((apS1 (cutC p0) 2)) ((apD1 (cutC p0) 2)))).length < 9223372036854775808) && decide (((ravS ((apS2 (cutC p0) 2)) ((apD2 (cutC p0) 2)))).length < 9223372036854775808) && decide (((ravD ((apS2 (cutC p0) 2)) ((apD2 (cutC p0) 2)))).length < 9223372036854775808) then
  (bif (comB ((anyOpV (cutC p0) 0)) ((ravS ((apS1 (cutC p0) 2)) ((apD1 (cutC p0) 2)))) ((ravD ((apS1 (cutC p0) 2)) ((apD1 (cutC p0) 2)))) ((ravS ((apS2 (cutC p0) 2)) ((apD2 (cutC p0) 2)))) ((ravD ((apS2 (cutC p0) 2)) ((apD2 (cutC p0) 2))))) then
  (bif decide (((comS ((anyOpV (cutC p0) 0)) ((apS1 (cutC p0) 2)) ((apD1 (cutC p0) 2)) ((apS2 (cutC p0) 2)) ((apD2 (cutC p0) 2)))).length < 9223372036854775808) && decide (((comD ((anyOpV (cutC p0) 0)) ((apS1 (cutC p0) 2)) ((apD1 (cutC p0) 2)) ((apS2 (cutC p0) 2)) ((apD2 (cutC p0) 2)))).length < 9223372036854775808) then
  (bif decide (((comS ((anyOpV (cutC p0) 0)) ((ravS ((apS1 (cutC p0) 2)) ((apD1 (cutC p0) 2)))) ((ravD ((apS1 (cutC p0) 2)) ((apD1 (cutC p0) 2)))) ((ravS ((apS2 (cutC p0) 2)) ((apD2 (cutC p0) 2)))) ((ravD ((apS2 (cutC p0) 2)) ((apD2 (cutC p0) 2)))))).length < 9223372036854775808) && decide (((comD ((anyOpV (cutC p0) 0)) ((ravS ((apS1 (cutC p0) 2)) ((apD1 (cutC p0) 2)))) ((ravD ((apS1 (cutC p0) 2)) ((apD1 (cutC p0) 2)))) ((ravS ((apS2 (cutC p0) 2)) ((apD2 (cutC p0) 2)))) ((ravD ((apS2 (cutC p0) 2)) ((apD2 (cutC p0) 2)))))).length < 9223372036854775808) && decide (((ravS ((comS ((anyOpV (cutC p0) 0)) ((apS1 (cutC p0) 2)) ((apD1 (cutC p0) 2)) ((apS2 (cutC p0) 2)) ((apD2 (cutC p0) 2)))) ((comD ((anyOpV (cutC p0) 0)) ((apS1 (cutC p0) 2)) ((apD1 (cutC p0) 2)) ((apS2 (cutC p0) 2)) ((apD2 (cutC p0) 2)))))).length < 9223372036854775808) && decide (((ravD ((comS ((anyOpV (cutC p0) 0)) ((apS1 (cutC p0) 2)) ((apD1 (cutC p0) 2)) ((apS2 (cutC p0) 2)) ((apD2 (cutC p0) 2)))) ((comD ((anyOpV (cutC p0) 0)) ((apS1 (cutC p0) 2)) ((apD1 (cutC p0) 2)) ((apS2 (cutC p0) 2)) ((apD2 (cutC p0) 2)))))).length < 9223372036854775808) then
  some ([.one ((.bool (decide (((comS ((anyOpV (cutC p0) 0)) ((ravS ((apS1 (cutC p0) 2)) ((apD1 (cutC p0) 2)))) ((ravD ((apS1 (cutC p0) 2)) ((apD1 (cutC p0) 2)))) ((ravS ((apS2 (cutC p0) 2)) ((apD2 (cutC p0) 2)))) ((ravD ((apS2 (cutC p0) 2)) ((apD2 (cutC p0) 2)))))) = ((ravS ((comS ((anyOpV (cutC p0) 0)) ((apS1 (cutC p0) 2)) ((apD1 (cutC p0) 2)) ((apS2 (cutC p0) 2)) ((apD2 (cutC p0) 2)))) ((comD ((anyOpV (cutC p0) 0)) ((apS1 (cutC p0) 2)) ((apD1 (cutC p0) 2)) ((apS2 (cutC p0) 2)) ((apD2 (cutC p0) 2))))))) && decide (((comD ((anyOpV (cutC p0) 0)) ((ravS ((apS1 (cutC p0) 2)) ((apD1 (cutC p0) 2)))) ((ravD ((apS1 (cutC p0) 2)) ((apD1 (cutC p0) 2)))) ((ravS ((apS2 (cutC p0) 2)) ((apD2 (cutC p0) 2)))) ((ravD ((apS2 (cutC p0) 2)) ((apD2 (cutC p0) 2)))))) = ((ravD ((comS ((anyOpV (cutC p0) 0)) ((apS1 (cutC p0) 2)) ((apD1 (cutC p0) 2)) ((apS2 (cutC p0) 2)) ((apD2 (cutC p0) 2)))) ((comD ((anyOpV (cutC p0) 0)) ((apS1 (cutC p0) 2)) ((apD1 (cutC p0) 2)) ((apS2 (cutC p0) 2)) ((apD2 (cutC p0) 2))))))))), false)], [])
  else
  none)
  else
  none)
  else
  some ([.one ((.bool false), false)], []))
  else
  none)
  else
  none)
  else
  none))))))
  else
  none)
  else
  none)
  else
  none)
  else
  none)) := by kernel_rfl
end laws_FnCombineRavel
theorem laws_FnCombineRavel.ok_of (hX : ∀ E ∈ laws_FnCombineRavel.X, CallSpec Try.prog E) (h : ∀ (bs : List Int), (bytesB bs) = true → ∃ fuel, runF Try.prog laws_FnCombineRavel.X laws_FnCombineRavel.I 0 fuel 6 Try.f6 [.d (.ints .u8 bs)] = some ([.one ((.bool true), false)], [])) : CallSpec Try.prog laws_FnCombineRavel.E :=
  callSpec_of (d := 0) hX (by kernel_rfl) laws_FnCombineRavel.I_ok (by kernel_rfl) (by kernel_rfl) (by kernel_rfl) (fun _ _ _ _ h => by dsimp only [laws_FnCombineRavel.E] at h; cases h) (fun xs hp => by
    dsimp only [laws_FnCombineRavel.E] at hp ⊢
    split at hp
    · exact h _ hp
    · cases hp)
theorem laws_FnCombineRavel.ok : CallSpec Try.prog laws_FnCombineRavel.E := laws_FnCombineRavel.ok_of (by simp [laws_FnCombineRavel.X, spec_DrawCombine.ok, impl_Combine.ok, spec_Combine.ok, laws_equalArray.ok, impl_Ravel.ok]) fun bs h => by
  obtain ⟨F, hF⟩ : ∃ F : Nat, 4000 < F := ⟨4001, by omega⟩
  refine ⟨F, ?_⟩
  rw [laws_FnCombineRavel.e]
  by_cases hl : ((bs.length : Nat) : Int) > 1048576
  · rw [decide_eq_true hl]; rfl
  rw [decide_eq_false hl, cond_false, h, cond_true]
  have r0 := cut_ok h (p := 0) (by omega) (by omega)
  obtain ⟨a1, a2, a3, a4, _, _⟩ := ap_bd (rd_le (q := 2) r0 (by omega) (by omega)) (by omega)
  obtain ⟨op, hop⟩ : ∃ x, anyOpV (cutC bs) 0 = x := ⟨_, rfl⟩
  obtain ⟨s1, hs1⟩ : ∃ x, apS1 (cutC bs) 2 = x := ⟨_, rfl⟩
  obtain ⟨d1, hd1⟩ : ∃ x, apD1 (cutC bs) 2 = x := ⟨_, rfl⟩
  obtain ⟨s2, hs2⟩ : ∃ x, apS2 (cutC bs) 2 = x := ⟨_, rfl⟩
  obtain ⟨d2, hd2⟩ : ∃ x, apD2 (cutC bs) 2 = x := ⟨_, rfl⟩
  rw [hs1] at a1
  rw [hd1] at a2
  rw [hs2] at a3
  rw [hd2] at a4
  have g1 := lt_of (xs := s1) (by omega)
  have g2 := lt_of (xs := d1) (by omega)
  have g3 := lt_of (xs := s2) (by omega)
  have g4 := lt_of (xs := d2) (by omega)
  have cl := com_len op s1 d1 s2 d2
  have g5 := lt_of (xs := comS op s1 d1 s2 d2) (by omega)
  have g6 := lt_of (xs := comD op s1 d1 s2 d2) (by omega)
  simp only [hop, hs1, hd1, hs2, hd2]
  cases hb : comB op s1 d1 s2 d2 with
  | false =>
    simp only [Bool.and_self, Bool.and_true, Bool.true_and, cond_true, cond_false, Bool.not_true, Bool.not_false, bne_self_eq_false, beq_self_eq_true, decide_true, eq_self, g1, g2, g3, g4, g5, g6, hb]
  | true =>
    have cS' : comS op s1 d1 s2 d2 = cS s1 s2 := by simp only [comS, hb, cond_true]
    have cD' : comD op s1 d1 s2 d2 = cD op s1 d1 s2 d2 := by simp only [comD, hb, cond_true]
    have hvc := com_valid hb
    have hlc := validA_len hvc
    obtain ⟨h1, h2, h3, h4, h5⟩ := com_inv hb
    have l1 := validA_len h2
    have l2 := validA_len h3
    have g7 := lt_of (xs := cS s1 s2) (by omega)
    have g8 := lt_of (xs := cD op s1 d1 s2 d2) (by omega)
    cases q1 : (((s1.length : Nat) : Int) == 0) with
    | true => simp only [Bool.and_self, Bool.and_true, Bool.true_and, cond_true, cond_false, Bool.not_true, Bool.not_false, bne_self_eq_false, beq_self_eq_true, decide_true, eq_self, g1, g2, g3, g4, g5, g6, hb, q1]
    | false =>
      cases q2 : (((s2.length : Nat) : Int) == 0) with
      | true => simp only [Bool.and_self, Bool.and_true, Bool.true_and, cond_true, cond_false, Bool.not_true, Bool.not_false, bne_self_eq_false, beq_self_eq_true, decide_true, eq_self, g1, g2, g3, g4, g5, g6, hb, q1, q2]
      | false =>
        have n1 : s1.length ≠ 0 := fun e => by rw [e] at q1; exact absurd q1 (by decide)
        have n2 : s2.length ≠ 0 := fun e => by rw [e] at q2; exact absurd q2 (by decide)
        rcases h5 with ⟨e1, _⟩ | ⟨_, e2, _⟩ | ⟨e1, e2, e3⟩
        · exact absurd (by rw [e1]; rfl) n1
        · exact absurd (by rw [e2]; rfl) n2
        · subst e2
          have v1 := rav_valid h2
          have v2 := rav_valid h3
          rw [← e3] at v2
          obtain ⟨c1, c2, c3⟩ := com_same h1 v1 v2
          have w1' := cD_same op h2 h3
          rw [← w1'] at c3
          have elc : (cD op s1 d1 s1 d2).length = d1.length := by rw [w1', tab_length]
          have g9 := lt_of (xs := [((d1.length : Nat) : Int)]) (by simp)
          simp only [Bool.and_self, Bool.and_true, Bool.true_and, cond_true, cond_false, Bool.not_true, Bool.not_false, bne_self_eq_false, beq_self_eq_true, decide_true, eq_self, g1, g2, g3, g4, g5, g6, g7, g8, g9, hb, q1, q2, ravS, ravD, h2, h3, ← e3, c1, c2, c3, cS', cD', hvc, elc]

namespace laws_FnCombineBoth
noncomputable def E : Entry := ⟨7, true, false, fun | [.d (.ints .u8 bs)] => bytesB bs | _ => false, fun | [.d (.ints .u8 bs)] => ([.one ((.bool true), false)], []) | _ => ([], []), fun _ => [], false, fun _ => none⟩
end laws_FnCombineBoth
namespace laws_FnCombineBoth
noncomputable def X : List Entry := [spec_DrawCombine.E, impl_Combine.E, spec_Combine.E, laws_equalArray.E]
noncomputable def I : List Inl := [⟨7, Try.f7, ⟨[17, 25, 32, 68], [], [], [], [], []⟩⟩]
theorem I_ok : ∀ i ∈ I, Try.prog.funcs[i.f]? = some i.fn ∧ (i.fn.name == "runtime.NumGoroutine") = false := by
  intro i hi
  simp only [I, List.mem_cons, List.not_mem_nil, or_false] at hi
  subst hi
  exact ⟨by kernel_rfl, by kernel_rfl⟩
theorem e (fuel : Nat) (p0 : List Int) : runF Try.prog X I 0 fuel 7 Try.f7 [.d (.ints .u8 p0)] =
  (bif (decide ((((p0.length : Nat) : Int) : Int) > 1048576)) then
  some ([.one ((.bool true), false)], [])
  else
  (bif bytesB p0 then
  (bif decide (((apS1 (cutC p0) 2)).length < 9223372036854775808) && decide (((apD1 (cutC p0) 2)).length < 9223372036854775808) && decide (((apS2 (cutC p0) 2)).length < 9223372036854775808) && decide (((apD2 (cutC p0) 2)).length < 9223372036854775808) then
  (bif decide (((apS1 (cutC p0) 2)).length < 9223372036854775808) && decide (((apD1 (cutC p0) 2)).length < 9223372036854775808) && decide (((apS2 (cutC p0) 2)).length < 9223372036854775808) && decide (((apD2 (cutC p0) 2)).length < 9223372036854775808) then
  (bif decide (((comS ((anyOpV (cutC p0) 0)) ((apS1 (cutC p0) 2)) ((apD1 (cutC p0) 2)) ((apS2 (cutC p0) 2)) ((apD2 (cutC p0) 2)))).length < 9223372036854775808) && decide (((comD ((anyOpV (cutC p0) 0)) ((apS1 (cutC p0) 2)) ((apD1 (cutC p0) 2)) ((apS2 (cutC p0) 2)) ((apD2 (cutC p0) 2)))).length < 9223372036854775808) && decide (((comS ((anyOpV (cutC p0) 0)) ((apS1 (cutC p0) 2)) ((apD1 (cutC p0) 2)) ((apS2 (cutC p0) 2)) ((apD2 (cutC p0) 2)))).length < 9223372036854775808) && decide (((comD ((anyOpV (cutC p0) 0)) ((apS1 (cutC p0) 2)) ((apD1 (cutC p0) 2)) ((apS2 (cutC p0) 2)) ((apD2 (cutC p0) 2)))).length < 9223372036854775808) then
  (bif (!(decide (((comS ((anyOpV (cutC p0) 0)) ((apS1 (cutC p0) 2)) ((apD1 (cutC p0) 2)) ((apS2 (cutC p0) 2)) ((apD2 (cutC p0) 2)))) = ((comS ((anyOpV (cutC p0) 0)) ((apS1 (cutC p0) 2)) ((apD1 (cutC p0) 2)) ((apS2 (cutC p0) 2)) ((apD2 (cutC p0) 2))))) && decide (((comD ((anyOpV (cutC p0) 0)) ((apS1 (cutC p0) 2)) ((apD1 (cutC p0) 2)) ((apS2 (cutC p0) 2)) ((apD2 (cutC p0) 2)))) = ((comD ((anyOpV (cutC p0) 0)) ((apS1 (cutC p0) 2)) ((apD1 (cutC p0) 2)) ((apS2 (cutC p0) 2)) ((apD2 (cutC p0) 2))))))) then
  (bif decide (((comS ((anyOpV (cutC p0) 0)) ((apS1 (cutC p0) 2)) ((apD1 (cutC p0) 2)) ((apS2 (cutC p0) 2)) ((apD2 (cutC p0) 2)))).length < 9223372036854775808) && decide (((comD ((anyOpV (cutC p0) 0)) ((apS1 (cutC p0) 2)) ((apD1 (cutC p0) 2)) ((apS2 (cutC p0) 2)) ((apD2 (cutC p0) 2)))).length < 9223372036854775808) && decide (((comS ((anyOpV (cutC p0) 0)) ((apS1 (cutC p0) 2)) ((apD1 (cutC p0) 2)) ((apS2 (cutC p0) 2)) ((apD2 (cutC p0) 2)))).length < 9223372036854775808) && decide (((comD ((anyOpV (cutC p0) 0)) ((apS1 (cutC p0) 2)) ((apD1 (cutC p0) 2)) ((apS2 (cutC p0) 2)) ((apD2 (cutC p0) 2)))).length < 9223372036854775808) then
  (bif (decide (((comS ((anyOpV (cutC p0) 0)) ((apS1 (cutC p0) 2)) ((apD1 (cutC p0) 2)) ((apS2 (cutC p0) 2)) ((apD2 (cutC p0) 2)))) = ((comS ((anyOpV (cutC p0) 0)) ((apS1 (cutC p0) 2)) ((apD1 (cutC p0) 2)) ((apS2 (cutC p0) 2)) ((apD2 (cutC p0) 2))))) && decide (((comD ((anyOpV (cutC p0) 0)) ((apS1 (cutC p0) 2)) ((apD1 (cutC p0) 2)) ((apS2 (cutC p0) 2)) ((apD2 (cutC p0) 2)))) = ((comD ((anyOpV (cutC p0) 0)) ((apS1 (cutC p0) 2)) ((apD1 (cutC p0) 2)) ((apS2 (cutC p0) 2)) ((apD2 (cutC p0) 2)))))) then
  some ([.one ((.bool ((comB ((anyOpV (cutC p0) 0)) ((apS1 (cutC p0) 2)) ((apD1 (cutC p0) 2)) ((apS2 (cutC p0) 2)) ((apD2 (cutC p0) 2))) == (comB ((anyOpV (cutC p0) 0)) ((apS1 (cutC p0) 2)) ((apD1 (cutC p0) 2)) ((apS2 (cutC p0) 2)) ((apD2 (cutC p0) 2))))), false)], [])
  else
  some ([.one ((.bool false), false)], []))
  else
  none)
  else
  (bif (!((comB ((anyOpV (cutC p0) 0)) ((apS1 (cutC p0) 2)) ((apD1 (cutC p0) 2)) ((apS2 (cutC p0) 2)) ((apD2 (cutC p0) 2))) == (comB ((anyOpV (cutC p0) 0)) ((apS1 (cutC p0) 2)) ((apD1 (cutC p0) 2)) ((apS2 (cutC p0) 2)) ((apD2 (cutC p0) 2))))) then
  (bif decide (((comS ((anyOpV (cutC p0) 0)) ((apS1 (cutC p0) 2)) ((apD1 (cutC p0) 2)) ((apS2 (cutC p0) 2)) ((apD2 (cutC p0) 2)))).length < 9223372036854775808) && decide (((comD ((anyOpV (cutC p0) 0)) ((apS1 (cutC p0) 2)) ((apD1 (cutC p0) 2)) ((apS2 (cutC p0) 2)) ((apD2 (cutC p0) 2)))).length < 9223372036854775808) && decide (((comS ((anyOpV (cutC p0) 0)) ((apS1 (cutC p0) 2)) ((apD1 (cutC p0) 2)) ((apS2 (cutC p0) 2)) ((apD2 (cutC p0) 2)))).length < 9223372036854775808) && decide (((comD ((anyOpV (cutC p0) 0)) ((apS1 (cutC p0) 2)) ((apD1 (cutC p0) 2)) ((apS2 (cutC p0) 2)) ((apD2 (cutC p0) 2)))).length < 9223372036854775808) then
  (bif (decide (((comS ((anyOpV (cutC p0) 0)) ((apS1 (cutC p0) 2)) ((apD1 (cutC p0) 2)) ((apS2 (cutC p0) 2)) ((apD2 (cutC p0) 2)))) = ((comS ((anyOpV (cutC p0) 0)) ((apS1 (cutC p0) 2)) ((apD1 (cutC p0) 2)) ((apS2 (cutC p0) 2)) ((apD2 (cutC p0) 2))))) && decide (((comD ((anyOpV (cutC p0) 0)) ((apS1 (cutC p0) 2)) ((apD1 (cutC p0) 2)) ((apS2 (cutC p0) 2)) ((apD2 (cutC p0) 2)))) = ((comD ((anyOpV (cutC p0) 0)) ((apS1 (cutC p0) 2)) ((apD1 (cutC p0) 2)) ((apS2 (cutC p0) 2)) ((apD2 (cutC p0) 2)))))) then
  some ([.one ((.bool ((comB ((anyOpV (cutC p0) 0)) ((apS1 (cutC p0) 2)) ((apD1 (cutC p0) 2)) ((apS2 (cutC p0) 2)) ((apD2 (cutC p0) 2))) == (comB ((anyOpV (cutC p0) 0)) ((apS1 (cutC p0) 2)) ((apD1 (cutC p0) 2)) ((apS2 (cutC p0) 2)) ((apD2 (cutC p0) 2))))), false)], [])
  else
  some ([.one ((.bool false), false)], []))
  else
  none)
  else
  (bif (((anyOpV (cutC p0) 0) : Int) == 2) then
  (bif decide (((comS ((anyOpV (cutC p0) 0)) ((apS1 (cutC p0) 2)) ((apD1 (cutC p0) 2)) ((apS2 (cutC p0) 2)) ((apD2 (cutC p0) 2)))).length < 9223372036854775808) && decide (((comD ((anyOpV (cutC p0) 0)) ((apS1 (cutC p0) 2)) ((apD1 (cutC p0) 2)) ((apS2 (cutC p0) 2)) ((apD2 (cutC p0) 2)))).length < 9223372036854775808) && decide (((comS ((anyOpV (cutC p0) 0)) ((apS1 (cutC p0) 2)) ((apD1 (cutC p0) 2)) ((apS2 (cutC p0) 2)) ((apD2 (cutC p0) 2)))).length < 9223372036854775808) && decide (((comD ((anyOpV (cutC p0) 0)) ((apS1 (cutC p0) 2)) ((apD1 (cutC p0) 2)) ((apS2 (cutC p0) 2)) ((apD2 (cutC p0) 2)))).length < 9223372036854775808) then
  (bif (decide (((comS ((anyOpV (cutC p0) 0)) ((apS1 (cutC p0) 2)) ((apD1 (cutC p0) 2)) ((apS2 (cutC p0) 2)) ((apD2 (cutC p0) 2)))) = ((comS ((anyOpV (cutC p0) 0)) ((apS1 (cutC p0) 2)) ((apD1 (cutC p0) 2)) ((apS2 (cutC p0) 2)) ((apD2 (cutC p0) 2))))) && decide (((comD ((anyOpV (cutC p0) 0)) ((apS1 (cutC p0) 2)) ((apD1 (cutC p0) 2)) ((apS2 (cutC p0) 2)) ((apD2 (cutC p0) 2)))) = ((comD ((anyOpV (cutC p0) 0)) ((apS1 (cutC p0) 2)) ((apD1 (cutC p0) 2)) ((apS2 (cutC p0) 2)) ((apD2 (cutC p0) 2)))))) then
  some ([.one ((.bool ((comB ((anyOpV (cutC p0) 0)) ((apS1 (cutC p0) 2)) ((apD1 (cutC p0) 2)) ((apS2 (cutC p0) 2)) ((apD2 (cutC p0) 2))) == (comB ((anyOpV (cutC p0) 0)) ((apS1 (cutC p0) 2)) ((apD1 (cutC p0) 2)) ((apS2 (cutC p0) 2)) ((apD2 (cutC p0) 2))))), false)], [])
  else
  some ([.one ((.bool false), false)], []))
  else
  none)
  else
  (bif (((anyOpV (cutC p0) 0) : Int) == 7) then
  (bif decide (((comS ((anyOpV (cutC p0) 0)) ((apS1 (cutC p0) 2)) ((apD1 (cutC p0) 2)) ((apS2 (cutC p0) 2)) ((apD2 (cutC p0) 2)))).length < 9223372036854775808) && decide (((comD ((anyOpV (cutC p0) 0)) ((apS1 (cutC p0) 2)) ((apD1 (cutC p0) 2)) ((apS2 (cutC p0) 2)) ((apD2 (cutC p0) 2)))).length < 9223372036854775808) && decide (((comS ((anyOpV (cutC p0) 0)) ((apS1 (cutC p0) 2)) ((apD1 (cutC p0) 2)) ((apS2 (cutC p0) 2)) ((apD2 (cutC p0) 2)))).length < 9223372036854775808) && decide (((comD ((anyOpV (cutC p0) 0)) ((apS1 (cutC p0) 2)) ((apD1 (cutC p0) 2)) ((apS2 (cutC p0) 2)) ((apD2 (cutC p0) 2)))).length < 9223372036854775808) then
  (bif (decide (((comS ((anyOpV (cutC p0) 0)) ((apS1 (cutC p0) 2)) ((apD1 (cutC p0) 2)) ((apS2 (cutC p0) 2)) ((apD2 (cutC p0) 2)))) = ((comS ((anyOpV (cutC p0) 0)) ((apS1 (cutC p0) 2)) ((apD1 (cutC p0) 2)) ((apS2 (cutC p0) 2)) ((apD2 (cutC p0) 2))))) && decide (((comD ((anyOpV (cutC p0) 0)) ((apS1 (cutC p0) 2)) ((apD1 (cutC p0) 2)) ((apS2 (cutC p0) 2)) ((apD2 (cutC p0) 2)))) = ((comD ((anyOpV (cutC p0) 0)) ((apS1 (cutC p0) 2)) ((apD1 (cutC p0) 2)) ((apS2 (cutC p0) 2)) ((apD2 (cutC p0) 2)))))) then
  some ([.one ((.bool ((comB ((anyOpV (cutC p0) 0)) ((apS1 (cutC p0) 2)) ((apD1 (cutC p0) 2)) ((apS2 (cutC p0) 2)) ((apD2 (cutC p0) 2))) == (comB ((anyOpV (cutC p0) 0)) ((apS1 (cutC p0) 2)) ((apD1 (cutC p0) 2)) ((apS2 (cutC p0) 2)) ((apD2 (cutC p0) 2))))), false)], [])
  else
  some ([.one ((.bool false), false)], []))
  else
  none)
  else
  (bif (((anyOpV (cutC p0) 0) : Int) == 8) then
  (bif decide (((comS ((anyOpV (cutC p0) 0)) ((apS1 (cutC p0) 2)) ((apD1 (cutC p0) 2)) ((apS2 (cutC p0) 2)) ((apD2 (cutC p0) 2)))).length < 9223372036854775808) && decide (((comD ((anyOpV (cutC p0) 0)) ((apS1 (cutC p0) 2)) ((apD1 (cutC p0) 2)) ((apS2 (cutC p0) 2)) ((apD2 (cutC p0) 2)))).length < 9223372036854775808) && decide (((comS ((anyOpV (cutC p0) 0)) ((apS1 (cutC p0) 2)) ((apD1 (cutC p0) 2)) ((apS2 (cutC p0) 2)) ((apD2 (cutC p0) 2)))).length < 9223372036854775808) && decide (((comD ((anyOpV (cutC p0) 0)) ((apS1 (cutC p0) 2)) ((apD1 (cutC p0) 2)) ((apS2 (cutC p0) 2)) ((apD2 (cutC p0) 2)))).length < 9223372036854775808) then
  (bif (decide (((comS ((anyOpV (cutC p0) 0)) ((apS1 (cutC p0) 2)) ((apD1 (cutC p0) 2)) ((apS2 (cutC p0) 2)) ((apD2 (cutC p0) 2)))) = ((comS ((anyOpV (cutC p0) 0)) ((apS1 (cutC p0) 2)) ((apD1 (cutC p0) 2)) ((apS2 (cutC p0) 2)) ((apD2 (cutC p0) 2))))) && decide (((comD ((anyOpV (cutC p0) 0)) ((apS1 (cutC p0) 2)) ((apD1 (cutC p0) 2)) ((apS2 (cutC p0) 2)) ((apD2 (cutC p0) 2)))) = ((comD ((anyOpV (cutC p0) 0)) ((apS1 (cutC p0) 2)) ((apD1 (cutC p0) 2)) ((apS2 (cutC p0) 2)) ((apD2 (cutC p0) 2)))))) then
  some ([.one ((.bool ((comB ((anyOpV (cutC p0) 0)) ((apS1 (cutC p0) 2)) ((apD1 (cutC p0) 2)) ((apS2 (cutC p0) 2)) ((apD2 (cutC p0) 2))) == (comB ((anyOpV (cutC p0) 0)) ((apS1 (cutC p0) 2)) ((apD1 (cutC p0) 2)) ((apS2 (cutC p0) 2)) ((apD2 (cutC p0) 2))))), false)], [])
  else
  some ([.one ((.bool false), false)], []))
  else
  none)
  else
  (bif decide (((apS2 (cutC p0) 2)).length < 9223372036854775808) && decide (((apD2 (cutC p0) 2)).length < 9223372036854775808) && decide (((apS1 (cutC p0) 2)).length < 9223372036854775808) && decide (((apD1 (cutC p0) 2)).length < 9223372036854775808) then
  (bif ((comB ((anyOpV (cutC p0) 0)) ((apS2 (cutC p0) 2)) ((apD2 (cutC p0) 2)) ((apS1 (cutC p0) 2)) ((apD1 (cutC p0) 2))) == (comB ((anyOpV (cutC p0) 0)) ((apS1 (cutC p0) 2)) ((apD1 (cutC p0) 2)) ((apS2 (cutC p0) 2)) ((apD2 (cutC p0) 2)))) then
  (bif decide (((comS ((anyOpV (cutC p0) 0)) ((apS2 (cutC p0) 2)) ((apD2 (cutC p0) 2)) ((apS1 (cutC p0) 2)) ((apD1 (cutC p0) 2)))).length < 9223372036854775808) && decide (((comD ((anyOpV (cutC p0) 0)) ((apS2 (cutC p0) 2)) ((apD2 (cutC p0) 2)) ((apS1 (cutC p0) 2)) ((apD1 (cutC p0) 2)))).length < 9223372036854775808) && decide (((comS ((anyOpV (cutC p0) 0)) ((apS1 (cutC p0) 2)) ((apD1 (cutC p0) 2)) ((apS2 (cutC p0) 2)) ((apD2 (cutC p0) 2)))).length < 9223372036854775808) && decide (((comD ((anyOpV (cutC p0) 0)) ((apS1 (cutC p0) 2)) ((apD1 (cutC p0) 2)) ((apS2 (cutC p0) 2)) ((apD2 (cutC p0) 2)))).length < 9223372036854775808) then
  some ([.one ((.bool (decide (((comS ((anyOpV (cutC p0) 0)) ((apS2 (cutC p0) 2)) ((apD2 (cutC p0) 2)) ((apS1 (cutC p0) 2)) ((apD1 (cutC p0) 2)))) = ((comS ((anyOpV (cutC p0) 0)) ((apS1 (cutC p0) 2)) ((apD1 (cutC p0) 2)) ((apS2 (cutC p0) 2)) ((apD2 (cutC p0) 2))))) && decide (((comD ((anyOpV (cutC p0) 0)) ((apS2 (cutC p0) 2)) ((apD2 (cutC p0) 2)) ((apS1 (cutC p0) 2)) ((apD1 (cutC p0) 2)))) = ((comD ((anyOpV (cutC p0) 0)) ((apS1 (cutC p0) 2)) ((apD1 (cutC p0) 2)) ((apS2 (cutC p0) 2)) ((apD2 (cutC p0) 2))))))), false)], [])
  else
  none)
  else
  some ([.one ((.bool false), false)], []))
  else
  none))))))
  else
  none)
  else
  none)
  else
  none)
  else
  none)) := by kernel_rfl
end laws_FnCombineBoth
theorem laws_FnCombineBoth.ok_of (hX : ∀ E ∈ laws_FnCombineBoth.X, CallSpec Try.prog E) (h : ∀ (bs : List Int), (bytesB bs) = true → ∃ fuel, runF Try.prog laws_FnCombineBoth.X laws_FnCombineBoth.I 0 fuel 7 Try.f7 [.d (.ints .u8 bs)] = some ([.one ((.bool true), false)], [])) : CallSpec Try.prog laws_FnCombineBoth.E :=
  callSpec_of (d := 0) hX (by kernel_rfl) laws_FnCombineBoth.I_ok (by kernel_rfl) (by kernel_rfl) (by kernel_rfl) (fun _ _ _ _ h => by dsimp only [laws_FnCombineBoth.E] at h; cases h) (fun xs hp => by
    dsimp only [laws_FnCombineBoth.E] at hp ⊢
    split at hp
    · exact h _ hp
    · cases hp)
theorem laws_FnCombineBoth.ok : CallSpec Try.prog laws_FnCombineBoth.E := laws_FnCombineBoth.ok_of (by simp [laws_FnCombineBoth.X, spec_DrawCombine.ok, impl_Combine.ok, spec_Combine.ok, laws_equalArray.ok]) fun bs h => by
  obtain ⟨F, hF⟩ : ∃ F : Nat, 4000 < F := ⟨4001, by omega⟩
  refine ⟨F, ?_⟩
  rw [laws_FnCombineBoth.e]
  by_cases hl : ((bs.length : Nat) : Int) > 1048576
  · rw [decide_eq_true hl]; rfl
  rw [decide_eq_false hl, cond_false, h, cond_true]
  have r0 := cut_ok h (p := 0) (by omega) (by omega)
  obtain ⟨a1, a2, a3, a4, _, _⟩ := ap_bd (rd_le (q := 2) r0 (by omega) (by omega)) (by omega)
  obtain ⟨op, hop⟩ : ∃ x, anyOpV (cutC bs) 0 = x := ⟨_, rfl⟩
  obtain ⟨s1, hs1⟩ : ∃ x, apS1 (cutC bs) 2 = x := ⟨_, rfl⟩
  obtain ⟨d1, hd1⟩ : ∃ x, apD1 (cutC bs) 2 = x := ⟨_, rfl⟩
  obtain ⟨s2, hs2⟩ : ∃ x, apS2 (cutC bs) 2 = x := ⟨_, rfl⟩
  obtain ⟨d2, hd2⟩ : ∃ x, apD2 (cutC bs) 2 = x := ⟨_, rfl⟩
  rw [hs1] at a1
  rw [hd1] at a2
  rw [hs2] at a3
  rw [hd2] at a4
  have g1 := lt_of (xs := s1) (by omega)
  have g2 := lt_of (xs := d1) (by omega)
  have g3 := lt_of (xs := s2) (by omega)
  have g4 := lt_of (xs := d2) (by omega)
  have cl := com_len op s1 d1 s2 d2
  have g5 := lt_of (xs := comS op s1 d1 s2 d2) (by omega)
  have g6 := lt_of (xs := comD op s1 d1 s2 d2) (by omega)
  simp only [hop, hs1, hd1, hs2, hd2]
  cases q1 : ((op : Int) == 2) with
  | true => simp only [Bool.and_self, Bool.and_true, Bool.true_and, cond_true, cond_false, Bool.not_true, Bool.not_false, bne_self_eq_false, beq_self_eq_true, decide_true, eq_self, g1, g2, g3, g4, g5, g6, q1]
  | false =>
    cases q2 : ((op : Int) == 7) with
    | true => simp only [Bool.and_self, Bool.and_true, Bool.true_and, cond_true, cond_false, Bool.not_true, Bool.not_false, bne_self_eq_false, beq_self_eq_true, decide_true, eq_self, g1, g2, g3, g4, g5, g6, q1, q2]
    | false =>
      cases q3 : ((op : Int) == 8) with
      | true => simp only [Bool.and_self, Bool.and_true, Bool.true_and, cond_true, cond_false, Bool.not_true, Bool.not_false, bne_self_eq_false, beq_self_eq_true, decide_true, eq_self, g1, g2, g3, g4, g5, g6, q1, q2, q3]
      | false =>
        have n1 := beq_eq_false_iff_ne.1 q1
        have n2 := beq_eq_false_iff_ne.1 q2
        have n3 := beq_eq_false_iff_ne.1 q3
        cases ho : opOk op with
        | false =>
          have b1 : comB op s1 d1 s2 d2 = false := by simp only [comB, ho, Bool.false_and]
          have b2 : comB op s2 d2 s1 d1 = false := by simp only [comB, ho, Bool.false_and]
          simp only [comS, comD, b1, b2, g1, g2, g3, g4, q1, q2, q3, Bool.and_self, cond_true, cond_false]
          rfl
        | true =>
          obtain ⟨c1, c2, c3⟩ := com_comm (op := op) (s1 := s1) (d1 := d1) (s2 := s2) (d2 := d2) (by have := opOk_cases ho; omega)
          simp only [Bool.and_self, Bool.and_true, Bool.true_and, cond_true, cond_false, Bool.not_true, Bool.not_false, bne_self_eq_false, beq_self_eq_true, decide_true, eq_self, g1, g2, g3, g4, g5, g6, q1, q2, q3, c1, c2, c3]

namespace impl_NeutralOf
noncomputable def E : Entry := ⟨74, true, false, fun | [.d (.int .i64 op)] => true | _ => false, fun | [.d (.int .i64 op)] => ([.one ((.int .i64 (neuV op)), false)], []) | _ => ([], []), fun _ => [], false, fun _ => none⟩
end impl_NeutralOf
namespace impl_NeutralOf
noncomputable def X : List Entry := []
noncomputable def I : List Inl := [⟨74, Try.f74, ⟨[], [], [], [], [], []⟩⟩]
theorem I_ok : ∀ i ∈ I, Try.prog.funcs[i.f]? = some i.fn ∧ (i.fn.name == "runtime.NumGoroutine") = false := by
  intro i hi
  simp only [I, List.mem_cons, List.not_mem_nil, or_false] at hi
  subst hi
  exact ⟨by kernel_rfl, by kernel_rfl⟩
theorem e (fuel : Nat) (p0 : Int) : runF Try.prog X I 0 fuel 74 Try.f74 [.d (.int .i64 p0)] =
  (bif ((p0 : Int) == 3) then
  some ([.one ((.int .i64 1), false)], [])
  else
  (bif ((p0 : Int) == 6) then
  some ([.one ((.int .i64 1), false)], [])
  else
  (bif ((p0 : Int) == 4) then
  some ([.one ((.int .i64 1000000), false)], [])
  else
  (bif ((p0 : Int) == 5) then
  some ([.one ((.int .i64 (-1000000)), false)], [])
  else
  some ([.one ((.int .i64 0), false)], []))))) := by kernel_rfl
end impl_NeutralOf
theorem impl_NeutralOf.ok_of (hX : ∀ E ∈ impl_NeutralOf.X, CallSpec Try.prog E) (h : ∀ (op : Int), (true) = true → ∃ fuel, runF Try.prog impl_NeutralOf.X impl_NeutralOf.I 0 fuel 74 Try.f74 [.d (.int .i64 op)] = some ([.one ((.int .i64 (neuV op)), false)], [])) : CallSpec Try.prog impl_NeutralOf.E :=
  callSpec_of (d := 0) hX (by kernel_rfl) impl_NeutralOf.I_ok (by kernel_rfl) (by kernel_rfl) (by kernel_rfl) (fun _ _ _ _ h => by dsimp only [impl_NeutralOf.E] at h; cases h) (fun xs hp => by
    dsimp only [impl_NeutralOf.E] at hp ⊢
    split at hp
    · exact h _ hp
    · cases hp)
theorem impl_NeutralOf.ok : CallSpec Try.prog impl_NeutralOf.E := impl_NeutralOf.ok_of (by simp [impl_NeutralOf.X]) fun op _ => ⟨0, by
  rw [impl_NeutralOf.e]
  unfold neuV
  cases ho : opOk op with
  | true => rcases opOk_cases ho with rfl | rfl | rfl | rfl | rfl | rfl | rfl | rfl <;> rfl
  | false =>
    have h := opOk_no ho
    rw [show (op == 3) = false by simp; omega, show (op == 6) = false by simp; omega, show (op == 4) = false by simp; omega, show (op == 5) = false by simp; omega]
    rfl⟩

namespace impl_foldRight_int_int
noncomputable def E : Entry := ⟨75, true, false, fun | [.d (.ints .i64 xs), .d (.int .i64 s), .d (.fn false dom G)] => decide (xs.length < 9223372036854775808) && fdB dom G xs s | _ => false, fun | [.d (.ints .i64 xs), .d (.int .i64 s), .d (.fn false dom G)] => ([.one ((.int .i64 (foldW G xs s)), false)], []) | _ => ([], []), fun _ => [], false, fun _ => none⟩
end impl_foldRight_int_int
namespace impl_foldRight_int_int
noncomputable def X : List Entry := []
noncomputable def I : List Inl := [⟨75, Try.f75, ⟨[], [(1, [1, 2, 3, 7, 8, 9, 10, 11, 12, 13, 14, 15, 16, 17])], [], [], [], []⟩⟩, ⟨80, Try.f80, ⟨[], [], [(1, [1])], [], [], []⟩⟩, ⟨81, Try.f81, ⟨[], [(1000001, [2, 4, 5, 6, 7, 8, 9, 10, 11, 12, 13, 14, 15, 16, 17, 18])], [], [], [], []⟩⟩]
theorem I_ok : ∀ i ∈ I, Try.prog.funcs[i.f]? = some i.fn ∧ (i.fn.name == "runtime.NumGoroutine") = false := by
  intro i hi
  simp only [I, List.mem_cons, List.not_mem_nil, or_false] at hi
  rcases hi with rfl | rfl | rfl
  all_goals exact ⟨by kernel_rfl, by kernel_rfl⟩
noncomputable abbrev L0 (fuel n : Nat) (s : St) (k : Kont) := lAt Try.prog X I fuel true 3 false 81 (bodyOf Try.f81) [1, 0] n s k
noncomputable abbrev k0  (fuel : Nat) : Kont := (kAt Try.prog X I fuel true 3 false 81 (bodyOf Try.f81) [1, 0] [] (endFn Try.prog Try.f81 18 (kRange (kAt Try.prog X I fuel true 4 false 75 (bodyOf Try.f75) [1, 0, 1, 0] [] (endK Try.prog Try.f75)))))
noncomputable def t0 (p0 : List Int) (p2d : List Q → Bool) (p2g : List Q → Int) (x0q1 : Int) (x0q6 : Int) : St := ⟨[(.yld 1000000001), (.imm (.pbox [(.ints .i64 p0)])), .dead, (.imm (.int .i64 x0q1)), .dead, .dead, .dead, .dead, .dead, .dead, .dead, .dead, .dead, .dead, .dead, .dead, .dead, .dead, .dead], hOf [(1000000000, .dfr), (1000000001, (.loop 75 [(.imm (.ints .i64 p0)), .dead, .dead, .dead, (.ptr 1000000002 0 0), (.ptr 1000000003 0 0), (.imm (.int .i64 0)), .dead, .dead, (.imm (.ints .i64 p0)), (.imm (.clo 81 [(.pbox [(.ints .i64 p0)])])), .dead, .dead, .dead, .dead, .dead, .dead, .dead] [11, 12] (cAt (bodyOf Try.f75) [1, 0, 1, 0, 0]) (cAt (bodyOf Try.f75) [1, 0, 1, 0, 1]) .ready)), (1000000002, (.box [(.imm (.int .i64 x0q6))])), (1000000003, (.box [(.imm (.fn false p2d p2g))]))], [(.imm (.ints .i64 p0)), .dead, .dead, .dead, (.ptr 1000000002 0 0), (.ptr 1000000003 0 0), (.imm (.int .i64 0)), .dead, .dead, (.imm (.ints .i64 p0)), (.imm (.clo 81 [(.pbox [(.ints .i64 p0)])])), .dead, .dead, .dead, .dead, .dead, .dead, .dead, (.tup [(.dfr 1000000000)]), (.yld 1000000001)], []⟩
theorem e (fuel : Nat) (p0 : List Int) (p1 : Int) (p2d : List Q → Bool) (p2g : List Q → Int) : runF Try.prog X I 4 fuel 75 Try.f75 [.d (.ints .i64 p0), .d (.int .i64 p1), .d (.fn false p2d p2g)] =
  L0 fuel fuel (t0 p0 p2d p2g ((IntKind.wrap .i64 (((p0.length : Nat) : Int) - 1))) p1) (k0  fuel) := by kernel_rfl
theorem s0 (fuel n0 : Nat) (p0 : List Int) (p2d : List Q → Bool) (p2g : List Q → Int) (x0q1 : Int) (x0q6 : Int) : L0 fuel (n0 + 1) (t0 p0 p2d p2g x0q1 x0q6) (k0  fuel) =
  (bif (decide ((x0q1 : Int) ≥ 0)) then
  (idx x0q1 p0.length).bind fun j5 =>
  (p0[j5]?).bind fun v6 =>
  (bif (p2d [Q.i v6, Q.i x0q6]) then
  L0 fuel n0 (t0 p0 p2d p2g ((IntKind.wrap .i64 (x0q1 - 1))) ((p2g [Q.i v6, Q.i x0q6]))) (k0  fuel)
  else
  none)
  else
  some ([.one ((.int .i64 x0q6), false)], [])) := by kernel_rfl
end impl_foldRight_int_int
theorem impl_foldRight_int_int.ok_of (hX : ∀ E ∈ impl_foldRight_int_int.X, CallSpec Try.prog E) (h : ∀ (xs : List Int) (s : Int) (dom : List Q → Bool) (G : List Q → Int), (decide (xs.length < 9223372036854775808) && fdB dom G xs s) = true → ∃ fuel, runF Try.prog impl_foldRight_int_int.X impl_foldRight_int_int.I 4 fuel 75 Try.f75 [.d (.ints .i64 xs), .d (.int .i64 s), .d (.fn false dom G)] = some ([.one ((.int .i64 (foldW G xs s)), false)], [])) : CallSpec Try.prog impl_foldRight_int_int.E :=
  callSpec_of (d := 4) hX (by kernel_rfl) impl_foldRight_int_int.I_ok (by kernel_rfl) (by kernel_rfl) (by kernel_rfl) (fun _ _ _ _ h => by dsimp only [impl_foldRight_int_int.E] at h; cases h) (fun xs hp => by
    dsimp only [impl_foldRight_int_int.E] at hp ⊢
    split at hp
    · exact h _ _ _ _ hp
    · cases hp)
theorem impl_foldRight_int_int.ok : CallSpec Try.prog impl_foldRight_int_int.E := impl_foldRight_int_int.ok_of (by simp [impl_foldRight_int_int.X]) fun xs s dom G h => ⟨xs.length + 1, by
  simp only [Bool.and_eq_true, decide_eq_true_eq] at h
  rw [impl_foldRight_int_int.e, wS (by omega) (by omega), show ((xs.length : Nat) : Int) - 1 = ((xs.length : Nat) : Int) - 1 - ((0 : Nat) : Int) by omega]
  have hd : ∀ i, i < xs.length → fdB dom G (xs.drop i) s = true := by
    intro i hi
    clear hi
    induction i with
    | zero => simpa using h.2
    | succ i ih =>
      by_cases hl : i < xs.length
      · rw [dropS hl] at ih
        simp only [fdB, Bool.and_eq_true] at ih
        exact ih.1
      · rw [dropE (by omega)]; rfl
  refine run_loop (N := xs.length) (fun n j acc => impl_foldRight_int_int.L0 (xs.length + 1) n (impl_foldRight_int_int.t0 xs dom G (((xs.length : Nat) : Int) - 1 - (j : Int)) acc) (impl_foldRight_int_int.k0 (xs.length + 1))) (fun j acc => acc = foldW G (xs.drop (xs.length - j)) s) ?_ ?_ (xs.length + 1) 0 _ (by omega) (by omega) (by simp [foldW])
  · intro n acc ho
    rw [impl_foldRight_int_int.s0, decide_eq_false (by omega), ho, Nat.sub_self, List.drop_zero]
    rfl
  · intro n j acc hj ho
    obtain ⟨k, hk⟩ : ∃ k, xs.length - j = k + 1 := ⟨xs.length - j - 1, by omega⟩
    have hkl : k < xs.length := by omega
    have e1 : ((xs.length : Nat) : Int) - 1 - (j : Int) = (k : Int) := by omega
    have hdk := hd k hkl
    rw [dropS hkl] at hdk
    simp only [fdB, Bool.and_eq_true] at hdk
    have hg : xs.getD k 0 = xs[k] := by simp [hkl]
    rw [e1, impl_foldRight_int_int.s0, decide_eq_true (by omega), idx_nat hkl, wS (by omega) (by omega)]
    simp only [cond_true, Option.bind_some, getD_get hkl]
    rw [ho, hk, hg, hdk.2, cond_true]
    refine ⟨_, ?_, by rw [show ((xs.length : Nat) : Int) - 1 - ((j + 1 : Nat) : Int) = (k : Int) - 1 by omega]⟩
    rw [show xs.length - (j + 1) = k by omega, dropS hkl]
    rfl⟩

namespace impl_reductionOf_1
noncomputable def E : Entry := ⟨73, true, false, fun | [.d (.ints .i64 xs), .d (.pbox [(.int .i64 op)]), .d (.pbox [(.fn false dom G)])] => rdB dom G xs | _ => false, fun | [.d (.ints .i64 xs), .d (.pbox [(.int .i64 op)]), .d (.pbox [(.fn false dom G)])] => ([.one ((.int .i64 (redG op G xs)), false)], []) | _ => ([], []), fun _ => [], false, fun | [(.pbox [(.int .i64 op)]), (.pbox [(.fn false dom G)])] => some (false, (qlB dom G), (qlv (redG op G))) | _ => none⟩
end impl_reductionOf_1
namespace impl_reductionOf_1
noncomputable def X : List Entry := [impl_NeutralOf.E, impl_foldRight_int_int.E]
noncomputable def I : List Inl := [⟨73, Try.f73, ⟨[], [], [], [(4, [0, 1, 3, 4, 2, 5, 6, 7, 8, 9])], [], []⟩⟩]
theorem I_ok : ∀ i ∈ I, Try.prog.funcs[i.f]? = some i.fn ∧ (i.fn.name == "runtime.NumGoroutine") = false := by
  intro i hi
  simp only [I, List.mem_cons, List.not_mem_nil, or_false] at hi
  subst hi
  exact ⟨by kernel_rfl, by kernel_rfl⟩
theorem e (fuel : Nat) (p0 : List Int) (f0q0 : Int) (f1q0d : List Q → Bool) (f1q0g : List Q → Int) : runF Try.prog X I 0 fuel 73 Try.f73 [.d (.ints .i64 p0), .d (.pbox [(.int .i64 f0q0)]), .d (.pbox [(.fn false f1q0d f1q0g)])] =
  (bif (decide (((IntKind.wrap .i64 (((p0.length : Nat) : Int) - 1)) : Int) < 0)) then
  some ([.one ((.int .i64 (neuV f0q0)), false)], [])
  else
  (cutEnds p0.length (none) (some (.imm (.int .i64 (IntKind.wrap .i64 (((p0.length : Nat) : Int) - 1)))))).bind fun cq1 =>
  (idx (IntKind.wrap .i64 (((p0.length : Nat) : Int) - 1)) p0.length).bind fun j2 =>
  (p0[j2]?).bind fun v3 =>
  (bif decide ((((p0.drop cq1.1).take (cq1.2 - cq1.1))).length < 9223372036854775808) && fdB f1q0d f1q0g (((p0.drop cq1.1).take (cq1.2 - cq1.1))) v3 then
  some ([.one ((.int .i64 (foldW f1q0g (((p0.drop cq1.1).take (cq1.2 - cq1.1))) v3)), false)], [])
  else
  none)) := by kernel_rfl
end impl_reductionOf_1
theorem impl_reductionOf_1.ok_of (hX : ∀ E ∈ impl_reductionOf_1.X, CallSpec Try.prog E) (hfn : ∀ ds rb dom G, impl_reductionOf_1.E.fnOf ds = some (rb, dom, G) → ∀ qs, dom qs = true → impl_reductionOf_1.E.m ((qs.map fun q => .d q.d) ++ ds.map .d) = some ([.one (fnD rb (G qs), false)], [])) (h : ∀ (xs : List Int) (op : Int) (dom : List Q → Bool) (G : List Q → Int), (rdB dom G xs) = true → ∃ fuel, runF Try.prog impl_reductionOf_1.X impl_reductionOf_1.I 0 fuel 73 Try.f73 [.d (.ints .i64 xs), .d (.pbox [(.int .i64 op)]), .d (.pbox [(.fn false dom G)])] = some ([.one ((.int .i64 (redG op G xs)), false)], [])) : CallSpec Try.prog impl_reductionOf_1.E :=
  callSpec_of (d := 0) hX (by kernel_rfl) impl_reductionOf_1.I_ok (by kernel_rfl) (by kernel_rfl) (by kernel_rfl) hfn (fun xs hp => by
    dsimp only [impl_reductionOf_1.E] at hp ⊢
    split at hp
    · exact h _ _ _ _ hp
    · cases hp)
theorem impl_reductionOf_1.ok : CallSpec Try.prog impl_reductionOf_1.E := impl_reductionOf_1.ok_of (by simp [impl_reductionOf_1.X, impl_NeutralOf.ok, impl_foldRight_int_int.ok]) (fun ds rb dom G h qs hq => by
  dsimp only [impl_reductionOf_1.E] at h
  split at h
  case h_2 => cases h
  cases h
  match qs, hq with
  | [.l xs], hq =>
    show Entry.m impl_reductionOf_1.E [.d (.ints .i64 xs), _, _] = _
    simp only [Entry.m, impl_reductionOf_1.E]
    rw [show rdB _ _ xs = true from hq]
    rfl) fun xs op dom G h => ⟨0, by
  simp only [rdB, Bool.and_eq_true, decide_eq_true_eq] at h
  rw [impl_reductionOf_1.e, wS (by omega) (by omega)]
  unfold redG
  by_cases h0 : xs.length = 0
  · rw [decide_eq_true (by omega), decide_eq_true h0]; rfl
  · obtain ⟨k, hk⟩ : ∃ k, xs.length = k + 1 := ⟨xs.length - 1, by omega⟩
    have e1 : ((xs.length : Nat) : Int) - 1 = (k : Int) := by omega
    have hkl : k < xs.length := by omega
    have e2 : xs.length - 1 = k := by omega
    rw [e2] at h
    rw [decide_eq_false (by omega), decide_eq_false h0, cond_false, e1, cut_hi (by omega), idx_nat hkl]
    simp only [Option.bind_some, getD_get hkl, List.drop_zero, Nat.sub_zero]
    rw [decide_eq_true (by simp; omega), h.2, e2]
    rfl⟩

namespace impl_reductionOf
noncomputable def E : Entry := ⟨42, true, false, fun | [.d (.int .i64 op)] => true | _ => false, fun | [.d (.int .i64 op)] => ([.one (.nilf, false)], []) | _ => ([], []), fun | [.d (.int .i64 op)] => [(opOk op, ([.one ((.fn false ql ((qlv (redF op)))), false)], []))] | _ => [], false, fun _ => none⟩
end impl_reductionOf
namespace impl_reductionOf
noncomputable def X : List Entry := [impl_functionOfTwo_f.E, impl_reductionOf_1.E]
noncomputable def I : List Inl := [⟨42, Try.f42, ⟨[], [], [(4, [1, 3])], [], [], []⟩⟩]
theorem I_ok : ∀ i ∈ I, Try.prog.funcs[i.f]? = some i.fn ∧ (i.fn.name == "runtime.NumGoroutine") = false := by
  intro i hi
  simp only [I, List.mem_cons, List.not_mem_nil, or_false] at hi
  subst hi
  exact ⟨by kernel_rfl, by kernel_rfl⟩
theorem e (fuel : Nat) (p0 : Int) : runF Try.prog X I 0 fuel 42 Try.f42 [.d (.int .i64 p0)] =
  (bif opOk p0 then
  some ([.one ((.fn false ((qlB q2 ((q2v (operF p0))))) ((qlv (redG p0 ((q2v (operF p0))))))), false)], [])
  else
  some ([.one (.nilf, false)], [])) := by kernel_rfl
end impl_reductionOf
theorem impl_reductionOf.ok_of (hX : ∀ E ∈ impl_reductionOf.X, CallSpec Try.prog E) (h : ∀ (op : Int), (true) = true → ∃ fuel, runF Try.prog impl_reductionOf.X impl_reductionOf.I 0 fuel 42 Try.f42 [.d (.int .i64 op)] = some (bif opOk op then ([.one ((.fn false ql ((qlv (redF op)))), false)], []) else ([.one (.nilf, false)], []))) : CallSpec Try.prog impl_reductionOf.E :=
  callSpec_of (d := 0) hX (by kernel_rfl) impl_reductionOf.I_ok (by kernel_rfl) (by kernel_rfl) (by kernel_rfl) (fun _ _ _ _ h => by dsimp only [impl_reductionOf.E] at h; cases h) (fun xs hp => by
    dsimp only [impl_reductionOf.E] at hp ⊢
    split at hp
    · exact h _ hp
    · cases hp)
theorem impl_reductionOf.ok : CallSpec Try.prog impl_reductionOf.E := impl_reductionOf.ok_of (by simp [impl_reductionOf.X, impl_functionOfTwo_f.ok, impl_reductionOf_1.ok]) fun op _ => ⟨0, by
  rw [impl_reductionOf.e, qlB_q2, redG_eq]
  cases opOk op <;> rfl⟩

namespace impl_ReduceAll
noncomputable def E : Entry := ⟨20, true, false, fun | [.d (.int .i64 op), .d (.agg [(.ints .i64 sh), (.ints .i64 da)])] => decide (sh.length < 9223372036854775808) && decide (da.length < 9223372036854775808) | _ => false, fun | [.d (.int .i64 op), .d (.agg [(.ints .i64 sh), (.ints .i64 da)])] => ([.one ((.int .i64 (rallV op sh da)), false)], []) | _ => ([], []), fun _ => [], false, fun _ => none⟩
end impl_ReduceAll
namespace impl_ReduceAll
noncomputable def X : List Entry := [impl_reductionOf.E, impl_ValidArray.E]
noncomputable def I : List Inl := [⟨20, Try.f20, ⟨[], [], [], [], [], []⟩⟩]
theorem I_ok : ∀ i ∈ I, Try.prog.funcs[i.f]? = some i.fn ∧ (i.fn.name == "runtime.NumGoroutine") = false := by
  intro i hi
  simp only [I, List.mem_cons, List.not_mem_nil, or_false] at hi
  subst hi
  exact ⟨by kernel_rfl, by kernel_rfl⟩
theorem e (fuel : Nat) (p0 : Int) (p1q0 : List Int) (p1q1 : List Int) : runF Try.prog X I 0 fuel 20 Try.f20 [.d (.int .i64 p0), .d (.agg [(.ints .i64 p1q0), (.ints .i64 p1q1)])] =
  (bif opOk p0 then
  (bif decide (p1q0.length < 9223372036854775808) && decide (p1q1.length < 9223372036854775808) then
  (bif (!(validA p1q0 p1q1)) then
  some ([.one ((.int .i64 0), false)], [])
  else
  (bif (ql [Q.l p1q1]) then
  some ([.one ((.int .i64 (((qlv (redF p0))) [Q.l p1q1])), false)], [])
  else
  none))
  else
  none)
  else
  some ([.one ((.int .i64 0), false)], [])) := by kernel_rfl
end impl_ReduceAll
theorem impl_ReduceAll.ok_of (hX : ∀ E ∈ impl_ReduceAll.X, CallSpec Try.prog E) (h : ∀ (op : Int) (sh : List Int) (da : List Int), (decide (sh.length < 9223372036854775808) && decide (da.length < 9223372036854775808)) = true → ∃ fuel, runF Try.prog impl_ReduceAll.X impl_ReduceAll.I 0 fuel 20 Try.f20 [.d (.int .i64 op), .d (.agg [(.ints .i64 sh), (.ints .i64 da)])] = some ([.one ((.int .i64 (rallV op sh da)), false)], [])) : CallSpec Try.prog impl_ReduceAll.E :=
  callSpec_of (d := 0) hX (by kernel_rfl) impl_ReduceAll.I_ok (by kernel_rfl) (by kernel_rfl) (by kernel_rfl) (fun _ _ _ _ h => by dsimp only [impl_ReduceAll.E] at h; cases h) (fun xs hp => by
    dsimp only [impl_ReduceAll.E] at hp ⊢
    split at hp
    · exact h _ _ _ hp
    · cases hp)
theorem impl_ReduceAll.ok : CallSpec Try.prog impl_ReduceAll.E := impl_ReduceAll.ok_of (by simp [impl_ReduceAll.X, impl_reductionOf.ok, impl_ValidArray.ok]) fun op sh da h => ⟨0, by
  rw [impl_ReduceAll.e, h]
  have hl : decide (da.length < 9223372036854775808) = true := by simp only [Bool.and_eq_true] at h; exact h.2
  have hq : ql [.l da] = true := hl
  unfold rallV
  cases ho : opOk op with
  | false => rfl
  | true => cases hv : validA sh da with
    | false => rfl
    | true => rw [hq]; rfl⟩

namespace laws_FnCombineSelf
noncomputable def E : Entry := ⟨8, true, false, fun | [.d (.ints .u8 bs)] => bytesB bs | _ => false, fun | [.d (.ints .u8 bs)] => ([.one ((.bool true), false)], []) | _ => ([], []), fun _ => [], false, fun _ => none⟩
end laws_FnCombineSelf
namespace laws_FnCombineSelf
noncomputable def X : List Entry := [spec_DrawCombine.E, impl_Combine.E, spec_Combine.E, laws_equalArray.E, impl_ValidArray.E, impl_ReduceAll.E]
noncomputable def I : List Inl := [⟨8, Try.f8, ⟨[21, 29, 36, 64, 70, 76], [], [], [], [], []⟩⟩]
theorem I_ok : ∀ i ∈ I, Try.prog.funcs[i.f]? = some i.fn ∧ (i.fn.name == "runtime.NumGoroutine") = false := by
  intro i hi
  simp only [I, List.mem_cons, List.not_mem_nil, or_false] at hi
  subst hi
  exact ⟨by kernel_rfl, by kernel_rfl⟩
theorem e (fuel : Nat) (p0 : List Int) : runF Try.prog X I 0 fuel 8 Try.f8 [.d (.ints .u8 p0)] =
  (bif (decide ((((p0.length : Nat) : Int) : Int) > 1048576)) then
  some ([.one ((.bool true), false)], [])
  else
  (bif bytesB p0 then
  (bif decide (((apS1 (cutC p0) 2)).length < 9223372036854775808) && decide (((apD1 (cutC p0) 2)).length < 9223372036854775808) && decide (((apS2 (cutC p0) 2)).length < 9223372036854775808) && decide (((apD2 (cutC p0) 2)).length < 9223372036854775808) then
  (bif decide (((apS1 (cutC p0) 2)).length < 9223372036854775808) && decide (((apD1 (cutC p0) 2)).length < 9223372036854775808) && decide (((apS2 (cutC p0) 2)).length < 9223372036854775808) && decide (((apD2 (cutC p0) 2)).length < 9223372036854775808) then
  (bif decide (((comS ((anyOpV (cutC p0) 0)) ((apS1 (cutC p0) 2)) ((apD1 (cutC p0) 2)) ((apS2 (cutC p0) 2)) ((apD2 (cutC p0) 2)))).length < 9223372036854775808) && decide (((comD ((anyOpV (cutC p0) 0)) ((apS1 (cutC p0) 2)) ((apD1 (cutC p0) 2)) ((apS2 (cutC p0) 2)) ((apD2 (cutC p0) 2)))).length < 9223372036854775808) && decide (((comS ((anyOpV (cutC p0) 0)) ((apS1 (cutC p0) 2)) ((apD1 (cutC p0) 2)) ((apS2 (cutC p0) 2)) ((apD2 (cutC p0) 2)))).length < 9223372036854775808) && decide (((comD ((anyOpV (cutC p0) 0)) ((apS1 (cutC p0) 2)) ((apD1 (cutC p0) 2)) ((apS2 (cutC p0) 2)) ((apD2 (cutC p0) 2)))).length < 9223372036854775808) then
  (bif (!(decide (((comS ((anyOpV (cutC p0) 0)) ((apS1 (cutC p0) 2)) ((apD1 (cutC p0) 2)) ((apS2 (cutC p0) 2)) ((apD2 (cutC p0) 2)))) = ((comS ((anyOpV (cutC p0) 0)) ((apS1 (cutC p0) 2)) ((apD1 (cutC p0) 2)) ((apS2 (cutC p0) 2)) ((apD2 (cutC p0) 2))))) && decide (((comD ((anyOpV (cutC p0) 0)) ((apS1 (cutC p0) 2)) ((apD1 (cutC p0) 2)) ((apS2 (cutC p0) 2)) ((apD2 (cutC p0) 2)))) = ((comD ((anyOpV (cutC p0) 0)) ((apS1 (cutC p0) 2)) ((apD1 (cutC p0) 2)) ((apS2 (cutC p0) 2)) ((apD2 (cutC p0) 2))))))) then
  (bif decide (((comS ((anyOpV (cutC p0) 0)) ((apS1 (cutC p0) 2)) ((apD1 (cutC p0) 2)) ((apS2 (cutC p0) 2)) ((apD2 (cutC p0) 2)))).length < 9223372036854775808) && decide (((comD ((anyOpV (cutC p0) 0)) ((apS1 (cutC p0) 2)) ((apD1 (cutC p0) 2)) ((apS2 (cutC p0) 2)) ((apD2 (cutC p0) 2)))).length < 9223372036854775808) && decide (((comS ((anyOpV (cutC p0) 0)) ((apS1 (cutC p0) 2)) ((apD1 (cutC p0) 2)) ((apS2 (cutC p0) 2)) ((apD2 (cutC p0) 2)))).length < 9223372036854775808) && decide (((comD ((anyOpV (cutC p0) 0)) ((apS1 (cutC p0) 2)) ((apD1 (cutC p0) 2)) ((apS2 (cutC p0) 2)) ((apD2 (cutC p0) 2)))).length < 9223372036854775808) then
  (bif (decide (((comS ((anyOpV (cutC p0) 0)) ((apS1 (cutC p0) 2)) ((apD1 (cutC p0) 2)) ((apS2 (cutC p0) 2)) ((apD2 (cutC p0) 2)))) = ((comS ((anyOpV (cutC p0) 0)) ((apS1 (cutC p0) 2)) ((apD1 (cutC p0) 2)) ((apS2 (cutC p0) 2)) ((apD2 (cutC p0) 2))))) && decide (((comD ((anyOpV (cutC p0) 0)) ((apS1 (cutC p0) 2)) ((apD1 (cutC p0) 2)) ((apS2 (cutC p0) 2)) ((apD2 (cutC p0) 2)))) = ((comD ((anyOpV (cutC p0) 0)) ((apS1 (cutC p0) 2)) ((apD1 (cutC p0) 2)) ((apS2 (cutC p0) 2)) ((apD2 (cutC p0) 2)))))) then
  some ([.one ((.bool ((comB ((anyOpV (cutC p0) 0)) ((apS1 (cutC p0) 2)) ((apD1 (cutC p0) 2)) ((apS2 (cutC p0) 2)) ((apD2 (cutC p0) 2))) == (comB ((anyOpV (cutC p0) 0)) ((apS1 (cutC p0) 2)) ((apD1 (cutC p0) 2)) ((apS2 (cutC p0) 2)) ((apD2 (cutC p0) 2))))), false)], [])
  else
  some ([.one ((.bool false), false)], []))
  else
  none)
  else
  (bif (!((comB ((anyOpV (cutC p0) 0)) ((apS1 (cutC p0) 2)) ((apD1 (cutC p0) 2)) ((apS2 (cutC p0) 2)) ((apD2 (cutC p0) 2))) == (comB ((anyOpV (cutC p0) 0)) ((apS1 (cutC p0) 2)) ((apD1 (cutC p0) 2)) ((apS2 (cutC p0) 2)) ((apD2 (cutC p0) 2))))) then
  (bif decide (((comS ((anyOpV (cutC p0) 0)) ((apS1 (cutC p0) 2)) ((apD1 (cutC p0) 2)) ((apS2 (cutC p0) 2)) ((apD2 (cutC p0) 2)))).length < 9223372036854775808) && decide (((comD ((anyOpV (cutC p0) 0)) ((apS1 (cutC p0) 2)) ((apD1 (cutC p0) 2)) ((apS2 (cutC p0) 2)) ((apD2 (cutC p0) 2)))).length < 9223372036854775808) && decide (((comS ((anyOpV (cutC p0) 0)) ((apS1 (cutC p0) 2)) ((apD1 (cutC p0) 2)) ((apS2 (cutC p0) 2)) ((apD2 (cutC p0) 2)))).length < 9223372036854775808) && decide (((comD ((anyOpV (cutC p0) 0)) ((apS1 (cutC p0) 2)) ((apD1 (cutC p0) 2)) ((apS2 (cutC p0) 2)) ((apD2 (cutC p0) 2)))).length < 9223372036854775808) then
  (bif (decide (((comS ((anyOpV (cutC p0) 0)) ((apS1 (cutC p0) 2)) ((apD1 (cutC p0) 2)) ((apS2 (cutC p0) 2)) ((apD2 (cutC p0) 2)))) = ((comS ((anyOpV (cutC p0) 0)) ((apS1 (cutC p0) 2)) ((apD1 (cutC p0) 2)) ((apS2 (cutC p0) 2)) ((apD2 (cutC p0) 2))))) && decide (((comD ((anyOpV (cutC p0) 0)) ((apS1 (cutC p0) 2)) ((apD1 (cutC p0) 2)) ((apS2 (cutC p0) 2)) ((apD2 (cutC p0) 2)))) = ((comD ((anyOpV (cutC p0) 0)) ((apS1 (cutC p0) 2)) ((apD1 (cutC p0) 2)) ((apS2 (cutC p0) 2)) ((apD2 (cutC p0) 2)))))) then
  some ([.one ((.bool ((comB ((anyOpV (cutC p0) 0)) ((apS1 (cutC p0) 2)) ((apD1 (cutC p0) 2)) ((apS2 (cutC p0) 2)) ((apD2 (cutC p0) 2))) == (comB ((anyOpV (cutC p0) 0)) ((apS1 (cutC p0) 2)) ((apD1 (cutC p0) 2)) ((apS2 (cutC p0) 2)) ((apD2 (cutC p0) 2))))), false)], [])
  else
  some ([.one ((.bool false), false)], []))
  else
  none)
  else
  (bif decide (((apS1 (cutC p0) 2)).length < 9223372036854775808) && decide (((apD1 (cutC p0) 2)).length < 9223372036854775808) then
  (bif (!(validA ((apS1 (cutC p0) 2)) ((apD1 (cutC p0) 2)))) then
  (bif decide (((comS ((anyOpV (cutC p0) 0)) ((apS1 (cutC p0) 2)) ((apD1 (cutC p0) 2)) ((apS2 (cutC p0) 2)) ((apD2 (cutC p0) 2)))).length < 9223372036854775808) && decide (((comD ((anyOpV (cutC p0) 0)) ((apS1 (cutC p0) 2)) ((apD1 (cutC p0) 2)) ((apS2 (cutC p0) 2)) ((apD2 (cutC p0) 2)))).length < 9223372036854775808) && decide (((comS ((anyOpV (cutC p0) 0)) ((apS1 (cutC p0) 2)) ((apD1 (cutC p0) 2)) ((apS2 (cutC p0) 2)) ((apD2 (cutC p0) 2)))).length < 9223372036854775808) && decide (((comD ((anyOpV (cutC p0) 0)) ((apS1 (cutC p0) 2)) ((apD1 (cutC p0) 2)) ((apS2 (cutC p0) 2)) ((apD2 (cutC p0) 2)))).length < 9223372036854775808) then
  (bif (decide (((comS ((anyOpV (cutC p0) 0)) ((apS1 (cutC p0) 2)) ((apD1 (cutC p0) 2)) ((apS2 (cutC p0) 2)) ((apD2 (cutC p0) 2)))) = ((comS ((anyOpV (cutC p0) 0)) ((apS1 (cutC p0) 2)) ((apD1 (cutC p0) 2)) ((apS2 (cutC p0) 2)) ((apD2 (cutC p0) 2))))) && decide (((comD ((anyOpV (cutC p0) 0)) ((apS1 (cutC p0) 2)) ((apD1 (cutC p0) 2)) ((apS2 (cutC p0) 2)) ((apD2 (cutC p0) 2)))) = ((comD ((anyOpV (cutC p0) 0)) ((apS1 (cutC p0) 2)) ((apD1 (cutC p0) 2)) ((apS2 (cutC p0) 2)) ((apD2 (cutC p0) 2)))))) then
  some ([.one ((.bool ((comB ((anyOpV (cutC p0) 0)) ((apS1 (cutC p0) 2)) ((apD1 (cutC p0) 2)) ((apS2 (cutC p0) 2)) ((apD2 (cutC p0) 2))) == (comB ((anyOpV (cutC p0) 0)) ((apS1 (cutC p0) 2)) ((apD1 (cutC p0) 2)) ((apS2 (cutC p0) 2)) ((apD2 (cutC p0) 2))))), false)], [])
  else
  some ([.one ((.bool false), false)], []))
  else
  none)
  else
  (bif decide (((apS1 (cutC p0) 2)).length < 9223372036854775808) && decide (((apD1 (cutC p0) 2)).length < 9223372036854775808) && decide (((apS1 (cutC p0) 2)).length < 9223372036854775808) && decide (((apD1 (cutC p0) 2)).length < 9223372036854775808) then
  (bif decide (((apS1 (cutC p0) 2)).length < 9223372036854775808) && decide (((apD1 (cutC p0) 2)).length < 9223372036854775808) && decide (((apS1 (cutC p0) 2)).length < 9223372036854775808) && decide (((apD1 (cutC p0) 2)).length < 9223372036854775808) then
  (bif decide (((apS1 (cutC p0) 2)).length < 9223372036854775808) && decide (((apD1 (cutC p0) 2)).length < 9223372036854775808) && decide (((apS1 (cutC p0) 2)).length < 9223372036854775808) && decide (((apD1 (cutC p0) 2)).length < 9223372036854775808) then
  (bif (comB 6 ((apS1 (cutC p0) 2)) ((apD1 (cutC p0) 2)) ((apS1 (cutC p0) 2)) ((apD1 (cutC p0) 2))) then
  (bif (comB 7 ((apS1 (cutC p0) 2)) ((apD1 (cutC p0) 2)) ((apS1 (cutC p0) 2)) ((apD1 (cutC p0) 2))) then
  (bif (comB 4 ((apS1 (cutC p0) 2)) ((apD1 (cutC p0) 2)) ((apS1 (cutC p0) 2)) ((apD1 (cutC p0) 2))) then
  (bif decide (((comS 6 ((apS1 (cutC p0) 2)) ((apD1 (cutC p0) 2)) ((apS1 (cutC p0) 2)) ((apD1 (cutC p0) 2)))).length < 9223372036854775808) && decide (((comD 6 ((apS1 (cutC p0) 2)) ((apD1 (cutC p0) 2)) ((apS1 (cutC p0) 2)) ((apD1 (cutC p0) 2)))).length < 9223372036854775808) then
  (bif (((rallV 3 ((comS 6 ((apS1 (cutC p0) 2)) ((apD1 (cutC p0) 2)) ((apS1 (cutC p0) 2)) ((apD1 (cutC p0) 2)))) ((comD 6 ((apS1 (cutC p0) 2)) ((apD1 (cutC p0) 2)) ((apS1 (cutC p0) 2)) ((apD1 (cutC p0) 2))))) : Int) == 1) then
  (bif decide (((comS 7 ((apS1 (cutC p0) 2)) ((apD1 (cutC p0) 2)) ((apS1 (cutC p0) 2)) ((apD1 (cutC p0) 2)))).length < 9223372036854775808) && decide (((comD 7 ((apS1 (cutC p0) 2)) ((apD1 (cutC p0) 2)) ((apS1 (cutC p0) 2)) ((apD1 (cutC p0) 2)))).length < 9223372036854775808) then
  (bif (decide (((rallV 5 ((comS 7 ((apS1 (cutC p0) 2)) ((apD1 (cutC p0) 2)) ((apS1 (cutC p0) 2)) ((apD1 (cutC p0) 2)))) ((comD 7 ((apS1 (cutC p0) 2)) ((apD1 (cutC p0) 2)) ((apS1 (cutC p0) 2)) ((apD1 (cutC p0) 2))))) : Int) ≤ 0)) then
  (bif decide (((comS 4 ((apS1 (cutC p0) 2)) ((apD1 (cutC p0) 2)) ((apS1 (cutC p0) 2)) ((apD1 (cutC p0) 2)))).length < 9223372036854775808) && decide (((comD 4 ((apS1 (cutC p0) 2)) ((apD1 (cutC p0) 2)) ((apS1 (cutC p0) 2)) ((apD1 (cutC p0) 2)))).length < 9223372036854775808) && decide (((apS1 (cutC p0) 2)).length < 9223372036854775808) && decide (((apD1 (cutC p0) 2)).length < 9223372036854775808) then
  some ([.one ((.bool (decide (((comS 4 ((apS1 (cutC p0) 2)) ((apD1 (cutC p0) 2)) ((apS1 (cutC p0) 2)) ((apD1 (cutC p0) 2)))) = ((apS1 (cutC p0) 2))) && decide (((comD 4 ((apS1 (cutC p0) 2)) ((apD1 (cutC p0) 2)) ((apS1 (cutC p0) 2)) ((apD1 (cutC p0) 2)))) = ((apD1 (cutC p0) 2))))), false)], [])
  else
  none)
  else
  some ([.one ((.bool false), false)], []))
  else
  none)
  else
  some ([.one ((.bool false), false)], []))
  else
  none)
  else
  some ([.one ((.bool false), false)], []))
  else
  some ([.one ((.bool false), false)], []))
  else
  some ([.one ((.bool false), false)], []))
  else
  none)
  else
  none)
  else
  none))
  else
  none)))
  else
  none)
  else
  none)
  else
  none)
  else
  none)) := by kernel_rfl
end laws_FnCombineSelf
theorem laws_FnCombineSelf.ok_of (hX : ∀ E ∈ laws_FnCombineSelf.X, CallSpec Try.prog E) (h : ∀ (bs : List Int), (bytesB bs) = true → ∃ fuel, runF Try.prog laws_FnCombineSelf.X laws_FnCombineSelf.I 0 fuel 8 Try.f8 [.d (.ints .u8 bs)] = some ([.one ((.bool true), false)], [])) : CallSpec Try.prog laws_FnCombineSelf.E :=
  callSpec_of (d := 0) hX (by kernel_rfl) laws_FnCombineSelf.I_ok (by kernel_rfl) (by kernel_rfl) (by kernel_rfl) (fun _ _ _ _ h => by dsimp only [laws_FnCombineSelf.E] at h; cases h) (fun xs hp => by
    dsimp only [laws_FnCombineSelf.E] at hp ⊢
    split at hp
    · exact h _ hp
    · cases hp)
theorem laws_FnCombineSelf.ok : CallSpec Try.prog laws_FnCombineSelf.E := laws_FnCombineSelf.ok_of (by simp [laws_FnCombineSelf.X, spec_DrawCombine.ok, impl_Combine.ok, spec_Combine.ok, laws_equalArray.ok, impl_ValidArray.ok, impl_ReduceAll.ok]) fun bs h => by
  obtain ⟨F, hF⟩ : ∃ F : Nat, 4000 < F := ⟨4001, by omega⟩
  refine ⟨F, ?_⟩
  rw [laws_FnCombineSelf.e]
  by_cases hl : ((bs.length : Nat) : Int) > 1048576
  · rw [decide_eq_true hl]; rfl
  rw [decide_eq_false hl, cond_false, h, cond_true]
  have r0 := cut_ok h (p := 0) (by omega) (by omega)
  obtain ⟨a1, a2, a3, a4, _, _⟩ := ap_bd (rd_le (q := 2) r0 (by omega) (by omega)) (by omega)
  obtain ⟨op, hop⟩ : ∃ x, anyOpV (cutC bs) 0 = x := ⟨_, rfl⟩
  obtain ⟨s1, hs1⟩ : ∃ x, apS1 (cutC bs) 2 = x := ⟨_, rfl⟩
  obtain ⟨d1, hd1⟩ : ∃ x, apD1 (cutC bs) 2 = x := ⟨_, rfl⟩
  obtain ⟨s2, hs2⟩ : ∃ x, apS2 (cutC bs) 2 = x := ⟨_, rfl⟩
  obtain ⟨d2, hd2⟩ : ∃ x, apD2 (cutC bs) 2 = x := ⟨_, rfl⟩
  rw [hs1] at a1
  rw [hd1] at a2
  rw [hs2] at a3
  rw [hd2] at a4
  have g1 := lt_of (xs := s1) (by omega)
  have g2 := lt_of (xs := d1) (by omega)
  have g3 := lt_of (xs := s2) (by omega)
  have g4 := lt_of (xs := d2) (by omega)
  have cl := com_len op s1 d1 s2 d2
  have g5 := lt_of (xs := comS op s1 d1 s2 d2) (by omega)
  have g6 := lt_of (xs := comD op s1 d1 s2 d2) (by omega)
  simp only [hop, hs1, hd1, hs2, hd2]
  cases hv : validA s1 d1 with
  | false => simp only [Bool.and_self, Bool.and_true, Bool.true_and, cond_true, cond_false, Bool.not_true, Bool.not_false, bne_self_eq_false, beq_self_eq_true, decide_true, eq_self, g1, g2, g3, g4, g5, g6, hv]
  | true =>
    have hlv := validA_len hv
    obtain ⟨x1, x2, x3⟩ := com_same (op := 6) rfl hv hv
    obtain ⟨y1, y2, y3⟩ := com_same (op := 7) rfl hv hv
    obtain ⟨z1, z2, z3⟩ := com_same (op := 4) rfl hv hv
    have e6 : (tab d1.length fun i => operF 6 (d1.getD i 0) (d1.getD i 0)) = List.replicate d1.length 1 := tab_const fun i hi => by
      show tInt (d1.getD i 0 == d1.getD i 0) = 1
      rw [beq_self_eq_true]; rfl
    have e7 : (tab d1.length fun i => operF 7 (d1.getD i 0) (d1.getD i 0)) = List.replicate d1.length 0 := tab_const fun i hi => by
      show tInt (decide (d1.getD i 0 < d1.getD i 0)) = 0
      rw [decide_eq_false (by omega)]; rfl
    have e4 : (tab d1.length fun i => operF 4 (d1.getD i 0) (d1.getD i 0)) = d1 := by
      symm
      refine tab_ext rfl fun i hi => ?_
      show d1.getD i 0 = minI (d1.getD i 0) (d1.getD i 0)
      unfold minI
      split <;> rfl
    rw [e6] at x3
    rw [e7] at y3
    rw [e4] at z3
    have v6 : validA s1 (List.replicate d1.length 1) = true := valid_same hv (by simp) fun i hi => by
      rw [List.length_replicate] at hi
      simp [hi, numB]
    have v7 : validA s1 (List.replicate d1.length 0) = true := valid_same hv (by simp) fun i hi => by
      rw [List.length_replicate] at hi
      simp [hi, numB]
    have o3 : opOk 3 = true := rfl
    have o5 : opOk 5 = true := rfl
    have r5 : decide (redF 5 (List.replicate d1.length 0) ≤ 0) = true := decide_eq_true (red_zeros _)
    have g7 := lt_of (xs := List.replicate d1.length (1 : Int)) (by rw [List.length_replicate]; omega)
    have g8 := lt_of (xs := List.replicate d1.length (0 : Int)) (by rw [List.length_replicate]; omega)
    simp only [Bool.and_self, Bool.and_true, Bool.true_and, cond_true, cond_false, Bool.not_true, Bool.not_false, bne_self_eq_false, beq_self_eq_true, decide_true, eq_self, g1, g2, g3, g4, g5, g6, g7, g8, hv, x1, x2, x3, y1, y2, y3, z1, z2, z3, rallV, o3, o5, v6, v7, red_ones, r5]

end Go.Ab
