import Derived.Test.YtpafnakefbnofaeEv1
import Derived.Test.YtpafnakefbnofaeProg
import Derived.Test.YtpafnakefbnofaeChecked
open Go Go.Ab Go.Proofs
set_option maxRecDepth 100000
set_option linter.unusedVariables false
set_option linter.unusedSimpArgs false
namespace Go.Ab
namespace spec_fold
noncomputable def E : Entry := ⟨52, true, false, fun | [.d (.int .i64 op), .d (.ints .i64 xs)] => opOk op && decide (xs.length < 9223372036854775808) | _ => false, fun | [.d (.int .i64 op), .d (.ints .i64 xs)] => ([.one ((.int .i64 (redF op xs)), false)], []) | _ => ([], []), fun _ => [], false, fun _ => none⟩
end spec_fold
namespace spec_fold
noncomputable def X : List Entry := [spec_neutral.E, spec_operate.E]
noncomputable def I : List Inl := [⟨52, Try.f52, ⟨[], [(1000005, [2, 3, 4, 7, 8, 9, 10, 11, 12, 13, 14, 15, 16, 17, 18, 19, 20, 21, 22, 23, 24, 25, 26, 27, 28, 29, 30, 31, 32])], [], [], [], []⟩⟩]
theorem I_ok : ∀ i ∈ I, Try.prog.funcs[i.f]? = some i.fn ∧ (i.fn.name == "runtime.NumGoroutine") = false := by
  intro i hi
  simp only [I, List.mem_cons, List.not_mem_nil, or_false] at hi
  subst hi
  exact ⟨by kernel_rfl, by kernel_rfl⟩
noncomputable abbrev L0 (fuel n : Nat) (s : St) (k : Kont) := lAt Try.prog X I fuel true 0 false 52 (bodyOf Try.f52) [1, 1, 1, 0, 1, 0] n s k
noncomputable abbrev k0  (fuel : Nat) : Kont := (kAt Try.prog X I fuel true 0 false 52 (bodyOf Try.f52) [1, 1, 1, 0, 1, 0] [] (endK Try.prog Try.f52))
noncomputable def t0 (p0 : Int) (p1 : List Int) (x0q2 : Int) (x0q3 : Int) : St := ⟨[(.imm (.int .i64 p0)), (.imm (.ints .i64 p1)), .dead, .dead, .dead, (.imm (.int .i64 x0q2)), (.imm (.int .i64 x0q3)), .dead, .dead, .dead, .dead, .dead, .dead, .dead, .dead, .dead, .dead, .dead, .dead, .dead, .dead, .dead, .dead, .dead, .dead, .dead, .dead, .dead, .dead, .dead, .dead, .dead, .dead], hOf [], [], []⟩
theorem e (fuel : Nat) (p0 : Int) (p1 : List Int) : runF Try.prog X I 0 fuel 52 Try.f52 [.d (.int .i64 p0), .d (.ints .i64 p1)] =
  (bif ((((p1.length : Nat) : Int) : Int) == 0) then
  (bif opOk p0 then
  some ([.one ((.int .i64 (neuF p0)), false)], [])
  else
  none)
  else
  (idx (IntKind.wrap .i64 (((p1.length : Nat) : Int) - 1)) p1.length).bind fun j1 =>
  (p1[j1]?).bind fun v2 =>
  L0 fuel fuel (t0 p0 p1 v2 ((IntKind.wrap .i64 (((p1.length : Nat) : Int) - 2)))) (k0  fuel)) := by kernel_rfl
theorem s0 (fuel n0 : Nat) (p0 : Int) (p1 : List Int) (x0q2 : Int) (x0q3 : Int) : L0 fuel (n0 + 1) (t0 p0 p1 x0q2 x0q3) (k0  fuel) =
  (bif (decide ((x0q3 : Int) ≥ 0)) then
  (idx x0q3 p1.length).bind fun j7 =>
  (p1[j7]?).bind fun v8 =>
  L0 fuel n0 (t0 p0 p1 ((operF p0 v8 x0q2)) ((IntKind.wrap .i64 (x0q3 - 1)))) (k0  fuel)
  else
  some ([.one ((.int .i64 x0q2), false)], [])) := by kernel_rfl
end spec_fold
theorem spec_fold.ok_of (hX : ∀ E ∈ spec_fold.X, CallSpec Try.prog E) (h : ∀ (op : Int) (xs : List Int), (opOk op && decide (xs.length < 9223372036854775808)) = true → ∃ fuel, runF Try.prog spec_fold.X spec_fold.I 0 fuel 52 Try.f52 [.d (.int .i64 op), .d (.ints .i64 xs)] = some ([.one ((.int .i64 (redF op xs)), false)], [])) : CallSpec Try.prog spec_fold.E :=
  callSpec_of (d := 0) hX (by kernel_rfl) spec_fold.I_ok (by kernel_rfl) (by kernel_rfl) (by kernel_rfl) (fun _ _ _ _ h => by dsimp only [spec_fold.E] at h; cases h) (fun xs hp => by
    dsimp only [spec_fold.E] at hp ⊢
    split at hp
    · exact h _ _ hp
    · cases hp)
theorem spec_fold.ok : CallSpec Try.prog spec_fold.E := spec_fold.ok_of (by simp [spec_fold.X, spec_neutral.ok, spec_operate.ok]) fun op xs h => ⟨xs.length + 1, by
  simp only [Bool.and_eq_true, decide_eq_true_eq] at h
  rw [spec_fold.e, len0]
  by_cases h0 : xs.length = 0
  · have h0' := List.length_eq_zero_iff.mp h0
    subst h0'
    rw [decide_eq_true h0, h.1]
    simp only [cond_true, redF, neuV, h.1]
  · obtain ⟨k, hk⟩ : ∃ k, xs.length = k + 1 := ⟨xs.length - 1, by omega⟩
    have e1 : ((xs.length : Nat) : Int) - 1 = (k : Int) := by omega
    have hkl : k < xs.length := by omega
    rw [decide_eq_false h0, cond_false, wS (by omega) (by omega), wS (by omega) (by omega), e1, idx_nat hkl]
    simp only [Option.bind_some, getD_get hkl]
    rw [show ((xs.length : Nat) : Int) - 2 = (k : Int) - 1 - ((0 : Nat) : Int) by omega]
    refine run_loop (N := k) (fun n j acc => spec_fold.L0 (xs.length + 1) n (spec_fold.t0 op xs acc ((k : Int) - 1 - (j : Int))) (spec_fold.k0 (xs.length + 1))) (fun j acc => acc = redF op (xs.drop (k - j))) ?_ ?_ (xs.length + 1) 0 _ (by omega) (by omega) (by rw [Nat.sub_zero, redF_last (by omega)])
    · intro n acc ho
      rw [spec_fold.s0, decide_eq_false (by omega), ho, Nat.sub_self, List.drop_zero]
      rfl
    · intro n j acc hj ho
      obtain ⟨i, hi⟩ : ∃ i, k - j = i + 1 := ⟨k - j - 1, by omega⟩
      have hil : i < xs.length := by omega
      have e1 : (k : Int) - 1 - (j : Int) = (i : Int) := by omega
      rw [e1, spec_fold.s0, decide_eq_true (by omega), idx_nat hil, wS (by omega) (by omega)]
      simp only [cond_true, Option.bind_some, getD_get hil]
      refine ⟨_, ?_, by rw [show (k : Int) - 1 - ((j + 1 : Nat) : Int) = (i : Int) - 1 by omega]⟩
      rw [ho, hi, show k - (j + 1) = i by omega]
      exact (redF_drop (by omega)).symm⟩

namespace spec_InnerProduct
noncomputable def E : Entry := ⟨31, false, false, fun | [.d (.int .i64 f), .d (.int .i64 g), .d (.agg [(.ints .i64 sa), (.ints .i64 da)]), .d (.agg [(.ints .i64 sb), (.ints .i64 db)])] => decide (sa.length < 9223372036854775808) && decide (da.length < 9223372036854775808) && decide (sb.length < 9223372036854775808) && decide (db.length < 9223372036854775808) | _ => false, fun | [.d (.int .i64 f), .d (.int .i64 g), .d (.agg [(.ints .i64 sa), (.ints .i64 da)]), .d (.agg [(.ints .i64 sb), (.ints .i64 db)])] => ([.agg [((.ints .i64 (inS f g sa da sb db)), true), ((.ints .i64 (inD f g sa da sb db)), true)], .one ((.bool (inB f g sa da sb db)), false)], []) | _ => ([], []), fun _ => [], true, fun _ => none⟩
end spec_InnerProduct
namespace spec_InnerProduct
noncomputable def X : List Entry := [spec_validOp.E, spec_valid.E, spec_validShape.E, spec_volume.E, spec_lane.E, spec_vector.E, spec_combine.E, spec_fold.E, spec_make1.E]
noncomputable def I : List Inl := [⟨31, Try.f31, ⟨[102, 105, 110, 112, 113, 120], [(1000009, [2, 3, 4, 5, 9, 14, 15, 16, 17, 18, 19, 20, 21, 22, 23, 24, 25, 26, 27, 28, 29, 30, 31, 32, 33, 34, 35, 36, 37, 38, 39, 40, 41, 42, 43, 44, 45, 46, 47, 48, 49, 50, 51, 52, 53, 54, 55, 56, 57, 58, 59, 60, 61, 62, 63, 64, 65, 66, 67, 68, 69, 70, 71, 72, 73, 74, 75, 76, 77, 78, 79, 80, 81, 82, 83, 84, 85, 86, 87, 88, 89, 90, 91, 92, 93, 94, 95, 96, 97, 98, 99, 100, 101, 102, 103, 104, 105, 106, 107, 108, 109, 110, 111, 112, 113, 114, 115, 116, 117, 118, 119, 120]), (1000012, [2, 3, 4, 5, 9, 15, 16, 17, 18, 19, 20, 21, 22, 23, 24, 25, 26, 27, 28, 29, 30, 31, 32, 33, 34, 35, 36, 37, 38, 39, 40, 41, 42, 43, 44, 45, 46, 47, 48, 49, 50, 51, 52, 53, 54, 55, 56, 57, 58, 59, 60, 61, 62, 63, 64, 65, 66, 67, 68, 69, 70, 71, 72, 73, 74, 75, 76, 77, 78, 79, 80, 81, 82, 83, 84, 85, 86, 87, 88, 89, 90, 91, 92, 93, 94, 95, 96, 97, 98, 99, 100, 101, 102, 103, 104, 105, 106, 107, 108, 109, 110, 111, 112, 113, 114, 115, 116, 117, 118, 119, 120])], [(4, [7])], [(1, [0, 1, 2, 3, 4, 5, 6, 7, 8, 9, 10, 11, 12, 13, 14, 15, 16, 17, 18, 19, 20, 21, 22, 23, 24, 25, 26, 27, 28, 29, 30, 31, 33, 39, 32, 34, 35, 36, 37, 38, 40, 41, 42, 43, 44]), (4, [1, 3, 6, 7, 8, 2, 4, 0, 5, 9, 10])], [74, 75], []⟩⟩]
theorem I_ok : ∀ i ∈ I, Try.prog.funcs[i.f]? = some i.fn ∧ (i.fn.name == "runtime.NumGoroutine") = false := by
  intro i hi
  simp only [I, List.mem_cons, List.not_mem_nil, or_false] at hi
  subst hi
  exact ⟨by kernel_rfl, by kernel_rfl⟩
noncomputable abbrev L0 (fuel n : Nat) (s : St) (k : Kont) := lAt Try.prog X I fuel true 0 false 31 (bodyOf Try.f31) [1, 1, 1, 1, 1, 1, 0, 1, 0] n s k
noncomputable abbrev k0  (fuel : Nat) : Kont := (kAt Try.prog X I fuel true 0 false 31 (bodyOf Try.f31) [1, 1, 1, 1, 1, 1, 0, 1, 0] [] (endK Try.prog Try.f31))
noncomputable def t0 (p0 : Int) (p1 : Int) (p3q0 : List Int) (p3q1 : List Int) (p2q0 : List Int) (p2q1 : List Int) (cq6 : Nat × Nat) (cq5 : Nat × Nat) (x0q5 : Int) (x0q9 : List Int) : St := ⟨[(.imm (.int .i64 p0)), (.imm (.int .i64 p1)), .dead, .dead, .dead, .dead, (.ptr 1000000000 0 0), (.dptr [(.ints .i64 p3q0), (.ints .i64 p3q1)] 0), (.ptr 1000000001 0 0), .dead, (.imm (.int .i64 (IntKind.wrap .i64 (((p2q0.length : Nat) : Int) - 1)))), (.all 1000000002 1), (.all 1000000003 1), (.imm (.int .i64 x0q5)), .dead, .dead, .dead, .dead, .dead, .dead, .dead, .dead, .dead, .dead, .dead, .dead, .dead, .dead, .dead, .dead, .dead, .dead, .dead, .dead, .dead, .dead, .dead, .dead, .dead, .dead, .dead, .dead, .dead, .dead, .dead, .dead, .dead, .dead, .dead, .dead, .dead, .dead, .dead, .dead, .dead, .dead, .dead, .dead, .dead, .dead, .dead, .dead, .dead, .dead, .dead, .dead, .dead, .dead, .dead, .dead, .dead, .dead, .dead, .dead, .dead, .dead, .dead, .dead, .dead, .dead, .dead, .dead, .dead, .dead, .dead, .dead, .dead, .dead, .dead, .dead, .dead, .dead, .dead, .dead, .dead, .dead, .dead, .dead, .dead, .dead, .dead, .dead, .dead, .dead, .dead, .dead, .dead, .dead, .dead, .dead, .dead, .dead, .dead, .dead, .dead, .dead, .dead, .dead, .dead, .dead, .dead], hOf [(1000000000, (.box [(.imm (.ints .i64 p2q0)), (.imm (.ints .i64 p2q1))])), (1000000001, (.box [(.imm .nils), (.imm .nils)])), (1000000002, (.ints .i64 ((([] : List Int) ++ ((p2q0.drop cq6.1).take (cq6.2 - cq6.1))) ++ ((p3q0.drop cq5.1).take (cq5.2 - cq5.1))))), (1000000003, (.ints .i64 x0q9))], [], []⟩
noncomputable abbrev L1 (fuel n : Nat) (s : St) (k : Kont) := lAt Try.prog X I fuel true 0 false 31 (bodyOf Try.f31) [1, 1, 1, 1, 1, 1, 0, 1, 0, 0, 1, 0, 0, 1, 0] n s k
noncomputable abbrev k1 (n0 : Nat) (fuel : Nat) : Kont := (kAt Try.prog X I fuel true 0 false 31 (bodyOf Try.f31) [1, 1, 1, 1, 1, 1, 0, 1, 0, 0, 1, 0, 0, 1, 0] [n0] (endK Try.prog Try.f31))
noncomputable def t1 (p0 : Int) (p1 : Int) (p3q0 : List Int) (p3q1 : List Int) (p2q0 : List Int) (x0q5 : Int) (p2q1 : List Int) (cq6 : Nat × Nat) (cq5 : Nat × Nat) (x1q6 : Int) (x1q10 : List Int) : St := ⟨[(.imm (.int .i64 p0)), (.imm (.int .i64 p1)), .dead, .dead, .dead, .dead, (.ptr 1000000000 0 0), (.dptr [(.ints .i64 p3q0), (.ints .i64 p3q1)] 0), (.ptr 1000000001 0 0), .dead, (.imm (.int .i64 (IntKind.wrap .i64 (((p2q0.length : Nat) : Int) - 1)))), (.all 1000000002 1), (.all 1000000003 1), (.imm (.int .i64 x0q5)), (.imm (.int .i64 x1q6)), .dead, .dead, .dead, .dead, .dead, .dead, .dead, .dead, .dead, .dead, .dead, .dead, .dead, .dead, .dead, .dead, .dead, .dead, .dead, .dead, .dead, .dead, .dead, .dead, .dead, .dead, .dead, .dead, .dead, .dead, .dead, .dead, .dead, .dead, .dead, .dead, .dead, .dead, .dead, .dead, .dead, .dead, .dead, .dead, .dead, .dead, .dead, .dead, .dead, .dead, .dead, .dead, .dead, .dead, .dead, .dead, .dead, .dead, .dead, .dead, .dead, .dead, .dead, .dead, .dead, .dead, .dead, .dead, .dead, .dead, .dead, .dead, .dead, .dead, .dead, .dead, .dead, .dead, .dead, .dead, .dead, .dead, .dead, .dead, .dead, .dead, .dead, .dead, .dead, .dead, .dead, .dead, .dead, .dead, .dead, .dead, .dead, .dead, .dead, .dead, .dead, .dead, .dead, .dead, .dead, .dead], hOf [(1000000000, (.box [(.imm (.ints .i64 p2q0)), (.imm (.ints .i64 p2q1))])), (1000000001, (.box [(.imm .nils), (.imm .nils)])), (1000000002, (.ints .i64 ((([] : List Int) ++ ((p2q0.drop cq6.1).take (cq6.2 - cq6.1))) ++ ((p3q0.drop cq5.1).take (cq5.2 - cq5.1))))), (1000000003, (.ints .i64 x1q10))], [], []⟩
theorem e (fuel : Nat) (p0 : Int) (p1 : Int) (p2q0 : List Int) (p2q1 : List Int) (p3q0 : List Int) (p3q1 : List Int) : runF Try.prog X I 0 fuel 31 Try.f31 [.d (.int .i64 p0), .d (.int .i64 p1), .d (.agg [(.ints .i64 p2q0), (.ints .i64 p2q1)]), .d (.agg [(.ints .i64 p3q0), (.ints .i64 p3q1)])] =
  (bif (!(opOk p0)) then
  some ([.agg [((.ints .i64 []), true), ((.ints .i64 []), true)], .one ((.bool false), false)], [])
  else
  (bif (!(opOk p1)) then
  some ([.agg [((.ints .i64 []), true), ((.ints .i64 []), true)], .one ((.bool false), false)], [])
  else
  (bif decide (p2q0.length < 9223372036854775808) && decide (p2q1.length < 9223372036854775808) then
  (bif (!(validA p2q0 p2q1)) then
  some ([.agg [((.ints .i64 []), true), ((.ints .i64 []), true)], .one ((.bool false), false)], [])
  else
  (bif decide (p3q0.length < 9223372036854775808) && decide (p3q1.length < 9223372036854775808) then
  (bif (!(validA p3q0 p3q1)) then
  some ([.agg [((.ints .i64 []), true), ((.ints .i64 []), true)], .one ((.bool false), false)], [])
  else
  (bif ((((p2q0.length : Nat) : Int) : Int) == 0) then
  some ([.agg [((.ints .i64 []), true), ((.ints .i64 []), true)], .one ((.bool false), false)], [])
  else
  (bif ((((p3q0.length : Nat) : Int) : Int) == 0) then
  some ([.agg [((.ints .i64 []), true), ((.ints .i64 []), true)], .one ((.bool false), false)], [])
  else
  (idx (IntKind.wrap .i64 (((p2q0.length : Nat) : Int) - 1)) p2q0.length).bind fun j1 =>
  (p2q0[j1]?).bind fun v2 =>
  (idx 0 p3q0.length).bind fun j3 =>
  (p3q0[j3]?).bind fun v4 =>
  (bif ((v2 : Int) != v4) then
  some ([.agg [((.ints .i64 []), true), ((.ints .i64 []), true)], .one ((.bool false), false)], [])
  else
  (cutEnds p3q0.length (some (.imm (.int .i64 1))) (none)).bind fun cq5 =>
  (cutEnds p2q0.length (none) (some (.imm (.int .i64 (IntKind.wrap .i64 (((p2q0.length : Nat) : Int) - 1)))))).bind fun cq6 =>
  (bif fits (([] : List Int).length + ((p2q0.drop cq6.1).take (cq6.2 - cq6.1)).length) 8 then
  (bif fits ((([] : List Int) ++ ((p2q0.drop cq6.1).take (cq6.2 - cq6.1))).length + ((p3q0.drop cq5.1).take (cq5.2 - cq5.1)).length) 8 then
  (bif decide ((((([] : List Int) ++ ((p2q0.drop cq6.1).take (cq6.2 - cq6.1))) ++ ((p3q0.drop cq5.1).take (cq5.2 - cq5.1)))).length < 9223372036854775808) then
  (bif (!(validS (((([] : List Int) ++ ((p2q0.drop cq6.1).take (cq6.2 - cq6.1))) ++ ((p3q0.drop cq5.1).take (cq5.2 - cq5.1)))))) then
  some ([.agg [((.ints .i64 []), true), ((.ints .i64 []), true)], .one ((.bool false), false)], [])
  else
  L0 fuel fuel (t0 p0 p1 p3q0 p3q1 p2q0 p2q1 cq6 cq5 0 ([])) (k0  fuel))
  else
  none)
  else
  none)
  else
  none)))))
  else
  none))
  else
  none))) := by kernel_rfl
theorem s0 (fuel n0 : Nat) (p0 : Int) (p1 : Int) (p3q0 : List Int) (p3q1 : List Int) (p2q0 : List Int) (p2q1 : List Int) (cq6 : Nat × Nat) (cq5 : Nat × Nat) (x0q5 : Int) (x0q9 : List Int) : L0 fuel (n0 + 1) (t0 p0 p1 p3q0 p3q1 p2q0 p2q1 cq6 cq5 x0q5 x0q9) (k0  fuel) =
  (cutEnds p2q0.length (none) (some (.imm (.int .i64 (IntKind.wrap .i64 (((p2q0.length : Nat) : Int) - 1)))))).bind fun cq14 =>
  (bif decide ((((p2q0.drop cq14.1).take (cq14.2 - cq14.1))).length < 9223372036854775808) then
  (bif (decide ((x0q5 : Int) < (volW (((p2q0.drop cq14.1).take (cq14.2 - cq14.1)))))) then
  L1 fuel fuel (t1 p0 p1 p3q0 p3q1 p2q0 x0q5 p2q1 cq6 cq5 0 x0q9) (k1 n0 fuel)
  else
  (bif szB (((([] : List Int) ++ ((p2q0.drop cq6.1).take (cq6.2 - cq6.1))) ++ ((p3q0.drop cq5.1).take (cq5.2 - cq5.1)))) && szB x0q9 then
  some ([.agg [((.ints .i64 (((([] : List Int) ++ ((p2q0.drop cq6.1).take (cq6.2 - cq6.1))) ++ ((p3q0.drop cq5.1).take (cq5.2 - cq5.1))))), true), ((.ints .i64 x0q9), true)], .one ((.bool true), false)], [])
  else
  none))
  else
  none) := by kernel_rfl
theorem s1 (fuel n0 n1 : Nat) (p0 : Int) (p1 : Int) (p3q0 : List Int) (p3q1 : List Int) (p2q0 : List Int) (x0q5 : Int) (p2q1 : List Int) (cq6 : Nat × Nat) (cq5 : Nat × Nat) (x1q6 : Int) (x1q10 : List Int) : L1 fuel (n1 + 1) (t1 p0 p1 p3q0 p3q1 p2q0 x0q5 p2q1 cq6 cq5 x1q6 x1q10) (k1 n0 fuel) =
  (cutEnds p3q0.length (some (.imm (.int .i64 1))) (none)).bind fun cq16 =>
  (bif decide ((((p3q0.drop cq16.1).take (cq16.2 - cq16.1))).length < 9223372036854775808) then
  (bif (decide ((x1q6 : Int) < (volW (((p3q0.drop cq16.1).take (cq16.2 - cq16.1)))))) then
  (bif axB p2q0 p2q1 ((IntKind.wrap .i64 (((p2q0.length : Nat) : Int) - 1))) && laneB p2q0 ((IntKind.wrap .i64 (((p2q0.length : Nat) : Int) - 1))) x0q5 0 then
  (bif axB p3q0 p3q1 0 && laneB p3q0 0 0 x1q6 then
  (bif szB ((lnK p2q0 p2q1 ((IntKind.wrap .i64 (((p2q0.length : Nat) : Int) - 1))) (Int.toNat x0q5) (Int.toNat 0))) then
  (bif szB ((lnK p3q0 p3q1 0 (Int.toNat 0) (Int.toNat x1q6))) then
  (bif validA ([((((lnK p2q0 p2q1 ((IntKind.wrap .i64 (((p2q0.length : Nat) : Int) - 1))) (Int.toNat x0q5) (Int.toNat 0))).length : Nat) : Int)]) (((lnK p2q0 p2q1 ((IntKind.wrap .i64 (((p2q0.length : Nat) : Int) - 1))) (Int.toNat x0q5) (Int.toNat 0)))) && validA ([((((lnK p3q0 p3q1 0 (Int.toNat 0) (Int.toNat x1q6))).length : Nat) : Int)]) (((lnK p3q0 p3q1 0 (Int.toNat 0) (Int.toNat x1q6)))) && fitB ([((((lnK p2q0 p2q1 ((IntKind.wrap .i64 (((p2q0.length : Nat) : Int) - 1))) (Int.toNat x0q5) (Int.toNat 0))).length : Nat) : Int)]) ([((((lnK p3q0 p3q1 0 (Int.toNat 0) (Int.toNat x1q6))).length : Nat) : Int)]) then
  (bif opOk p0 && decide (((cD p1 ([((((lnK p2q0 p2q1 ((IntKind.wrap .i64 (((p2q0.length : Nat) : Int) - 1))) (Int.toNat x0q5) (Int.toNat 0))).length : Nat) : Int)]) (((lnK p2q0 p2q1 ((IntKind.wrap .i64 (((p2q0.length : Nat) : Int) - 1))) (Int.toNat x0q5) (Int.toNat 0)))) ([((((lnK p3q0 p3q1 0 (Int.toNat 0) (Int.toNat x1q6))).length : Nat) : Int)]) (((lnK p3q0 p3q1 0 (Int.toNat 0) (Int.toNat x1q6)))))).length < 9223372036854775808) then
  (bif fits (x1q10.length + ([(redF p0 ((cD p1 ([((((lnK p2q0 p2q1 ((IntKind.wrap .i64 (((p2q0.length : Nat) : Int) - 1))) (Int.toNat x0q5) (Int.toNat 0))).length : Nat) : Int)]) (((lnK p2q0 p2q1 ((IntKind.wrap .i64 (((p2q0.length : Nat) : Int) - 1))) (Int.toNat x0q5) (Int.toNat 0)))) ([((((lnK p3q0 p3q1 0 (Int.toNat 0) (Int.toNat x1q6))).length : Nat) : Int)]) (((lnK p3q0 p3q1 0 (Int.toNat 0) (Int.toNat x1q6)))))))] : List Int).length) 8 then
  L1 fuel n1 (t1 p0 p1 p3q0 p3q1 p2q0 x0q5 p2q1 cq6 cq5 ((IntKind.wrap .i64 (x1q6 + 1))) ((x1q10 ++ [(redF p0 ((cD p1 ([((((lnK p2q0 p2q1 ((IntKind.wrap .i64 (((p2q0.length : Nat) : Int) - 1))) (Int.toNat x0q5) (Int.toNat 0))).length : Nat) : Int)]) (((lnK p2q0 p2q1 ((IntKind.wrap .i64 (((p2q0.length : Nat) : Int) - 1))) (Int.toNat x0q5) (Int.toNat 0)))) ([((((lnK p3q0 p3q1 0 (Int.toNat 0) (Int.toNat x1q6))).length : Nat) : Int)]) (((lnK p3q0 p3q1 0 (Int.toNat 0) (Int.toNat x1q6)))))))]))) (k1 n0 fuel)
  else
  none)
  else
  none)
  else
  none)
  else
  none)
  else
  none)
  else
  none)
  else
  none)
  else
  L0 fuel n0 (t0 p0 p1 p3q0 p3q1 p2q0 p2q1 cq6 cq5 ((IntKind.wrap .i64 (x0q5 + 1))) x1q10) (k0  fuel))
  else
  none) := by kernel_rfl
end spec_InnerProduct
theorem spec_InnerProduct.ok_of (hX : ∀ E ∈ spec_InnerProduct.X, CallSpec Try.prog E) (h : ∀ (f : Int) (g : Int) (sa : List Int) (da : List Int) (sb : List Int) (db : List Int), (decide (sa.length < 9223372036854775808) && decide (da.length < 9223372036854775808) && decide (sb.length < 9223372036854775808) && decide (db.length < 9223372036854775808)) = true → ∃ fuel, runF Try.prog spec_InnerProduct.X spec_InnerProduct.I 0 fuel 31 Try.f31 [.d (.int .i64 f), .d (.int .i64 g), .d (.agg [(.ints .i64 sa), (.ints .i64 da)]), .d (.agg [(.ints .i64 sb), (.ints .i64 db)])] = some ([.agg [((.ints .i64 (inS f g sa da sb db)), true), ((.ints .i64 (inD f g sa da sb db)), true)], .one ((.bool (inB f g sa da sb db)), false)], [])) : CallSpec Try.prog spec_InnerProduct.E :=
  callSpec_of (d := 0) hX (by kernel_rfl) spec_InnerProduct.I_ok (by kernel_rfl) (by kernel_rfl) (by kernel_rfl) (fun _ _ _ _ h => by dsimp only [spec_InnerProduct.E] at h; cases h) (fun xs hp => by
    dsimp only [spec_InnerProduct.E] at hp ⊢
    split at hp
    · exact h _ _ _ _ _ _ hp
    · cases hp)
theorem spec_InnerProduct.inner (fuel n0 : Nat) (f g : Int) (sa da sb db : List Int) (hb : inB f g sa da sb db = true) (hf : 3600 < fuel) (c6 c5 : Nat × Nat) (i : Nat) (hi : i < befN sa (sa.length - 1)) :
    spec_InnerProduct.L1 fuel fuel (spec_InnerProduct.t1 f g sb db sa (i : Int) da c6 c5 0 ((inN f g sa da sb db).take (i * behN sb 0))) (spec_InnerProduct.k1 n0 fuel) = spec_InnerProduct.L0 fuel n0 (spec_InnerProduct.t0 f g sb db sa da c6 c5 ((IntKind.wrap .i64 ((i : Int) + 1))) ((inN f g sa da sb db).take ((i + 1) * behN sb 0))) (spec_InnerProduct.k0 fuel) := by
  obtain ⟨hA, hvs, hvol, h60⟩ := inB_A hb
  obtain ⟨a1, a2, a3, a4, a5, a6, a7⟩ := inA_inv hA
  simp only [inB, Bool.and_eq_true] at hb
  obtain ⟨ja, hja, hja2, hva, axa, hda, _⟩ := axB_inv a1
  obtain ⟨jb, hjb, hjb2, hvb, axb, hdb, _⟩ := axB_inv a2
  have hja3 : ja = sa.length - 1 := by omega
  have hjb3 : jb = 0 := by omega
  subst hja3
  subst hjb3
  have hr := axa.rank
  have hrb := axb.rank
  have hM := axb.beh_le
  have hLa := axa.len_le
  have hlN : (inN f g sa da sb db).length = befN sa (sa.length - 1) * behN sb 0 := by simp only [inN, tab_length, inSh_prod]
  have hprod := inSh_prod (sa := sa) (sb := sb)
  have hK : IntKind.wrap .i64 (((sa.length : Nat) : Int) - 1) = inK sa := by unfold inK; rw [wS (by omega) (by omega)]
  have c2 := cut_one (n := sb.length) (by omega)
  have hdr : (sb.drop 1).take (sb.length - 1) = sb.drop 1 := drop_take
  have hvd := axb.beh
  refine run_loop (N := behN sb 0) (fun n m out => spec_InnerProduct.L1 fuel n (spec_InnerProduct.t1 f g sb db sa (i : Int) da c6 c5 (m : Int) out) (spec_InnerProduct.k1 n0 fuel)) (fun m out => out = (inN f g sa da sb db).take (i * behN sb 0 + m)) ?_ ?_ fuel 0 _ (by omega) (by omega) rfl
  · intro n out ho
    rw [spec_InnerProduct.s1, c2]
    simp only [Option.bind_some, hdr]
    rw [lt_of (by simp only [List.length_drop]; omega), cond_true, hvd, dge (by omega), cond_false, ho, Nat.add_mul, Nat.one_mul]
  · intro n m out hm ho
    obtain ⟨e1, e2, e3⟩ := enc2 hi hm
    have hol : out.length = i * behN sb 0 + m := by rw [ho, take_len (by omega)]
    have hx : lnK sa da (inK sa) i 0 = inX sa da sb (i * behN sb 0 + m) := by rw [inX, e2]
    have hy : lnK sb db 0 0 m = inY sb db (i * behN sb 0 + m) := by rw [inY, e3]
    have l1 := inX_length (sa := sa) (da := da) (sb := sb) (n := i * behN sb 0 + m) a5
    have l2 := inY_length (sb := sb) (db := db) (n := i * behN sb 0 + m)
    have hl1 : laneB sa (inK sa) (i : Int) 0 = true := by
      simp only [laneB, a6, Int.toNat_natCast, a7, Bool.and_eq_true, decide_eq_true_eq]
      refine ⟨⟨⟨by omega, by omega⟩, by omega⟩, by omega⟩
    have hl2 : laneB sb 0 0 (m : Int) = true := by
      simp only [laneB, show (0 : Int).toNat = 0 from rfl, show befN sb 0 = 1 from rfl, Bool.and_eq_true, decide_eq_true_eq]
      refine ⟨⟨⟨by omega, by omega⟩, by omega⟩, by omega⟩
    obtain ⟨x1, x2, x3, x4, x5⟩ := inX_eq hA (n := i * behN sb 0 + m) (by omega)
    have v1 := lnD_valid hva hja2 (i := i) (m := 0) hi (by omega)
    have v2 := lnD_valid hvb hjb2 (i := 0) (m := m) (by rw [x5]; omega) hm
    rw [e2] at x1
    rw [e3] at x2
    rw [← x1] at v1
    rw [← x2] at v2
    have v1' : validA [(((inX sa da sb (i * behN sb 0 + m)).length : Nat) : Int)] (inX sa da sb (i * behN sb 0 + m)) = true := by rw [l1]; exact v1
    have v2' : validA [(((inY sb db (i * behN sb 0 + m)).length : Nat) : Int)] (inY sb db (i * behN sb 0 + m)) = true := by rw [l2]; exact v2
    have hfit : fitB [(((inX sa da sb (i * behN sb 0 + m)).length : Nat) : Int)] [(((inY sb db (i * behN sb 0 + m)).length : Nat) : Int)] = true := by
      rw [l1, l2, a3]
      simp [fitB]
    have hcd := cD_vec g (ys := inY sb db (i * behN sb 0 + m)) v1' (by omega)
    rw [spec_InnerProduct.s1, c2]
    simp only [Option.bind_some, hdr, hK, Int.toNat_natCast, show Int.toNat 0 = 0 from rfl]
    rw [lt_of (by simp only [List.length_drop]; omega), cond_true, hvd, dlt hm, cond_true, a1, a2, hl1, hl2, hx, hy, szB_of (by omega), szB_of (by omega), v1', v2', hfit, hcd, hb.1.1.1.1.1, lt_of (by rw [pwD_q2, tab_length]; omega), w1 (by omega)]
    simp only [Bool.and_self, cond_true]
    rw [fitsOk (by simp only [List.length_cons, List.length_nil]; omega), cond_true]
    refine ⟨_, ?_, rfl⟩
    rw [ho]
    refine take_push (by omega) ?_
    simp only [inN]
    rw [tab_getD (by omega)]
    rfl
theorem spec_InnerProduct.loop (fuel : Nat) (f g : Int) (sa da sb db : List Int) (hb : inB f g sa da sb db = true) (hf : 3600 < fuel) :
    spec_InnerProduct.L0 fuel fuel (spec_InnerProduct.t0 f g sb db sa da (0, sa.length - 1) (1, sb.length) 0 []) (spec_InnerProduct.k0 fuel) = some ([.agg [((.ints .i64 (inSh sa sb)), true), ((.ints .i64 (inN f g sa da sb db)), true)], .one ((.bool true), false)], []) := by
  obtain ⟨hA, hvs, hvol, h60⟩ := inB_A hb
  obtain ⟨a1, a2, a3, a4, a5, a6, a7⟩ := inA_inv hA
  obtain ⟨ja, hja, hja2, hva, axa, hda, _⟩ := axB_inv a1
  obtain ⟨jb, hjb, hjb2, hvb, axb, hdb, _⟩ := axB_inv a2
  have hja3 : ja = sa.length - 1 := by omega
  subst hja3
  have hr := axa.rank
  have hrb := axb.rank
  have hM := axa.bef_le
  have hK : IntKind.wrap .i64 (((sa.length : Nat) : Int) - 1) = ((sa.length - 1 : Nat) : Int) := by rw [wS (by omega) (by omega)]; omega
  have c1 : cutEnds sa.length none (some (.imm (.int .i64 ((sa.length - 1 : Nat) : Int)))) = some (0, sa.length - 1) := cut_hi (by omega)
  have hlN : (inN f g sa da sb db).length = befN sa (sa.length - 1) * behN sb 0 := by simp only [inN, tab_length, inSh_prod]
  have hprod := inSh_prod (sa := sa) (sb := sb)
  have htk : (sa.drop 0).take (sa.length - 1 - 0) = sa.take (sa.length - 1) := by rw [List.drop_zero, Nat.sub_zero]
  have hvt := axa.bef
  refine run_loop (N := befN sa (sa.length - 1)) (fun n i out => spec_InnerProduct.L0 fuel n (spec_InnerProduct.t0 f g sb db sa da (0, sa.length - 1) (1, sb.length) (i : Int) out) (spec_InnerProduct.k0 fuel)) (fun i out => out = (inN f g sa da sb db).take (i * behN sb 0)) ?_ ?_ fuel 0 _ (by omega) (by omega) (by simp)
  · intro n out ho
    rw [← hlN, List.take_length] at ho
    rw [spec_InnerProduct.s0, hK, c1]
    simp only [Option.bind_some, htk]
    rw [lt_of (by simp only [List.length_take]; omega), cond_true, hvt, dge (by omega), cond_false, List.nil_append, ← htk, in_parts, szB_of (by simp only [inSh, List.length_append, List.length_take, List.length_drop]; omega), szB_of (by rw [ho]; omega), ho]
    rfl
  · intro n i out hi ho
    rw [spec_InnerProduct.s0, hK, c1]
    simp only [Option.bind_some, htk]
    rw [lt_of (by simp only [List.length_take]; omega), cond_true, hvt, dlt hi, cond_true, ho, spec_InnerProduct.inner fuel n f g sa da sb db hb hf _ _ i hi, w1 (by omega)]
    exact ⟨_, rfl, rfl⟩
theorem spec_InnerProduct.ok : CallSpec Try.prog spec_InnerProduct.E := spec_InnerProduct.ok_of (by simp [spec_InnerProduct.X, spec_validOp.ok, spec_valid.ok, spec_validShape.ok, spec_volume.ok, spec_lane.ok, spec_vector.ok, spec_combine.ok, spec_fold.ok, spec_make1.ok]) fun f g sa da sb db h => by
  obtain ⟨F, hF⟩ : ∃ F : Nat, 3600 < F := ⟨3601, by omega⟩
  refine ⟨F, ?_⟩
  simp only [Bool.and_eq_true] at h
  rw [spec_InnerProduct.e, h.1.1.1, h.1.1.2, h.1.2, h.2]
  unfold inS inD
  cases h1 : opOk f with
  | false => simp only [inB, h1]; rfl
  | true =>
    cases h2 : opOk g with
    | false => simp only [inB, h1, h2]; rfl
    | true =>
      cases h3 : validA sa da with
      | false => simp only [inB, h1, h2, axB, h3]; rfl
      | true =>
        cases h4 : validA sb db with
        | false => simp only [inB, h1, h2, axB, h3, h4, Bool.false_and, Bool.and_false]; rfl
        | true =>
          have hr := (validS_inv (validA_inv h3).1).1
          have hrb := (validS_inv (validA_inv h4).1).1
          by_cases h5 : sa.length = 0
          · have : inB f g sa da sb db = false := by
              have : axOk sa (inK sa) = false := by simp only [axOk, inK]; simp; omega
              simp only [inB, axB, this, Bool.and_false, Bool.false_and]
            rw [this, h5]; rfl
          · have q5 : (((sa.length : Nat) : Int) == 0) = false := by rw [beq_eq_false_iff_ne]; omega
            by_cases h6 : sb.length = 0
            · have : inB f g sa da sb db = false := by
                have : axOk sb 0 = false := by rw [axOk, decide_eq_false (p := (0 : Int) < ((sb.length : Nat) : Int)) (by omega), Bool.and_false]
                simp only [inB, axB, this, Bool.and_false, Bool.false_and]
              rw [this, h6, q5]; rfl
            · have q6 : (((sb.length : Nat) : Int) == 0) = false := by rw [beq_eq_false_iff_ne]; omega
              have a1 : axB sa da (inK sa) = true := by
                rw [show inK sa = ((sa.length - 1 : Nat) : Int) by unfold inK; omega]; exact axB_of h3 (by omega)
              have a2 : axB sb db 0 = true := axB_of (k := 0) h4 (by omega)
              have axa := ax_of (validA_inv h3).1 (k := sa.length - 1) (by omega)
              have axb := ax_of (validA_inv h4).1 (k := 0) (by omega)
              have hK : IntKind.wrap .i64 (((sa.length : Nat) : Int) - 1) = ((sa.length - 1 : Nat) : Int) := by rw [wS (by omega) (by omega)]; omega
              have i0 : idx 0 sb.length = some 0 := idx_nat (j := 0) (by omega)
              have c1 : cutEnds sa.length none (some (.imm (.int .i64 ((sa.length - 1 : Nat) : Int)))) = some (0, sa.length - 1) := cut_hi (by omega)
              have c2 := cut_one (n := sb.length) (by omega)
              have g1 := getD_get (A := sa) (n := sa.length - 1) (by omega)
              have g2 := getD_get (A := sb) (n := 0) (by omega)
              rw [axa.len] at g1
              rw [axb.len] at g2
              rw [q5, q6, hK, idx_nat (j := sa.length - 1) (by omega), i0]
              simp only [Option.bind_some, g1, g2, c1, c2]
              by_cases h7 : lenN sa (sa.length - 1) = lenN sb 0
              · have hne : (((lenN sb 0 : Nat) : Int) != ((lenN sb 0 : Nat) : Int)) = false := by simp
                rw [h7, hne, fitsOk (by simp only [List.length_nil, List.length_take, List.length_drop]; omega), fitsOk (by simp only [List.length_nil, List.nil_append, List.length_take, List.length_drop]; omega), List.nil_append, in_parts, lt_of (by simp only [inSh, List.length_append, List.length_take, List.length_drop]; omega)]
                cases h8 : validS (inSh sa sb) with
                | false =>
                  have : inB f g sa da sb db = false := by simp only [inB, h8, Bool.and_false]
                  rw [this]; rfl
                | true =>
                  have hb : inB f g sa da sb db = true := by simp only [inB, h1, h2, a1, a2, h7, h8, decide_true, Bool.and_self]
                  rw [hb]
                  exact spec_InnerProduct.loop F f g sa da sb db hb hF
              · have hne : (((lenN sa (sa.length - 1) : Nat) : Int) != ((lenN sb 0 : Nat) : Int)) = true := by simp; omega
                have : inB f g sa da sb db = false := by simp only [inB, decide_eq_false h7, Bool.and_false, Bool.false_and]
                rw [hne, this]; rfl

namespace laws_equalInts
noncomputable def E : Entry := ⟨42, true, false, fun | [.d (.ints .i64 xs), .d (.ints .i64 ys)] => decide (xs.length < 9223372036854775808) && decide (ys.length < 9223372036854775808) | _ => false, fun | [.d (.ints .i64 xs), .d (.ints .i64 ys)] => ([.one ((.bool (decide (xs = ys))), false)], []) | _ => ([], []), fun _ => [], false, fun _ => none⟩
end laws_equalInts
namespace laws_equalInts
noncomputable def X : List Entry := []
noncomputable def I : List Inl := [⟨42, Try.f42, ⟨[], [(1000004, [2, 3, 4, 6, 7, 8, 9, 10, 11, 12, 13, 14, 15, 16, 17, 18, 19, 20, 21, 22, 23, 24, 25])], [], [(6, [0, 1, 4, 5, 2, 3, 6, 7, 8])], [], []⟩⟩]
theorem I_ok : ∀ i ∈ I, Try.prog.funcs[i.f]? = some i.fn ∧ (i.fn.name == "runtime.NumGoroutine") = false := by
  intro i hi
  simp only [I, List.mem_cons, List.not_mem_nil, or_false] at hi
  subst hi
  exact ⟨by kernel_rfl, by kernel_rfl⟩
noncomputable abbrev L0 (fuel n : Nat) (s : St) (k : Kont) := lAt Try.prog X I fuel true 0 false 42 (bodyOf Try.f42) [1, 1, 0, 1, 0] n s k
noncomputable abbrev k0  (fuel : Nat) : Kont := (kAt Try.prog X I fuel true 0 false 42 (bodyOf Try.f42) [1, 1, 0, 1, 0] [] (endK Try.prog Try.f42))
noncomputable def t0 (p0 : List Int) (p1 : List Int) (x0q2 : Int) : St := ⟨[(.imm (.ints .i64 p0)), (.imm (.ints .i64 p1)), .dead, .dead, .dead, (.imm (.int .i64 x0q2)), .dead, .dead, .dead, .dead, .dead, .dead, .dead, .dead, .dead, .dead, .dead, .dead, .dead, .dead, .dead, .dead, .dead, .dead, .dead, .dead], hOf [], [], []⟩
theorem e (fuel : Nat) (p0 : List Int) (p1 : List Int) : runF Try.prog X I 0 fuel 42 Try.f42 [.d (.ints .i64 p0), .d (.ints .i64 p1)] =
  (bif ((((p0.length : Nat) : Int) : Int) != ((p1.length : Nat) : Int)) then
  some ([.one ((.bool false), false)], [])
  else
  L0 fuel fuel (t0 p0 p1 0) (k0  fuel)) := by kernel_rfl
theorem s0 (fuel n0 : Nat) (p0 : List Int) (p1 : List Int) (x0q2 : Int) : L0 fuel (n0 + 1) (t0 p0 p1 x0q2) (k0  fuel) =
  (bif (decide ((x0q2 : Int) < ((p0.length : Nat) : Int))) then
  (idx x0q2 p0.length).bind fun j9 =>
  (p0[j9]?).bind fun v10 =>
  (idx x0q2 p1.length).bind fun j11 =>
  (p1[j11]?).bind fun v12 =>
  (bif ((v10 : Int) != v12) then
  some ([.one ((.bool false), false)], [])
  else
  L0 fuel n0 (t0 p0 p1 ((IntKind.wrap .i64 (x0q2 + 1)))) (k0  fuel))
  else
  some ([.one ((.bool true), false)], [])) := by kernel_rfl
end laws_equalInts
theorem laws_equalInts.ok_of (hX : ∀ E ∈ laws_equalInts.X, CallSpec Try.prog E) (h : ∀ (xs : List Int) (ys : List Int), (decide (xs.length < 9223372036854775808) && decide (ys.length < 9223372036854775808)) = true → ∃ fuel, runF Try.prog laws_equalInts.X laws_equalInts.I 0 fuel 42 Try.f42 [.d (.ints .i64 xs), .d (.ints .i64 ys)] = some ([.one ((.bool (decide (xs = ys))), false)], [])) : CallSpec Try.prog laws_equalInts.E :=
  callSpec_of (d := 0) hX (by kernel_rfl) laws_equalInts.I_ok (by kernel_rfl) (by kernel_rfl) (by kernel_rfl) (fun _ _ _ _ h => by dsimp only [laws_equalInts.E] at h; cases h) (fun xs hp => by
    dsimp only [laws_equalInts.E] at hp ⊢
    split at hp
    · exact h _ _ hp
    · cases hp)
theorem laws_equalInts.loop (fuel : Nat) (xs ys : List Int) (hl : xs.length = ys.length) (hx : xs.length < 9223372036854775808) : ∀ (m n j : Nat), xs.length - j = m → m < n → j ≤ xs.length →
    laws_equalInts.L0 fuel n (laws_equalInts.t0 xs ys (j : Int)) (laws_equalInts.k0 fuel) = some ([.one (.bool (decide (xs.drop j = ys.drop j)), false)], []) := by
  intro m
  induction m with
  | zero =>
    intro n j h1 h2 h3
    obtain ⟨n, rfl⟩ : ∃ n', n = n' + 1 := ⟨n - 1, by omega⟩
    have hj : ¬ j < xs.length := by omega
    rw [laws_equalInts.s0, dge hj, dropE hj, dropE (xs := ys) (by omega)]
    rfl
  | succ m ih =>
    intro n j h1 h2 h3
    obtain ⟨n, rfl⟩ : ∃ n', n = n' + 1 := ⟨n - 1, by omega⟩
    have hj : j < xs.length := by omega
    have hj2 : j < ys.length := by omega
    rw [laws_equalInts.s0, dlt hj, idx_nat hj, idx_nat hj2, w1 (by omega), dropS hj, dropS hj2]
    simp only [cond_true, Option.bind_some, getS hj, getS hj2]
    rw [ih n (j + 1) (by omega) (by omega) (by omega)]
    by_cases hv : xs[j] = ys[j]
    · rw [hv]
      simp only [bne_self_eq_false, cond_false, List.cons.injEq, true_and]
    · have : (xs[j] != ys[j]) = true := by simp [hv]
      rw [this]
      simp only [cond_true, List.cons.injEq, hv, false_and, decide_false]

theorem laws_equalInts.ok : CallSpec Try.prog laws_equalInts.E := laws_equalInts.ok_of (by simp [laws_equalInts.X]) fun xs ys h => by
  simp only [Bool.and_eq_true, decide_eq_true_eq] at h
  refine ⟨xs.length + 1, ?_⟩
  rw [laws_equalInts.e]
  by_cases hl : xs.length = ys.length
  · have := laws_equalInts.loop (xs.length + 1) xs ys hl h.1 xs.length (xs.length + 1) 0 (by omega) (by omega) (by omega)
    simp only [List.drop_zero] at this
    simp only [hl, bne_self_eq_false, cond_false]
    rw [← hl]
    exact this
  · have hne : xs ≠ ys := fun e => hl (e ▸ rfl)
    have : (((xs.length : Nat) : Int) != ((ys.length : Nat) : Int)) = true := by simp; omega
    rw [this]
    simp [hne]

namespace laws_equalArray
noncomputable def E : Entry := ⟨15, true, false, fun | [.d (.agg [(.ints .i64 sa), (.ints .i64 da)]), .d (.agg [(.ints .i64 sb), (.ints .i64 db)])] => decide (sa.length < 9223372036854775808) && decide (da.length < 9223372036854775808) && decide (sb.length < 9223372036854775808) && decide (db.length < 9223372036854775808) | _ => false, fun | [.d (.agg [(.ints .i64 sa), (.ints .i64 da)]), .d (.agg [(.ints .i64 sb), (.ints .i64 db)])] => ([.one ((.bool (decide (sa = sb) && decide (da = db))), false)], []) | _ => ([], []), fun _ => [], false, fun _ => none⟩
end laws_equalArray
namespace laws_equalArray
noncomputable def X : List Entry := [laws_equalInts.E]
noncomputable def I : List Inl := [⟨15, Try.f15, ⟨[], [], [], [], [], []⟩⟩]
theorem I_ok : ∀ i ∈ I, Try.prog.funcs[i.f]? = some i.fn ∧ (i.fn.name == "runtime.NumGoroutine") = false := by
  intro i hi
  simp only [I, List.mem_cons, List.not_mem_nil, or_false] at hi
  subst hi
  exact ⟨by kernel_rfl, by kernel_rfl⟩
theorem e (fuel : Nat) (p0q0 : List Int) (p0q1 : List Int) (p1q0 : List Int) (p1q1 : List Int) : runF Try.prog X I 0 fuel 15 Try.f15 [.d (.agg [(.ints .i64 p0q0), (.ints .i64 p0q1)]), .d (.agg [(.ints .i64 p1q0), (.ints .i64 p1q1)])] =
  (bif decide (p0q0.length < 9223372036854775808) && decide (p1q0.length < 9223372036854775808) then
  (bif (decide (p0q0 = p1q0)) then
  (bif decide (p0q1.length < 9223372036854775808) && decide (p1q1.length < 9223372036854775808) then
  some ([.one ((.bool (decide (p0q1 = p1q1))), false)], [])
  else
  none)
  else
  some ([.one ((.bool false), false)], []))
  else
  none) := by kernel_rfl
end laws_equalArray
theorem laws_equalArray.ok_of (hX : ∀ E ∈ laws_equalArray.X, CallSpec Try.prog E) (h : ∀ (sa : List Int) (da : List Int) (sb : List Int) (db : List Int), (decide (sa.length < 9223372036854775808) && decide (da.length < 9223372036854775808) && decide (sb.length < 9223372036854775808) && decide (db.length < 9223372036854775808)) = true → ∃ fuel, runF Try.prog laws_equalArray.X laws_equalArray.I 0 fuel 15 Try.f15 [.d (.agg [(.ints .i64 sa), (.ints .i64 da)]), .d (.agg [(.ints .i64 sb), (.ints .i64 db)])] = some ([.one ((.bool (decide (sa = sb) && decide (da = db))), false)], [])) : CallSpec Try.prog laws_equalArray.E :=
  callSpec_of (d := 0) hX (by kernel_rfl) laws_equalArray.I_ok (by kernel_rfl) (by kernel_rfl) (by kernel_rfl) (fun _ _ _ _ h => by dsimp only [laws_equalArray.E] at h; cases h) (fun xs hp => by
    dsimp only [laws_equalArray.E] at hp ⊢
    split at hp
    · exact h _ _ _ _ hp
    · cases hp)
theorem laws_equalArray.ok : CallSpec Try.prog laws_equalArray.E := laws_equalArray.ok_of (by simp [laws_equalArray.X, laws_equalInts.ok]) fun sa da sb db h => ⟨0, by
  simp only [Bool.and_eq_true, decide_eq_true_eq] at h
  obtain ⟨⟨⟨h1, h2⟩, h3⟩, h4⟩ := h
  rw [laws_equalArray.e]
  simp only [h1, h2, h3, h4, decide_true, Bool.and_self, cond_true]
  cases decide (sa = sb) <;> cases decide (da = db) <;> rfl⟩

namespace impl_RankOf
noncomputable def E : Entry := ⟨26, true, false, fun | [.d (.agg [(.ints .i64 sh), (.ints .i64 da)])] => decide (sh.length < 9223372036854775808) && decide (da.length < 9223372036854775808) | _ => false, fun | [.d (.agg [(.ints .i64 sh), (.ints .i64 da)])] => ([.one ((.int .i64 (rankV sh da)), false)], []) | _ => ([], []), fun _ => [], false, fun _ => none⟩
end impl_RankOf
namespace impl_RankOf
noncomputable def X : List Entry := [impl_ValidArray.E]
noncomputable def I : List Inl := [⟨26, Try.f26, ⟨[], [], [], [], [], []⟩⟩]
theorem I_ok : ∀ i ∈ I, Try.prog.funcs[i.f]? = some i.fn ∧ (i.fn.name == "runtime.NumGoroutine") = false := by
  intro i hi
  simp only [I, List.mem_cons, List.not_mem_nil, or_false] at hi
  subst hi
  exact ⟨by kernel_rfl, by kernel_rfl⟩
theorem e (fuel : Nat) (p0q0 : List Int) (p0q1 : List Int) : runF Try.prog X I 0 fuel 26 Try.f26 [.d (.agg [(.ints .i64 p0q0), (.ints .i64 p0q1)])] =
  (bif decide (p0q0.length < 9223372036854775808) && decide (p0q1.length < 9223372036854775808) then
  (bif (!(validA p0q0 p0q1)) then
  some ([.one ((.int .i64 (-1)), false)], [])
  else
  some ([.one ((.int .i64 ((p0q0.length : Nat) : Int)), false)], []))
  else
  none) := by kernel_rfl
end impl_RankOf
theorem impl_RankOf.ok_of (hX : ∀ E ∈ impl_RankOf.X, CallSpec Try.prog E) (h : ∀ (sh : List Int) (da : List Int), (decide (sh.length < 9223372036854775808) && decide (da.length < 9223372036854775808)) = true → ∃ fuel, runF Try.prog impl_RankOf.X impl_RankOf.I 0 fuel 26 Try.f26 [.d (.agg [(.ints .i64 sh), (.ints .i64 da)])] = some ([.one ((.int .i64 (rankV sh da)), false)], [])) : CallSpec Try.prog impl_RankOf.E :=
  callSpec_of (d := 0) hX (by kernel_rfl) impl_RankOf.I_ok (by kernel_rfl) (by kernel_rfl) (by kernel_rfl) (fun _ _ _ _ h => by dsimp only [impl_RankOf.E] at h; cases h) (fun xs hp => by
    dsimp only [impl_RankOf.E] at hp ⊢
    split at hp
    · exact h _ _ hp
    · cases hp)
theorem impl_RankOf.ok : CallSpec Try.prog impl_RankOf.E := impl_RankOf.ok_of (by simp [impl_RankOf.X, impl_ValidArray.ok]) fun sh da h => ⟨0, by
  rw [impl_RankOf.e, h]
  unfold rankV
  cases validA sh da <;> rfl⟩

namespace impl_copyList
noncomputable def E : Entry := ⟨46, false, false, fun | [.d (.ints .i64 xs)] => szB xs | _ => false, fun | [.d (.ints .i64 xs)] => ([.one ((.ints .i64 xs), true)], []) | _ => ([], []), fun _ => [], true, fun _ => none⟩
end impl_copyList
namespace impl_copyList
noncomputable def X : List Entry := []
noncomputable def I : List Inl := [⟨46, Try.f46, ⟨[], [], [], [], [], []⟩⟩]
theorem I_ok : ∀ i ∈ I, Try.prog.funcs[i.f]? = some i.fn ∧ (i.fn.name == "runtime.NumGoroutine") = false := by
  intro i hi
  simp only [I, List.mem_cons, List.not_mem_nil, or_false] at hi
  subst hi
  exact ⟨by kernel_rfl, by kernel_rfl⟩
theorem e (fuel : Nat) (p0 : List Int) : runF Try.prog X I 0 fuel 46 Try.f46 [.d (.ints .i64 p0)] =
  (bif decide (0 ≤ (((p0.length : Nat) : Int) : Int)) && decide ((((p0.length : Nat) : Int) : Int) ≤ ((p0.length : Nat) : Int)) && decide ((((p0.length : Nat) : Int) : Int) ≤ 1152921504606846976) && decide (((8 : Nat) : Int) * ((p0.length : Nat) : Int) ≤ 281474976710656) then
  some ([.one ((.ints .i64 (copyL (List.replicate (((p0.length : Nat) : Int)).toNat (0 : Int)) 0 (List.replicate (((p0.length : Nat) : Int)).toNat (0 : Int)).length p0)), true)], [])
  else
  none) := by kernel_rfl
end impl_copyList
theorem impl_copyList.ok_of (hX : ∀ E ∈ impl_copyList.X, CallSpec Try.prog E) (h : ∀ (xs : List Int), (szB xs) = true → ∃ fuel, runF Try.prog impl_copyList.X impl_copyList.I 0 fuel 46 Try.f46 [.d (.ints .i64 xs)] = some ([.one ((.ints .i64 xs), true)], [])) : CallSpec Try.prog impl_copyList.E :=
  callSpec_of (d := 0) hX (by kernel_rfl) impl_copyList.I_ok (by kernel_rfl) (by kernel_rfl) (by kernel_rfl) (fun _ _ _ _ h => by dsimp only [impl_copyList.E] at h; cases h) (fun xs hp => by
    dsimp only [impl_copyList.E] at hp ⊢
    split at hp
    · exact h _ hp
    · cases hp)
theorem impl_copyList.ok : CallSpec Try.prog impl_copyList.E := impl_copyList.ok_of (by simp [impl_copyList.X]) fun xs h => ⟨0, by
  have hx := szB_le h
  rw [impl_copyList.e, mkOk (by omega) (by omega)]
  simp only [cond_true, Int.toNat_natCast, copyL_all]⟩

namespace impl_Reshape
noncomputable def E : Entry := ⟨20, false, false, fun | [.d (.ints .i64 sh), .d (.agg [(.ints .i64 s2), (.ints .i64 da)])] => decide (sh.length < 9223372036854775808) && decide (s2.length < 9223372036854775808) && decide (da.length < 9223372036854775808) | _ => false, fun | [.d (.ints .i64 sh), .d (.agg [(.ints .i64 s2), (.ints .i64 da)])] => ([.agg [((.ints .i64 (reshS sh s2 da)), true), ((.ints .i64 (reshD sh s2 da)), true)], .one ((.bool (reshB sh s2 da)), false)], []) | _ => ([], []), fun _ => [], true, fun _ => none⟩
end impl_Reshape
namespace impl_Reshape
noncomputable def X : List Entry := [impl_layoutOf.E, impl_ValidArray.E, impl_copyList.E]
noncomputable def I : List Inl := [⟨20, Try.f20, ⟨[12, 49], [(1000007, [1, 2, 5, 6, 7, 9, 10, 11, 12, 13, 14, 15, 16, 17, 18, 19, 20, 21, 22, 23, 24, 25, 26, 27, 28, 29, 30, 33, 34, 35, 36, 37, 38, 39, 40, 41, 42, 43, 44, 45, 46, 47, 48, 49, 50, 51])], [], [(9, [0, 1, 2, 4, 5, 3, 6, 7, 8, 9, 10, 11, 12])], [], []⟩⟩]
theorem I_ok : ∀ i ∈ I, Try.prog.funcs[i.f]? = some i.fn ∧ (i.fn.name == "runtime.NumGoroutine") = false := by
  intro i hi
  simp only [I, List.mem_cons, List.not_mem_nil, or_false] at hi
  subst hi
  exact ⟨by kernel_rfl, by kernel_rfl⟩
noncomputable abbrev L0 (fuel n : Nat) (s : St) (k : Kont) := lAt Try.prog X I fuel true 0 false 20 (bodyOf Try.f20) [1, 1, 1, 1, 0, 1, 0, 1, 0] n s k
noncomputable abbrev k0  (fuel : Nat) : Kont := (kAt Try.prog X I fuel true 0 false 20 (bodyOf Try.f20) [1, 1, 1, 1, 0, 1, 0, 1, 0] [] (endK Try.prog Try.f20))
noncomputable def t0 (p0 : List Int) (p1q0 : List Int) (p1q1 : List Int) (x0q2 : Int) (x0q5 : List Int) : St := ⟨[(.imm (.ints .i64 p0)), .dead, .dead, (.ptr 1000000000 0 0), (.ptr 1000000001 0 0), .dead, .dead, .dead, (.all 1000000002 1), .dead, .dead, .dead, .dead, .dead, .dead, .dead, .dead, .dead, .dead, .dead, .dead, .dead, .dead, .dead, .dead, .dead, .dead, .dead, .dead, .dead, .dead, (.imm (.int .i64 (((List.replicate ((volW p0)).toNat (0 : Int)).length : Nat) : Int))), (.imm (.int .i64 x0q2)), .dead, .dead, .dead, .dead, .dead, .dead, .dead, .dead, .dead, .dead, .dead, .dead, .dead, .dead, .dead, .dead, .dead, .dead, .dead], hOf [(1000000000, (.box [(.imm (.ints .i64 p1q0)), (.imm (.ints .i64 p1q1))])), (1000000001, (.box [(.imm .nils), (.imm .nils)])), (1000000002, (.ints .i64 x0q5))], [], []⟩
theorem e (fuel : Nat) (p0 : List Int) (p1q0 : List Int) (p1q1 : List Int) : runF Try.prog X I 0 fuel 20 Try.f20 [.d (.ints .i64 p0), .d (.agg [(.ints .i64 p1q0), (.ints .i64 p1q1)])] =
  (bif decide (p0.length < 9223372036854775808) then
  (bif validS p0 then
  (bif decide (p1q0.length < 9223372036854775808) && decide (p1q1.length < 9223372036854775808) then
  (bif (!(validA p1q0 p1q1)) then
  some ([.agg [((.ints .i64 []), true), ((.ints .i64 []), true)], .one ((.bool false), false)], [])
  else
  (bif decide (0 ≤ ((volW p0) : Int)) && decide (((volW p0) : Int) ≤ (volW p0)) && decide (((volW p0) : Int) ≤ 1152921504606846976) && decide (((8 : Nat) : Int) * (volW p0) ≤ 281474976710656) then
  (bif (decide ((((p1q1.length : Nat) : Int) : Int) > 0)) then
  L0 fuel fuel (t0 p0 p1q0 p1q1 0 ((List.replicate ((volW p0)).toNat (0 : Int)))) (k0  fuel)
  else
  (bif szB p0 then
  some ([.agg [((.ints .i64 p0), true), ((.ints .i64 (List.replicate ((volW p0)).toNat (0 : Int))), true)], .one ((.bool true), false)], [])
  else
  none))
  else
  none))
  else
  none)
  else
  some ([.agg [((.ints .i64 []), true), ((.ints .i64 []), true)], .one ((.bool false), false)], []))
  else
  none) := by kernel_rfl
theorem s0 (fuel n0 : Nat) (p0 : List Int) (p1q0 : List Int) (p1q1 : List Int) (x0q2 : Int) (x0q5 : List Int) : L0 fuel (n0 + 1) (t0 p0 p1q0 p1q1 x0q2 x0q5) (k0  fuel) =
  (bif (decide ((x0q2 : Int) < (((List.replicate ((volW p0)).toNat (0 : Int)).length : Nat) : Int))) then
  (bif decide ((((p1q1.length : Nat) : Int) : Int) = 0) then
  none
  else
  (idx (Int.tmod x0q2 ((p1q1.length : Nat) : Int)) p1q1.length).bind fun j7 =>
  (p1q1[j7]?).bind fun v8 =>
  (idx x0q2 x0q5.length).bind fun j9 =>
  (bif decide (j9 < x0q5.length) then
  L0 fuel n0 (t0 p0 p1q0 p1q1 ((IntKind.wrap .i64 (x0q2 + 1))) ((x0q5.set j9 v8))) (k0  fuel)
  else
  none))
  else
  (bif szB p0 then
  some ([.agg [((.ints .i64 p0), true), ((.ints .i64 x0q5), true)], .one ((.bool true), false)], [])
  else
  none)) := by kernel_rfl
end impl_Reshape
theorem impl_Reshape.ok_of (hX : ∀ E ∈ impl_Reshape.X, CallSpec Try.prog E) (h : ∀ (sh : List Int) (s2 : List Int) (da : List Int), (decide (sh.length < 9223372036854775808) && decide (s2.length < 9223372036854775808) && decide (da.length < 9223372036854775808)) = true → ∃ fuel, runF Try.prog impl_Reshape.X impl_Reshape.I 0 fuel 20 Try.f20 [.d (.ints .i64 sh), .d (.agg [(.ints .i64 s2), (.ints .i64 da)])] = some ([.agg [((.ints .i64 (reshS sh s2 da)), true), ((.ints .i64 (reshD sh s2 da)), true)], .one ((.bool (reshB sh s2 da)), false)], [])) : CallSpec Try.prog impl_Reshape.E :=
  callSpec_of (d := 0) hX (by kernel_rfl) impl_Reshape.I_ok (by kernel_rfl) (by kernel_rfl) (by kernel_rfl) (fun _ _ _ _ h => by dsimp only [impl_Reshape.E] at h; cases h) (fun xs hp => by
    dsimp only [impl_Reshape.E] at hp ⊢
    split at hp
    · exact h _ _ _ hp
    · cases hp)
theorem impl_Reshape.loop (fuel : Nat) (sh s2 da : List Int) (hv : validS sh = true) (hd : ((da.length : Nat) : Int) ≠ 0) : ∀ (m n j : Nat) (out : List Int), (volW sh).toNat - j = m → m < n → j ≤ (volW sh).toNat → out.length = (volW sh).toNat → out.take j = tab j (fun i => da.getD (i % da.length) 0) →
    impl_Reshape.L0 fuel n (impl_Reshape.t0 sh s2 da (j : Int) out) (impl_Reshape.k0 fuel) = some ([.agg [(.ints .i64 sh, true), (.ints .i64 (reD sh da), true)], .one (.bool true, false)], []) := by
  have hb := vol_bd hv
  have hs := (validS_inv hv).1
  intro m
  induction m with
  | zero =>
    intro n j out h1 h2 h3 h4 h5
    obtain ⟨n, rfl⟩ : ∃ n', n = n' + 1 := ⟨n - 1, by omega⟩
    rw [impl_Reshape.s0, List.length_replicate, dge (by omega), szB_of (xs := sh) (by omega)]
    simp only [cond_true, cond_false, reD]
    rw [fill_end (n := (volW sh).toNat) h4 (by rw [show j = (volW sh).toNat by omega] at h5; exact h5)]
  | succ m ih =>
    intro n j out h1 h2 h3 h4 h5
    obtain ⟨n, rfl⟩ : ∃ n', n = n' + 1 := ⟨n - 1, by omega⟩
    have hj2 : j < out.length := by omega
    obtain ⟨g1, g2⟩ := re_get (j := j) hd
    rw [impl_Reshape.s0, List.length_replicate, dlt (by omega), decide_eq_false hd, g1, idx_nat hj2, w1 (by omega)]
    simp only [cond_true, cond_false, Option.bind_some, g2, hj2, decide_true]
    exact ih n (j + 1) _ (by omega) (by omega) (by omega) (by simpa using h4) (fill_step (f := fun i => da.getD (i % da.length) 0) (show j < (volW sh).toNat by omega) h4 h5)
theorem impl_Reshape.ok : CallSpec Try.prog impl_Reshape.E := impl_Reshape.ok_of (by simp [impl_Reshape.X, impl_layoutOf.ok, impl_ValidArray.ok, impl_copyList.ok]) fun sh s2 da h => by
  simp only [Bool.and_eq_true] at h
  refine ⟨(volW sh).toNat + 1, ?_⟩
  rw [impl_Reshape.e, h.1.1, h.1.2, h.2]
  unfold reshS reshD reshB
  cases hv : validS sh with
  | false => rfl
  | true =>
    have hb := vol_bd hv
    have hs := (validS_inv hv).1
    cases hv2 : validA s2 da with
    | false => rfl
    | true =>
      rw [mkOk hb.1 (by omega)]
      simp only [cond_true, Bool.and_self, Bool.not_true, cond_false]
      by_cases hd : ((da.length : Nat) : Int) > 0
      · rw [decide_eq_true hd, cond_true]
        exact impl_Reshape.loop ((volW sh).toNat + 1) sh s2 da hv (by omega) (volW sh).toNat ((volW sh).toNat + 1) 0 _ (by omega) (by omega) (by omega) (by simp) (by simp [tab])
      · have h0 : da = [] := List.eq_nil_of_length_eq_zero (by omega)
        rw [decide_eq_false hd, szB_of (xs := sh) (by omega)]
        have : List.replicate (volW sh).toNat (0 : Int) = reD sh da := by
          rw [h0]
          apply List.ext_getElem?
          intro i
          by_cases hi : i < (volW sh).toNat
          · unfold reD; rw [tab_get hi]; simp [hi]
          · rw [List.getElem?_eq_none (by simp; omega), List.getElem?_eq_none (by unfold reD; rw [tab_length]; omega)]
        rw [this]
        rfl

namespace slices_Equal_int_int
noncomputable def E : Entry := ⟨54, true, false, fun | [.d (.ints .i64 xs), .d (.ints .i64 ys)] => decide (xs.length < 9223372036854775808) && decide (ys.length < 9223372036854775808) | _ => false, fun | [.d (.ints .i64 xs), .d (.ints .i64 ys)] => ([.one ((.bool (decide (xs = ys))), false)], []) | _ => ([], []), fun _ => [], false, fun _ => none⟩
end slices_Equal_int_int
namespace slices_Equal_int_int
noncomputable def X : List Entry := []
noncomputable def I : List Inl := [⟨54, Try.f54, ⟨[], [(1000004, [2, 3, 4, 5, 6, 7, 8, 9, 10, 11, 14, 15, 16, 17, 18, 19, 20, 21, 22, 23, 24, 25])], [], [(6, [0, 1, 4, 5, 2, 3, 6, 7, 8])], [], []⟩⟩]
theorem I_ok : ∀ i ∈ I, Try.prog.funcs[i.f]? = some i.fn ∧ (i.fn.name == "runtime.NumGoroutine") = false := by
  intro i hi
  simp only [I, List.mem_cons, List.not_mem_nil, or_false] at hi
  subst hi
  exact ⟨by kernel_rfl, by kernel_rfl⟩
noncomputable abbrev L0 (fuel n : Nat) (s : St) (k : Kont) := lAt Try.prog X I fuel true 0 false 54 (bodyOf Try.f54) [1, 1, 0, 1, 0] n s k
noncomputable abbrev k0  (fuel : Nat) : Kont := (kAt Try.prog X I fuel true 0 false 54 (bodyOf Try.f54) [1, 1, 0, 1, 0] [] (endK Try.prog Try.f54))
noncomputable def t0 (p0 : List Int) (p1 : List Int) (x0q3 : Int) : St := ⟨[(.imm (.ints .i64 p0)), (.imm (.ints .i64 p1)), .dead, .dead, .dead, .dead, .dead, .dead, .dead, .dead, .dead, .dead, (.imm (.int .i64 ((p0.length : Nat) : Int))), (.imm (.int .i64 x0q3)), .dead, .dead, .dead, .dead, .dead, .dead, .dead, .dead, .dead, .dead, .dead, .dead], hOf [], [], []⟩
theorem e (fuel : Nat) (p0 : List Int) (p1 : List Int) : runF Try.prog X I 0 fuel 54 Try.f54 [.d (.ints .i64 p0), .d (.ints .i64 p1)] =
  (bif ((((p0.length : Nat) : Int) : Int) != ((p1.length : Nat) : Int)) then
  some ([.one ((.bool false), false)], [])
  else
  L0 fuel fuel (t0 p0 p1 0) (k0  fuel)) := by kernel_rfl
theorem s0 (fuel n0 : Nat) (p0 : List Int) (p1 : List Int) (x0q3 : Int) : L0 fuel (n0 + 1) (t0 p0 p1 x0q3) (k0  fuel) =
  (bif (decide ((x0q3 : Int) < ((p0.length : Nat) : Int))) then
  (idx x0q3 p0.length).bind fun j9 =>
  (p0[j9]?).bind fun v10 =>
  (idx x0q3 p1.length).bind fun j11 =>
  (p1[j11]?).bind fun v12 =>
  (bif ((v10 : Int) != v12) then
  some ([.one ((.bool false), false)], [])
  else
  L0 fuel n0 (t0 p0 p1 ((IntKind.wrap .i64 (x0q3 + 1)))) (k0  fuel))
  else
  some ([.one ((.bool true), false)], [])) := by kernel_rfl
end slices_Equal_int_int
theorem slices_Equal_int_int.ok_of (hX : ∀ E ∈ slices_Equal_int_int.X, CallSpec Try.prog E) (h : ∀ (xs : List Int) (ys : List Int), (decide (xs.length < 9223372036854775808) && decide (ys.length < 9223372036854775808)) = true → ∃ fuel, runF Try.prog slices_Equal_int_int.X slices_Equal_int_int.I 0 fuel 54 Try.f54 [.d (.ints .i64 xs), .d (.ints .i64 ys)] = some ([.one ((.bool (decide (xs = ys))), false)], [])) : CallSpec Try.prog slices_Equal_int_int.E :=
  callSpec_of (d := 0) hX (by kernel_rfl) slices_Equal_int_int.I_ok (by kernel_rfl) (by kernel_rfl) (by kernel_rfl) (fun _ _ _ _ h => by dsimp only [slices_Equal_int_int.E] at h; cases h) (fun xs hp => by
    dsimp only [slices_Equal_int_int.E] at hp ⊢
    split at hp
    · exact h _ _ hp
    · cases hp)
theorem slices_Equal_int_int.loop (fuel : Nat) (xs ys : List Int) (hl : xs.length = ys.length) (hx : xs.length < 9223372036854775808) : ∀ (m n j : Nat), xs.length - j = m → m < n → j ≤ xs.length →
    slices_Equal_int_int.L0 fuel n (slices_Equal_int_int.t0 xs ys (j : Int)) (slices_Equal_int_int.k0 fuel) = some ([.one (.bool (decide (xs.drop j = ys.drop j)), false)], []) := by
  intro m
  induction m with
  | zero =>
    intro n j h1 h2 h3
    obtain ⟨n, rfl⟩ : ∃ n', n = n' + 1 := ⟨n - 1, by omega⟩
    have hj : ¬ j < xs.length := by omega
    rw [slices_Equal_int_int.s0, dge hj, dropE hj, dropE (xs := ys) (by omega)]
    rfl
  | succ m ih =>
    intro n j h1 h2 h3
    obtain ⟨n, rfl⟩ : ∃ n', n = n' + 1 := ⟨n - 1, by omega⟩
    have hj : j < xs.length := by omega
    have hj2 : j < ys.length := by omega
    rw [slices_Equal_int_int.s0, dlt hj, idx_nat hj, idx_nat hj2, w1 (by omega), dropS hj, dropS hj2]
    simp only [cond_true, Option.bind_some, getS hj, getS hj2]
    rw [ih n (j + 1) (by omega) (by omega) (by omega)]
    by_cases hv : xs[j] = ys[j]
    · rw [hv]
      simp only [bne_self_eq_false, cond_false, List.cons.injEq, true_and]
    · have : (xs[j] != ys[j]) = true := by simp [hv]
      rw [this]
      simp only [cond_true, List.cons.injEq, hv, false_and, decide_false]

theorem slices_Equal_int_int.ok : CallSpec Try.prog slices_Equal_int_int.E := slices_Equal_int_int.ok_of (by simp [slices_Equal_int_int.X]) fun xs ys h => by
  simp only [Bool.and_eq_true, decide_eq_true_eq] at h
  refine ⟨xs.length + 1, ?_⟩
  rw [slices_Equal_int_int.e]
  by_cases hl : xs.length = ys.length
  · have := slices_Equal_int_int.loop (xs.length + 1) xs ys hl h.1 xs.length (xs.length + 1) 0 (by omega) (by omega) (by omega)
    simp only [List.drop_zero] at this
    simp only [hl, bne_self_eq_false, cond_false]
    rw [← hl]
    exact this
  · have hne : xs ≠ ys := fun e => hl (e ▸ rfl)
    have : (((xs.length : Nat) : Int) != ((ys.length : Nat) : Int)) = true := by simp; omega
    rw [this]
    simp [hne]

namespace impl_Combine
noncomputable def E : Entry := ⟨21, false, false, fun | [.d (.int .i64 op), .d (.agg [(.ints .i64 s1), (.ints .i64 d1)]), .d (.agg [(.ints .i64 s2), (.ints .i64 d2)])] => decide (s1.length < 9223372036854775808) && decide (d1.length < 9223372036854775808) && decide (s2.length < 9223372036854775808) && decide (d2.length < 9223372036854775808) | _ => false, fun | [.d (.int .i64 op), .d (.agg [(.ints .i64 s1), (.ints .i64 d1)]), .d (.agg [(.ints .i64 s2), (.ints .i64 d2)])] => ([.agg [((.ints .i64 (comS op s1 d1 s2 d2)), true), ((.ints .i64 (comD op s1 d1 s2 d2)), true)], .one ((.bool (comB op s1 d1 s2 d2)), false)], []) | _ => ([], []), fun _ => [], true, fun _ => none⟩
end impl_Combine
namespace impl_Combine
noncomputable def X : List Entry := [impl_functionOfTwo_f.E, impl_ValidArray.E, impl_Reshape.E, slices_Equal_int_int.E, impl_copyList.E, impl_pairwise.E]
noncomputable def I : List Inl := [⟨21, Try.f21, ⟨[32, 43, 55, 61], [], [], [(10, [0, 3, 4, 6, 1, 5, 7, 2, 8, 9, 10, 11])], [], []⟩⟩]
theorem I_ok : ∀ i ∈ I, Try.prog.funcs[i.f]? = some i.fn ∧ (i.fn.name == "runtime.NumGoroutine") = false := by
  intro i hi
  simp only [I, List.mem_cons, List.not_mem_nil, or_false] at hi
  subst hi
  exact ⟨by kernel_rfl, by kernel_rfl⟩
theorem e (fuel : Nat) (p0 : Int) (p1q0 : List Int) (p1q1 : List Int) (p2q0 : List Int) (p2q1 : List Int) : runF Try.prog X I 0 fuel 21 Try.f21 [.d (.int .i64 p0), .d (.agg [(.ints .i64 p1q0), (.ints .i64 p1q1)]), .d (.agg [(.ints .i64 p2q0), (.ints .i64 p2q1)])] =
  (bif opOk p0 then
  (bif decide (p1q0.length < 9223372036854775808) && decide (p1q1.length < 9223372036854775808) then
  (bif (!(validA p1q0 p1q1)) then
  some ([.agg [((.ints .i64 []), true), ((.ints .i64 []), true)], .one ((.bool false), false)], [])
  else
  (bif decide (p2q0.length < 9223372036854775808) && decide (p2q1.length < 9223372036854775808) then
  (bif (!(validA p2q0 p2q1)) then
  some ([.agg [((.ints .i64 []), true), ((.ints .i64 []), true)], .one ((.bool false), false)], [])
  else
  (bif ((((p1q0.length : Nat) : Int) : Int) == 0) then
  (bif decide (p2q0.length < 9223372036854775808) && decide (p1q0.length < 9223372036854775808) && decide (p1q1.length < 9223372036854775808) then
  (bif decide (((reshS p2q0 p1q0 p1q1)).length < 9223372036854775808) && decide (p2q0.length < 9223372036854775808) then
  (bif (!(decide (((reshS p2q0 p1q0 p1q1)) = p2q0))) then
  some ([.agg [((.ints .i64 []), true), ((.ints .i64 []), true)], .one ((.bool false), false)], [])
  else
  (bif szB ((reshS p2q0 p1q0 p1q1)) then
  (bif szB ((reshD p2q0 p1q0 p1q1)) && decide (((reshD p2q0 p1q0 p1q1)).length ≤ p2q1.length) && pwB q2 ((reshD p2q0 p1q0 p1q1)) p2q1 then
  some ([.agg [((.ints .i64 ((reshS p2q0 p1q0 p1q1))), true), ((.ints .i64 (pwD ((q2v (operF p0))) ((reshD p2q0 p1q0 p1q1)) p2q1)), true)], .one ((.bool true), false)], [])
  else
  none)
  else
  none))
  else
  none)
  else
  none)
  else
  (bif ((((p2q0.length : Nat) : Int) : Int) == 0) then
  (bif decide (p1q0.length < 9223372036854775808) && decide (p2q0.length < 9223372036854775808) && decide (p2q1.length < 9223372036854775808) then
  (bif decide (p1q0.length < 9223372036854775808) && decide (((reshS p1q0 p2q0 p2q1)).length < 9223372036854775808) then
  (bif (!(decide (p1q0 = ((reshS p1q0 p2q0 p2q1))))) then
  some ([.agg [((.ints .i64 []), true), ((.ints .i64 []), true)], .one ((.bool false), false)], [])
  else
  (bif szB p1q0 then
  (bif szB p1q1 && decide (p1q1.length ≤ ((reshD p1q0 p2q0 p2q1)).length) && pwB q2 p1q1 ((reshD p1q0 p2q0 p2q1)) then
  some ([.agg [((.ints .i64 p1q0), true), ((.ints .i64 (pwD ((q2v (operF p0))) p1q1 ((reshD p1q0 p2q0 p2q1)))), true)], .one ((.bool true), false)], [])
  else
  none)
  else
  none))
  else
  none)
  else
  none)
  else
  (bif decide (p1q0.length < 9223372036854775808) && decide (p2q0.length < 9223372036854775808) then
  (bif (!(decide (p1q0 = p2q0))) then
  some ([.agg [((.ints .i64 []), true), ((.ints .i64 []), true)], .one ((.bool false), false)], [])
  else
  (bif szB p1q0 then
  (bif szB p1q1 && decide (p1q1.length ≤ p2q1.length) && pwB q2 p1q1 p2q1 then
  some ([.agg [((.ints .i64 p1q0), true), ((.ints .i64 (pwD ((q2v (operF p0))) p1q1 p2q1)), true)], .one ((.bool true), false)], [])
  else
  none)
  else
  none))
  else
  none))))
  else
  none))
  else
  none)
  else
  some ([.agg [((.ints .i64 []), true), ((.ints .i64 []), true)], .one ((.bool false), false)], [])) := by kernel_rfl
end impl_Combine
theorem impl_Combine.ok_of (hX : ∀ E ∈ impl_Combine.X, CallSpec Try.prog E) (h : ∀ (op : Int) (s1 : List Int) (d1 : List Int) (s2 : List Int) (d2 : List Int), (decide (s1.length < 9223372036854775808) && decide (d1.length < 9223372036854775808) && decide (s2.length < 9223372036854775808) && decide (d2.length < 9223372036854775808)) = true → ∃ fuel, runF Try.prog impl_Combine.X impl_Combine.I 0 fuel 21 Try.f21 [.d (.int .i64 op), .d (.agg [(.ints .i64 s1), (.ints .i64 d1)]), .d (.agg [(.ints .i64 s2), (.ints .i64 d2)])] = some ([.agg [((.ints .i64 (comS op s1 d1 s2 d2)), true), ((.ints .i64 (comD op s1 d1 s2 d2)), true)], .one ((.bool (comB op s1 d1 s2 d2)), false)], [])) : CallSpec Try.prog impl_Combine.E :=
  callSpec_of (d := 0) hX (by kernel_rfl) impl_Combine.I_ok (by kernel_rfl) (by kernel_rfl) (by kernel_rfl) (fun _ _ _ _ h => by dsimp only [impl_Combine.E] at h; cases h) (fun xs hp => by
    dsimp only [impl_Combine.E] at hp ⊢
    split at hp
    · exact h _ _ _ _ _ hp
    · cases hp)
theorem impl_Combine.ok : CallSpec Try.prog impl_Combine.E := impl_Combine.ok_of (by simp [impl_Combine.X, impl_functionOfTwo_f.ok, impl_ValidArray.ok, impl_Reshape.ok, slices_Equal_int_int.ok, impl_copyList.ok, impl_pairwise.ok]) fun op s1 d1 s2 d2 h => ⟨0, by
  rw [impl_Combine.e]
  simp only [Bool.and_eq_true] at h
  obtain ⟨⟨⟨h1, h2⟩, h3⟩, h4⟩ := h
  simp only [h1, h2, h3, h4, Bool.and_self, Bool.true_and, Bool.and_true, cond_true, len0, pwB_q2, pwD_q2]
  unfold comS comD
  cases ho : opOk op with
  | false => simp only [comB, ho]; rfl
  | true =>
    cases v1 : validA s1 d1 with
    | false => simp only [comB, ho, v1]; rfl
    | true =>
      cases v2 : validA s2 d2 with
      | false => simp only [comB, ho, v1, v2]; rfl
      | true =>
        have b1 := validA_len v1
        have b2 := validA_len v2
        simp only [comB, ho, v1, v2, Bool.and_self, Bool.true_and, cond_true, Bool.not_true, cond_false]
        by_cases e1 : s1.length = 0
        · have e1' := List.length_eq_zero_iff.mp e1
          have hr := resh_sc (e1' ▸ v1) v2 e1'
          have b3 := resh_len s2 s1 d1
          have hd : (reshD s2 s1 d1).length = d2.length := by rw [hr.2, tab_length]
          rw [decide_eq_true e1, cond_true, decide_eq_true (p := (reshS s2 s1 d1).length < 9223372036854775808) (by omega), cond_true, decide_eq_true hr.1, szB_of (by omega), szB_of (by omega), decide_eq_true (p := (reshD s2 s1 d1).length ≤ d2.length) (by omega), hd]
          subst e1'
          rw [cD_a op v1 v2, hr.1]
          simp [fitB, cS]
        · rw [decide_eq_false e1, cond_false]
          by_cases e2 : s2.length = 0
          · have e2' := List.length_eq_zero_iff.mp e2
            have hr := resh_sc (e2' ▸ v2) v1 e2'
            have b3 := resh_len s1 s2 d2
            have hd : (reshD s1 s2 d2).length = d1.length := by rw [hr.2, tab_length]
            rw [decide_eq_true e2, cond_true, decide_eq_true (p := (reshS s1 s2 d2).length < 9223372036854775808) (by omega), cond_true, decide_eq_true hr.1.symm, szB_of (by omega), szB_of (by omega), decide_eq_true (p := d1.length ≤ (reshD s1 s2 d2).length) (by omega)]
            subst e2'
            rw [cD_b op v1 v2 e1]
            simp [fitB, cS, e1]
          · rw [decide_eq_false e2, cond_false]
            by_cases e3 : s1 = s2
            · subst e3
              have l1 := vol_len v1
              have l2 := vol_len v2
              rw [decide_eq_true rfl, szB_of (by omega), szB_of (by omega), decide_eq_true (p := d1.length ≤ d2.length) (by omega), cD_c op v1 v2 e1]
              simp [fitB, cS, e1]
            · rw [decide_eq_false e3]
              simp [fitB, e1, e2, e3]⟩

namespace impl_ReduceAxis_1
noncomputable def E : Entry := ⟨40, true, false, fun | [.d (.int .i64 n), .d (.pbox [(.fn false dom G)]), .d (.pbox [(.ints .i64 sh), (.ints .i64 da)]), .d (.pbox [(.int .i64 k)])] => axB sh da k && lnB sh k n && dom [.l (lnN sh da k n)] | _ => false, fun | [.d (.int .i64 n), .d (.pbox [(.fn false dom G)]), .d (.pbox [(.ints .i64 sh), (.ints .i64 da)]), .d (.pbox [(.int .i64 k)])] => ([.one ((.int .i64 (G [.l (lnN sh da k n)])), false)], []) | _ => ([], []), fun _ => [], false, fun _ => none⟩
end impl_ReduceAxis_1
namespace impl_ReduceAxis_1
noncomputable def X : List Entry := [impl_lineOf.E]
noncomputable def I : List Inl := [⟨40, Try.f40, ⟨[10], [], [], [(1, [3, 0, 1, 2, 4, 5, 6])], [], []⟩⟩]
theorem I_ok : ∀ i ∈ I, Try.prog.funcs[i.f]? = some i.fn ∧ (i.fn.name == "runtime.NumGoroutine") = false := by
  intro i hi
  simp only [I, List.mem_cons, List.not_mem_nil, or_false] at hi
  subst hi
  exact ⟨by kernel_rfl, by kernel_rfl⟩
theorem e (fuel : Nat) (p0 : Int) (f0q0d : List Q → Bool) (f0q0g : List Q → Int) (f1q0 : List Int) (f1q1 : List Int) (f2q0 : Int) : runF Try.prog X I 0 fuel 40 Try.f40 [.d (.int .i64 p0), .d (.pbox [(.fn false f0q0d f0q0g)]), .d (.pbox [(.ints .i64 f1q0), (.ints .i64 f1q1)]), .d (.pbox [(.int .i64 f2q0)])] =
  (bif axB f1q0 f1q1 f2q0 && lnB f1q0 f2q0 p0 then
  (bif (f0q0d [Q.l ((lnN f1q0 f1q1 f2q0 p0))]) then
  some ([.one ((.int .i64 (f0q0g [Q.l ((lnN f1q0 f1q1 f2q0 p0))])), false)], [])
  else
  none)
  else
  none) := by kernel_rfl
end impl_ReduceAxis_1
theorem impl_ReduceAxis_1.ok_of (hX : ∀ E ∈ impl_ReduceAxis_1.X, CallSpec Try.prog E) (h : ∀ (n : Int) (dom : List Q → Bool) (G : List Q → Int) (sh : List Int) (da : List Int) (k : Int), (axB sh da k && lnB sh k n && dom [.l (lnN sh da k n)]) = true → ∃ fuel, runF Try.prog impl_ReduceAxis_1.X impl_ReduceAxis_1.I 0 fuel 40 Try.f40 [.d (.int .i64 n), .d (.pbox [(.fn false dom G)]), .d (.pbox [(.ints .i64 sh), (.ints .i64 da)]), .d (.pbox [(.int .i64 k)])] = some ([.one ((.int .i64 (G [.l (lnN sh da k n)])), false)], [])) : CallSpec Try.prog impl_ReduceAxis_1.E :=
  callSpec_of (d := 0) hX (by kernel_rfl) impl_ReduceAxis_1.I_ok (by kernel_rfl) (by kernel_rfl) (by kernel_rfl) (fun _ _ _ _ h => by dsimp only [impl_ReduceAxis_1.E] at h; cases h) (fun xs hp => by
    dsimp only [impl_ReduceAxis_1.E] at hp ⊢
    split at hp
    · exact h _ _ _ _ _ _ hp
    · cases hp)
theorem impl_ReduceAxis_1.ok : CallSpec Try.prog impl_ReduceAxis_1.E := impl_ReduceAxis_1.ok_of (by simp [impl_ReduceAxis_1.X, impl_lineOf.ok]) fun n dom G sh da k h => ⟨0, by
  rw [impl_ReduceAxis_1.e]
  simp only [Bool.and_eq_true] at h
  rw [h.1.1, h.1.2, h.2]
  rfl⟩

namespace impl_ReduceAxis
noncomputable def E : Entry := ⟨12, false, false, fun | [.d (.int .i64 op), .d (.agg [(.ints .i64 sh), (.ints .i64 da)]), .d (.int .i64 k)] => decide (sh.length < 9223372036854775808) && decide (da.length < 9223372036854775808) | _ => false, fun | [.d (.int .i64 op), .d (.agg [(.ints .i64 sh), (.ints .i64 da)]), .d (.int .i64 k)] => ([.agg [((.ints .i64 (rdxS op sh da k)), true), ((.ints .i64 (rdxD op sh da k)), true)], .one ((.bool (rdxB op sh da k)), false)], []) | _ => ([], []), fun _ => [], true, fun _ => none⟩
end impl_ReduceAxis
namespace impl_ReduceAxis
noncomputable def X : List Entry := [impl_reductionOf.E, impl_axisLength.E, slices_Concat_int_int.E, impl_layoutOf_j.E, impl_ReduceAxis_1.E]
noncomputable def I : List Inl := [⟨12, Try.f12, ⟨[37, 40], [(6, [0, 1, 2, 3, 7, 9, 10, 12, 13, 14, 15, 16, 17, 18, 19, 20, 21, 22, 23, 24, 25, 26, 27, 28, 29, 30, 31, 32, 33, 34, 35, 36, 37, 38, 39, 40, 41, 42])], [(6, [8, 4, 5])], [(5, [0, 4, 1, 2, 3, 5, 6, 7, 8, 9, 10, 11])], [36], []⟩⟩, ⟨39, Try.f39, ⟨[12], [(1000006, [2, 3, 5, 6, 7, 9, 10, 11, 12, 13, 14, 15, 16, 17, 18, 19, 20, 21, 24, 25, 26, 27, 28, 29, 30, 31, 32, 33, 34, 35])], [], [], [], []⟩⟩]
theorem I_ok : ∀ i ∈ I, Try.prog.funcs[i.f]? = some i.fn ∧ (i.fn.name == "runtime.NumGoroutine") = false := by
  intro i hi
  simp only [I, List.mem_cons, List.not_mem_nil, or_false] at hi
  rcases hi with rfl | rfl
  all_goals exact ⟨by kernel_rfl, by kernel_rfl⟩
noncomputable abbrev L0 (fuel n : Nat) (s : St) (k : Kont) := lAt Try.prog X I fuel true 3 false 39 (bodyOf Try.f39) [1, 1, 1, 1, 0, 1, 0] n s k
noncomputable abbrev k0  (fuel : Nat) : Kont := (kAt Try.prog X I fuel true 3 false 39 (bodyOf Try.f39) [1, 1, 1, 1, 0, 1, 0] [] (endFn Try.prog Try.f39 43 (kOp Try.prog X I fuel true 4 12 (cAt (bodyOf Try.f12) [1, 1, 1, 1, 1, 0]) 2 (kAt Try.prog X I fuel true 4 false 12 (bodyOf Try.f12) [1, 1, 1, 1, 1, 0] [] (endK Try.prog Try.f12)))))
noncomputable def t0 (p0 : Int) (p1q0 : List Int) (p1q1 : List Int) (p2 : Int) (cq1 : Nat × Nat) (cq2 : Nat × Nat) (x0q6 : Int) (x0q8 : List Int) : St := ⟨[(.all 1000000001 1), (.imm (.clo 40 [(.pbox [(.fn false ql ((qlv (redF p0))))]), (.pbox [(.ints .i64 p1q0), (.ints .i64 p1q1)]), (.pbox [(.int .i64 p2)])])), .dead, .dead, (.ptr 1000000002 0 0), .dead, .dead, .dead, (.all 1000000003 1), .dead, .dead, .dead, .dead, .dead, .dead, .dead, .dead, .dead, .dead, .dead, .dead, .dead, (.imm (.int .i64 (((List.replicate ((volW (((((p1q0.drop cq1.1).take (cq1.2 - cq1.1))) ++ (((p1q0.drop cq2.1).take (cq2.2 - cq2.1))))))).toNat (0 : Int)).length : Nat) : Int))), (.imm (.int .i64 x0q6)), .dead, .dead, .dead, .dead, .dead, .dead, .dead, .dead, .dead, .dead, .dead, .dead], hOf [(1000000000, (.box [(.imm .nils), (.imm .nils)])), (1000000001, (.ints .i64 ((((p1q0.drop cq1.1).take (cq1.2 - cq1.1))) ++ (((p1q0.drop cq2.1).take (cq2.2 - cq2.1)))))), (1000000002, (.box [(.imm .nils), (.imm .nils)])), (1000000003, (.ints .i64 x0q8))], [.dead, .dead, .dead, .dead, (.dptr [(.ints .i64 p1q0), (.ints .i64 p1q1)] 0), (.dptr [(.int .i64 p2)] 0), (.ptr 1000000000 0 0), .dead, (.dptr [(.fn false ql ((qlv (redF p0))))] 0), .dead, .dead, (.all 1000000001 1), .dead, .dead, .dead, .dead, .dead, .dead, .dead, .dead, .dead, .dead, .dead, .dead, .dead, .dead, .dead, .dead, .dead, .dead, .dead, .dead, .dead, .dead, .dead, .dead, .dead, .dead, (.all 1000000001 1), (.imm (.clo 40 [(.pbox [(.fn false ql ((qlv (redF p0))))]), (.pbox [(.ints .i64 p1q0), (.ints .i64 p1q1)]), (.pbox [(.int .i64 p2)])])), .dead, .dead, .dead, (.tup [])], []⟩
theorem e (fuel : Nat) (p0 : Int) (p1q0 : List Int) (p1q1 : List Int) (p2 : Int) : runF Try.prog X I 4 fuel 12 Try.f12 [.d (.int .i64 p0), .d (.agg [(.ints .i64 p1q0), (.ints .i64 p1q1)]), .d (.int .i64 p2)] =
  (bif opOk p0 then
  (bif decide (p1q0.length < 9223372036854775808) && decide (p1q1.length < 9223372036854775808) then
  (bif (!(axB p1q0 p1q1 p2)) then
  some ([.agg [((.ints .i64 []), true), ((.ints .i64 []), true)], .one ((.bool false), false)], [])
  else
  (cutEnds p1q0.length (none) (some (.imm (.int .i64 p2)))).bind fun cq1 =>
  (cutEnds p1q0.length (some (.imm (.int .i64 (IntKind.wrap .i64 (p2 + 1))))) (none)).bind fun cq2 =>
  (bif szB (((p1q0.drop cq1.1).take (cq1.2 - cq1.1))) && szB (((p1q0.drop cq2.1).take (cq2.2 - cq2.1))) then
  (bif decide ((((((p1q0.drop cq1.1).take (cq1.2 - cq1.1))) ++ (((p1q0.drop cq2.1).take (cq2.2 - cq2.1))))).length < 9223372036854775808) then
  (bif validS (((((p1q0.drop cq1.1).take (cq1.2 - cq1.1))) ++ (((p1q0.drop cq2.1).take (cq2.2 - cq2.1))))) then
  (bif decide (0 ≤ ((volW (((((p1q0.drop cq1.1).take (cq1.2 - cq1.1))) ++ (((p1q0.drop cq2.1).take (cq2.2 - cq2.1)))))) : Int)) && decide (((volW (((((p1q0.drop cq1.1).take (cq1.2 - cq1.1))) ++ (((p1q0.drop cq2.1).take (cq2.2 - cq2.1)))))) : Int) ≤ (volW (((((p1q0.drop cq1.1).take (cq1.2 - cq1.1))) ++ (((p1q0.drop cq2.1).take (cq2.2 - cq2.1))))))) && decide (((volW (((((p1q0.drop cq1.1).take (cq1.2 - cq1.1))) ++ (((p1q0.drop cq2.1).take (cq2.2 - cq2.1)))))) : Int) ≤ 1152921504606846976) && decide (((8 : Nat) : Int) * (volW (((((p1q0.drop cq1.1).take (cq1.2 - cq1.1))) ++ (((p1q0.drop cq2.1).take (cq2.2 - cq2.1)))))) ≤ 281474976710656) then
  L0 fuel fuel (t0 p0 p1q0 p1q1 p2 cq1 cq2 0 ((List.replicate ((volW (((((p1q0.drop cq1.1).take (cq1.2 - cq1.1))) ++ (((p1q0.drop cq2.1).take (cq2.2 - cq2.1))))))).toNat (0 : Int)))) (k0  fuel)
  else
  none)
  else
  some ([.agg [((.ints .i64 []), true), ((.ints .i64 []), true)], .one ((.bool false), false)], []))
  else
  none)
  else
  none))
  else
  none)
  else
  (bif decide (p1q0.length < 9223372036854775808) && decide (p1q1.length < 9223372036854775808) then
  some ([.agg [((.ints .i64 []), true), ((.ints .i64 []), true)], .one ((.bool false), false)], [])
  else
  none)) := by kernel_rfl
theorem s0 (fuel n0 : Nat) (p0 : Int) (p1q0 : List Int) (p1q1 : List Int) (p2 : Int) (cq1 : Nat × Nat) (cq2 : Nat × Nat) (x0q6 : Int) (x0q8 : List Int) : L0 fuel (n0 + 1) (t0 p0 p1q0 p1q1 p2 cq1 cq2 x0q6 x0q8) (k0  fuel) =
  (bif (decide ((x0q6 : Int) < (((List.replicate ((volW (((((p1q0.drop cq1.1).take (cq1.2 - cq1.1))) ++ (((p1q0.drop cq2.1).take (cq2.2 - cq2.1))))))).toNat (0 : Int)).length : Nat) : Int))) then
  (bif axB p1q0 p1q1 p2 && lnB p1q0 p2 x0q6 && ql [.l (lnN p1q0 p1q1 p2 x0q6)] then
  (idx x0q6 x0q8.length).bind fun j5 =>
  (bif decide (j5 < x0q8.length) then
  L0 fuel n0 (t0 p0 p1q0 p1q1 p2 cq1 cq2 ((IntKind.wrap .i64 (x0q6 + 1))) ((x0q8.set j5 (((qlv (redF p0))) [.l (lnN p1q0 p1q1 p2 x0q6)])))) (k0  fuel)
  else
  none)
  else
  none)
  else
  some ([.agg [((.ints .i64 ((((p1q0.drop cq1.1).take (cq1.2 - cq1.1))) ++ (((p1q0.drop cq2.1).take (cq2.2 - cq2.1))))), true), ((.ints .i64 x0q8), true)], .one ((.bool true), false)], [])) := by kernel_rfl
end impl_ReduceAxis
theorem impl_ReduceAxis.ok_of (hX : ∀ E ∈ impl_ReduceAxis.X, CallSpec Try.prog E) (h : ∀ (op : Int) (sh : List Int) (da : List Int) (k : Int), (decide (sh.length < 9223372036854775808) && decide (da.length < 9223372036854775808)) = true → ∃ fuel, runF Try.prog impl_ReduceAxis.X impl_ReduceAxis.I 4 fuel 12 Try.f12 [.d (.int .i64 op), .d (.agg [(.ints .i64 sh), (.ints .i64 da)]), .d (.int .i64 k)] = some ([.agg [((.ints .i64 (rdxS op sh da k)), true), ((.ints .i64 (rdxD op sh da k)), true)], .one ((.bool (rdxB op sh da k)), false)], [])) : CallSpec Try.prog impl_ReduceAxis.E :=
  callSpec_of (d := 4) hX (by kernel_rfl) impl_ReduceAxis.I_ok (by kernel_rfl) (by kernel_rfl) (by kernel_rfl) (fun _ _ _ _ h => by dsimp only [impl_ReduceAxis.E] at h; cases h) (fun xs hp => by
    dsimp only [impl_ReduceAxis.E] at hp ⊢
    split at hp
    · exact h _ _ _ _ hp
    · cases hp)
theorem impl_ReduceAxis.loop (fuel : Nat) (op : Int) (sh da : List Int) (k : Nat) (hv : validA sh da = true) (hk : k < sh.length) (hs : validS (sh.eraseIdx k) = true) (hvol : (volW (sh.eraseIdx k)).toNat = befN sh k * behN sh k) (h60 : befN sh k * behN sh k ≤ 60) (hf : 60 < fuel) :
    impl_ReduceAxis.L0 fuel fuel (impl_ReduceAxis.t0 op sh da (k : Int) (0, k) (k + 1, sh.length) 0 (List.replicate (befN sh k * behN sh k) 0)) (impl_ReduceAxis.k0 fuel) = some ([.agg [((.ints .i64 (sh.eraseIdx k)), true), ((.ints .i64 (rdxN op sh da k)), true)], .one ((.bool true), false)], []) := by
  have ax := ax_of (validA_inv hv).1 hk
  have hL := ax.len_le
  have hA : (rdxN op sh da k).length = befN sh k * behN sh k := by simp only [rdxN, tab_length, Int.toNat_natCast]
  have hsh : ((sh.drop 0).take (k - 0)) ++ ((sh.drop (k + 1)).take (sh.length - (k + 1))) = sh.eraseIdx k := by
    rw [drop_take, List.drop_zero, Nat.sub_zero, erase_eq]
  refine run_loop (N := befN sh k * behN sh k) (fun n j out => impl_ReduceAxis.L0 fuel n (impl_ReduceAxis.t0 op sh da (k : Int) (0, k) (k + 1, sh.length) (j : Int) out) (impl_ReduceAxis.k0 fuel)) (fun j out => out = part (rdxN op sh da k) j) ?_ ?_ fuel 0 _ (by omega) (by omega) (by rw [part_zero, hA])
  · intro n out ho
    have hall := part_all (rdxN op sh da k)
    rw [hA] at hall
    rw [hall] at ho
    rw [impl_ReduceAxis.s0]
    simp only [hsh, hvol, List.length_replicate]
    rw [dge (by omega), cond_false, ho]
  · intro n j out hj ho
    have hol : out.length = befN sh k * behN sh k := by rw [ho, part_length (by omega), hA]
    obtain ⟨d1, d2, d3⟩ := dec2 hj
    have hln : lnB sh k (j : Int) = true := by simp only [lnB, Int.toNat_natCast]; simp; omega
    have hq : ql [.l (lnN sh da k (j : Int))] = true := by simp only [ql, lnN, lnK_length, Int.toNat_natCast]; simp; omega
    rw [impl_ReduceAxis.s0]
    simp only [hsh, hvol, List.length_replicate]
    rw [dlt hj, cond_true, axB_of hv hk, hln, hq, idx_nat (by omega), w1 (by omega)]
    simp only [Bool.and_self, cond_true, Option.bind_some]
    rw [decide_eq_true (by omega), cond_true]
    refine ⟨_, ?_, rfl⟩
    rw [ho, part_set (by omega)]
    simp only [rdxN, Int.toNat_natCast]
    rw [tab_getD hj]
    rfl
theorem erase_valid {sh da : List Int} {k : Nat} (hv : validA sh da = true) (hk : k < sh.length) (hs : validS (sh.eraseIdx k) = true) : volW (sh.eraseIdx k) = ((befN sh k * behN sh k : Nat) : Int) ∧ befN sh k * behN sh k ≤ 60 := by
  obtain ⟨h1, h2, h3⟩ := validS_inv hs
  have h4 := vol_prod h2 h1
  rw [prodN_erase] at h4
  exact ⟨h4, by omega⟩
theorem impl_ReduceAxis.ok : CallSpec Try.prog impl_ReduceAxis.E := impl_ReduceAxis.ok_of (by simp [impl_ReduceAxis.X, impl_reductionOf.ok, impl_axisLength.ok, slices_Concat_int_int.ok, impl_layoutOf_j.ok, impl_ReduceAxis_1.ok]) fun op sh da k h => by
  obtain ⟨F, hF⟩ : ∃ F : Nat, 60 < F := ⟨61, by omega⟩
  refine ⟨F, ?_⟩
  rw [impl_ReduceAxis.e, h]
  unfold rdxS rdxD rdxB
  cases ho : opOk op with
  | false => rfl
  | true =>
    cases hb : axB sh da k with
    | false => rfl
    | true =>
      obtain ⟨j, rfl, hj, hv, ax, hd, hl⟩ := axB_inv hb
      have hr := ax.rank
      have hsh : ((sh.drop 0).take (j - 0)) ++ ((sh.drop (j + 1)).take (sh.length - (j + 1))) = sh.eraseIdx j := by
        rw [drop_take, List.drop_zero, Nat.sub_zero, erase_eq]
      rw [w1 (by omega), cut_hi (by omega), cut_lo (by omega), Int.toNat_natCast]
      simp only [Bool.not_true, cond_true, cond_false, Option.bind_some, Bool.true_and, hsh]
      rw [szB_of (by simp; omega), szB_of (by simp; omega), Bool.and_self, cond_true, lt_of (by rw [set_eraseIdx_len hj]; omega), cond_true]
      cases hs : validS (sh.eraseIdx j) with
      | false => rfl
      | true =>
        obtain ⟨hvol, h60⟩ := erase_valid hv hj hs
        have hb := vol_bd hs
        rw [mkOk hb.1 (by omega), cond_true, cond_true, cond_true, cond_true]
        have key := impl_ReduceAxis.loop F op sh da j hv hj hs (by rw [hvol]; rfl) h60 hF
        rw [hvol, Int.toNat_natCast]
        exact key

namespace laws_FnInnerProduct
noncomputable def E : Entry := ⟨8, true, false, fun | [.d (.ints .u8 bs)] => bytesB bs | _ => false, fun | [.d (.ints .u8 bs)] => ([.one ((.bool true), false)], []) | _ => ([], []), fun _ => [], false, fun _ => none⟩
end laws_FnInnerProduct
namespace laws_FnInnerProduct
noncomputable def X : List Entry := [spec_DrawInnerProduct.E, impl_InnerProduct.E, spec_InnerProduct.E, laws_equalArray.E, impl_RankOf.E, impl_Combine.E, impl_ReduceAxis.E]
noncomputable def I : List Inl := [⟨8, Try.f8, ⟨[20, 30, 38, 76, 82], [], [], [], [], []⟩⟩]
theorem I_ok : ∀ i ∈ I, Try.prog.funcs[i.f]? = some i.fn ∧ (i.fn.name == "runtime.NumGoroutine") = false := by
  intro i hi
  simp only [I, List.mem_cons, List.not_mem_nil, or_false] at hi
  subst hi
  exact ⟨by kernel_rfl, by kernel_rfl⟩
theorem e (fuel : Nat) (p0 : List Int) : runF Try.prog X I 0 fuel 8 Try.f8 [.d (.ints .u8 p0)] =
  (bif (decide ((((p0.length : Nat) : Int) : Int) > 1048576)) then
  some ([.one ((.bool true), false)], [])
  else
  (bif bytesB p0 then
  (bif decide (((mpS1 (cutC p0) 4)).length < 9223372036854775808) && decide (((mpD1 (cutC p0) 4)).length < 9223372036854775808) && decide (((mpS2 (cutC p0) 4)).length < 9223372036854775808) && decide (((mpD2 (cutC p0) 4)).length < 9223372036854775808) then
  (bif decide (((mpS1 (cutC p0) 4)).length < 9223372036854775808) && decide (((mpD1 (cutC p0) 4)).length < 9223372036854775808) && decide (((mpS2 (cutC p0) 4)).length < 9223372036854775808) && decide (((mpD2 (cutC p0) 4)).length < 9223372036854775808) then
  (bif decide (((inS ((anyOpV (cutC p0) 0)) ((anyOpV (cutC p0) 2)) ((mpS1 (cutC p0) 4)) ((mpD1 (cutC p0) 4)) ((mpS2 (cutC p0) 4)) ((mpD2 (cutC p0) 4)))).length < 9223372036854775808) && decide (((inD ((anyOpV (cutC p0) 0)) ((anyOpV (cutC p0) 2)) ((mpS1 (cutC p0) 4)) ((mpD1 (cutC p0) 4)) ((mpS2 (cutC p0) 4)) ((mpD2 (cutC p0) 4)))).length < 9223372036854775808) && decide (((inS ((anyOpV (cutC p0) 0)) ((anyOpV (cutC p0) 2)) ((mpS1 (cutC p0) 4)) ((mpD1 (cutC p0) 4)) ((mpS2 (cutC p0) 4)) ((mpD2 (cutC p0) 4)))).length < 9223372036854775808) && decide (((inD ((anyOpV (cutC p0) 0)) ((anyOpV (cutC p0) 2)) ((mpS1 (cutC p0) 4)) ((mpD1 (cutC p0) 4)) ((mpS2 (cutC p0) 4)) ((mpD2 (cutC p0) 4)))).length < 9223372036854775808) then
  (bif (!(decide (((inS ((anyOpV (cutC p0) 0)) ((anyOpV (cutC p0) 2)) ((mpS1 (cutC p0) 4)) ((mpD1 (cutC p0) 4)) ((mpS2 (cutC p0) 4)) ((mpD2 (cutC p0) 4)))) = ((inS ((anyOpV (cutC p0) 0)) ((anyOpV (cutC p0) 2)) ((mpS1 (cutC p0) 4)) ((mpD1 (cutC p0) 4)) ((mpS2 (cutC p0) 4)) ((mpD2 (cutC p0) 4))))) && decide (((inD ((anyOpV (cutC p0) 0)) ((anyOpV (cutC p0) 2)) ((mpS1 (cutC p0) 4)) ((mpD1 (cutC p0) 4)) ((mpS2 (cutC p0) 4)) ((mpD2 (cutC p0) 4)))) = ((inD ((anyOpV (cutC p0) 0)) ((anyOpV (cutC p0) 2)) ((mpS1 (cutC p0) 4)) ((mpD1 (cutC p0) 4)) ((mpS2 (cutC p0) 4)) ((mpD2 (cutC p0) 4))))))) then
  (bif decide (((inS ((anyOpV (cutC p0) 0)) ((anyOpV (cutC p0) 2)) ((mpS1 (cutC p0) 4)) ((mpD1 (cutC p0) 4)) ((mpS2 (cutC p0) 4)) ((mpD2 (cutC p0) 4)))).length < 9223372036854775808) && decide (((inD ((anyOpV (cutC p0) 0)) ((anyOpV (cutC p0) 2)) ((mpS1 (cutC p0) 4)) ((mpD1 (cutC p0) 4)) ((mpS2 (cutC p0) 4)) ((mpD2 (cutC p0) 4)))).length < 9223372036854775808) && decide (((inS ((anyOpV (cutC p0) 0)) ((anyOpV (cutC p0) 2)) ((mpS1 (cutC p0) 4)) ((mpD1 (cutC p0) 4)) ((mpS2 (cutC p0) 4)) ((mpD2 (cutC p0) 4)))).length < 9223372036854775808) && decide (((inD ((anyOpV (cutC p0) 0)) ((anyOpV (cutC p0) 2)) ((mpS1 (cutC p0) 4)) ((mpD1 (cutC p0) 4)) ((mpS2 (cutC p0) 4)) ((mpD2 (cutC p0) 4)))).length < 9223372036854775808) then
  (bif (decide (((inS ((anyOpV (cutC p0) 0)) ((anyOpV (cutC p0) 2)) ((mpS1 (cutC p0) 4)) ((mpD1 (cutC p0) 4)) ((mpS2 (cutC p0) 4)) ((mpD2 (cutC p0) 4)))) = ((inS ((anyOpV (cutC p0) 0)) ((anyOpV (cutC p0) 2)) ((mpS1 (cutC p0) 4)) ((mpD1 (cutC p0) 4)) ((mpS2 (cutC p0) 4)) ((mpD2 (cutC p0) 4))))) && decide (((inD ((anyOpV (cutC p0) 0)) ((anyOpV (cutC p0) 2)) ((mpS1 (cutC p0) 4)) ((mpD1 (cutC p0) 4)) ((mpS2 (cutC p0) 4)) ((mpD2 (cutC p0) 4)))) = ((inD ((anyOpV (cutC p0) 0)) ((anyOpV (cutC p0) 2)) ((mpS1 (cutC p0) 4)) ((mpD1 (cutC p0) 4)) ((mpS2 (cutC p0) 4)) ((mpD2 (cutC p0) 4)))))) then
  some ([.one ((.bool ((inB ((anyOpV (cutC p0) 0)) ((anyOpV (cutC p0) 2)) ((mpS1 (cutC p0) 4)) ((mpD1 (cutC p0) 4)) ((mpS2 (cutC p0) 4)) ((mpD2 (cutC p0) 4))) == (inB ((anyOpV (cutC p0) 0)) ((anyOpV (cutC p0) 2)) ((mpS1 (cutC p0) 4)) ((mpD1 (cutC p0) 4)) ((mpS2 (cutC p0) 4)) ((mpD2 (cutC p0) 4))))), false)], [])
  else
  some ([.one ((.bool false), false)], []))
  else
  none)
  else
  (bif (!((inB ((anyOpV (cutC p0) 0)) ((anyOpV (cutC p0) 2)) ((mpS1 (cutC p0) 4)) ((mpD1 (cutC p0) 4)) ((mpS2 (cutC p0) 4)) ((mpD2 (cutC p0) 4))) == (inB ((anyOpV (cutC p0) 0)) ((anyOpV (cutC p0) 2)) ((mpS1 (cutC p0) 4)) ((mpD1 (cutC p0) 4)) ((mpS2 (cutC p0) 4)) ((mpD2 (cutC p0) 4))))) then
  (bif decide (((inS ((anyOpV (cutC p0) 0)) ((anyOpV (cutC p0) 2)) ((mpS1 (cutC p0) 4)) ((mpD1 (cutC p0) 4)) ((mpS2 (cutC p0) 4)) ((mpD2 (cutC p0) 4)))).length < 9223372036854775808) && decide (((inD ((anyOpV (cutC p0) 0)) ((anyOpV (cutC p0) 2)) ((mpS1 (cutC p0) 4)) ((mpD1 (cutC p0) 4)) ((mpS2 (cutC p0) 4)) ((mpD2 (cutC p0) 4)))).length < 9223372036854775808) && decide (((inS ((anyOpV (cutC p0) 0)) ((anyOpV (cutC p0) 2)) ((mpS1 (cutC p0) 4)) ((mpD1 (cutC p0) 4)) ((mpS2 (cutC p0) 4)) ((mpD2 (cutC p0) 4)))).length < 9223372036854775808) && decide (((inD ((anyOpV (cutC p0) 0)) ((anyOpV (cutC p0) 2)) ((mpS1 (cutC p0) 4)) ((mpD1 (cutC p0) 4)) ((mpS2 (cutC p0) 4)) ((mpD2 (cutC p0) 4)))).length < 9223372036854775808) then
  (bif (decide (((inS ((anyOpV (cutC p0) 0)) ((anyOpV (cutC p0) 2)) ((mpS1 (cutC p0) 4)) ((mpD1 (cutC p0) 4)) ((mpS2 (cutC p0) 4)) ((mpD2 (cutC p0) 4)))) = ((inS ((anyOpV (cutC p0) 0)) ((anyOpV (cutC p0) 2)) ((mpS1 (cutC p0) 4)) ((mpD1 (cutC p0) 4)) ((mpS2 (cutC p0) 4)) ((mpD2 (cutC p0) 4))))) && decide (((inD ((anyOpV (cutC p0) 0)) ((anyOpV (cutC p0) 2)) ((mpS1 (cutC p0) 4)) ((mpD1 (cutC p0) 4)) ((mpS2 (cutC p0) 4)) ((mpD2 (cutC p0) 4)))) = ((inD ((anyOpV (cutC p0) 0)) ((anyOpV (cutC p0) 2)) ((mpS1 (cutC p0) 4)) ((mpD1 (cutC p0) 4)) ((mpS2 (cutC p0) 4)) ((mpD2 (cutC p0) 4)))))) then
  some ([.one ((.bool ((inB ((anyOpV (cutC p0) 0)) ((anyOpV (cutC p0) 2)) ((mpS1 (cutC p0) 4)) ((mpD1 (cutC p0) 4)) ((mpS2 (cutC p0) 4)) ((mpD2 (cutC p0) 4))) == (inB ((anyOpV (cutC p0) 0)) ((anyOpV (cutC p0) 2)) ((mpS1 (cutC p0) 4)) ((mpD1 (cutC p0) 4)) ((mpS2 (cutC p0) 4)) ((mpD2 (cutC p0) 4))))), false)], [])
  else
  some ([.one ((.bool false), false)], []))
  else
  none)
  else
  (bif (!(inB ((anyOpV (cutC p0) 0)) ((anyOpV (cutC p0) 2)) ((mpS1 (cutC p0) 4)) ((mpD1 (cutC p0) 4)) ((mpS2 (cutC p0) 4)) ((mpD2 (cutC p0) 4)))) then
  (bif decide (((inS ((anyOpV (cutC p0) 0)) ((anyOpV (cutC p0) 2)) ((mpS1 (cutC p0) 4)) ((mpD1 (cutC p0) 4)) ((mpS2 (cutC p0) 4)) ((mpD2 (cutC p0) 4)))).length < 9223372036854775808) && decide (((inD ((anyOpV (cutC p0) 0)) ((anyOpV (cutC p0) 2)) ((mpS1 (cutC p0) 4)) ((mpD1 (cutC p0) 4)) ((mpS2 (cutC p0) 4)) ((mpD2 (cutC p0) 4)))).length < 9223372036854775808) && decide (((inS ((anyOpV (cutC p0) 0)) ((anyOpV (cutC p0) 2)) ((mpS1 (cutC p0) 4)) ((mpD1 (cutC p0) 4)) ((mpS2 (cutC p0) 4)) ((mpD2 (cutC p0) 4)))).length < 9223372036854775808) && decide (((inD ((anyOpV (cutC p0) 0)) ((anyOpV (cutC p0) 2)) ((mpS1 (cutC p0) 4)) ((mpD1 (cutC p0) 4)) ((mpS2 (cutC p0) 4)) ((mpD2 (cutC p0) 4)))).length < 9223372036854775808) then
  (bif (decide (((inS ((anyOpV (cutC p0) 0)) ((anyOpV (cutC p0) 2)) ((mpS1 (cutC p0) 4)) ((mpD1 (cutC p0) 4)) ((mpS2 (cutC p0) 4)) ((mpD2 (cutC p0) 4)))) = ((inS ((anyOpV (cutC p0) 0)) ((anyOpV (cutC p0) 2)) ((mpS1 (cutC p0) 4)) ((mpD1 (cutC p0) 4)) ((mpS2 (cutC p0) 4)) ((mpD2 (cutC p0) 4))))) && decide (((inD ((anyOpV (cutC p0) 0)) ((anyOpV (cutC p0) 2)) ((mpS1 (cutC p0) 4)) ((mpD1 (cutC p0) 4)) ((mpS2 (cutC p0) 4)) ((mpD2 (cutC p0) 4)))) = ((inD ((anyOpV (cutC p0) 0)) ((anyOpV (cutC p0) 2)) ((mpS1 (cutC p0) 4)) ((mpD1 (cutC p0) 4)) ((mpS2 (cutC p0) 4)) ((mpD2 (cutC p0) 4)))))) then
  some ([.one ((.bool ((inB ((anyOpV (cutC p0) 0)) ((anyOpV (cutC p0) 2)) ((mpS1 (cutC p0) 4)) ((mpD1 (cutC p0) 4)) ((mpS2 (cutC p0) 4)) ((mpD2 (cutC p0) 4))) == (inB ((anyOpV (cutC p0) 0)) ((anyOpV (cutC p0) 2)) ((mpS1 (cutC p0) 4)) ((mpD1 (cutC p0) 4)) ((mpS2 (cutC p0) 4)) ((mpD2 (cutC p0) 4))))), false)], [])
  else
  some ([.one ((.bool false), false)], []))
  else
  none)
  else
  (bif decide (((mpS1 (cutC p0) 4)).length < 9223372036854775808) && decide (((mpD1 (cutC p0) 4)).length < 9223372036854775808) then
  (bif (((rankV ((mpS1 (cutC p0) 4)) ((mpD1 (cutC p0) 4))) : Int) != 1) then
  (bif decide (((inS ((anyOpV (cutC p0) 0)) ((anyOpV (cutC p0) 2)) ((mpS1 (cutC p0) 4)) ((mpD1 (cutC p0) 4)) ((mpS2 (cutC p0) 4)) ((mpD2 (cutC p0) 4)))).length < 9223372036854775808) && decide (((inD ((anyOpV (cutC p0) 0)) ((anyOpV (cutC p0) 2)) ((mpS1 (cutC p0) 4)) ((mpD1 (cutC p0) 4)) ((mpS2 (cutC p0) 4)) ((mpD2 (cutC p0) 4)))).length < 9223372036854775808) && decide (((inS ((anyOpV (cutC p0) 0)) ((anyOpV (cutC p0) 2)) ((mpS1 (cutC p0) 4)) ((mpD1 (cutC p0) 4)) ((mpS2 (cutC p0) 4)) ((mpD2 (cutC p0) 4)))).length < 9223372036854775808) && decide (((inD ((anyOpV (cutC p0) 0)) ((anyOpV (cutC p0) 2)) ((mpS1 (cutC p0) 4)) ((mpD1 (cutC p0) 4)) ((mpS2 (cutC p0) 4)) ((mpD2 (cutC p0) 4)))).length < 9223372036854775808) then
  (bif (decide (((inS ((anyOpV (cutC p0) 0)) ((anyOpV (cutC p0) 2)) ((mpS1 (cutC p0) 4)) ((mpD1 (cutC p0) 4)) ((mpS2 (cutC p0) 4)) ((mpD2 (cutC p0) 4)))) = ((inS ((anyOpV (cutC p0) 0)) ((anyOpV (cutC p0) 2)) ((mpS1 (cutC p0) 4)) ((mpD1 (cutC p0) 4)) ((mpS2 (cutC p0) 4)) ((mpD2 (cutC p0) 4))))) && decide (((inD ((anyOpV (cutC p0) 0)) ((anyOpV (cutC p0) 2)) ((mpS1 (cutC p0) 4)) ((mpD1 (cutC p0) 4)) ((mpS2 (cutC p0) 4)) ((mpD2 (cutC p0) 4)))) = ((inD ((anyOpV (cutC p0) 0)) ((anyOpV (cutC p0) 2)) ((mpS1 (cutC p0) 4)) ((mpD1 (cutC p0) 4)) ((mpS2 (cutC p0) 4)) ((mpD2 (cutC p0) 4)))))) then
  some ([.one ((.bool ((inB ((anyOpV (cutC p0) 0)) ((anyOpV (cutC p0) 2)) ((mpS1 (cutC p0) 4)) ((mpD1 (cutC p0) 4)) ((mpS2 (cutC p0) 4)) ((mpD2 (cutC p0) 4))) == (inB ((anyOpV (cutC p0) 0)) ((anyOpV (cutC p0) 2)) ((mpS1 (cutC p0) 4)) ((mpD1 (cutC p0) 4)) ((mpS2 (cutC p0) 4)) ((mpD2 (cutC p0) 4))))), false)], [])
  else
  some ([.one ((.bool false), false)], []))
  else
  none)
  else
  (bif decide (((mpS2 (cutC p0) 4)).length < 9223372036854775808) && decide (((mpD2 (cutC p0) 4)).length < 9223372036854775808) then
  (bif (((rankV ((mpS2 (cutC p0) 4)) ((mpD2 (cutC p0) 4))) : Int) != 1) then
  (bif decide (((inS ((anyOpV (cutC p0) 0)) ((anyOpV (cutC p0) 2)) ((mpS1 (cutC p0) 4)) ((mpD1 (cutC p0) 4)) ((mpS2 (cutC p0) 4)) ((mpD2 (cutC p0) 4)))).length < 9223372036854775808) && decide (((inD ((anyOpV (cutC p0) 0)) ((anyOpV (cutC p0) 2)) ((mpS1 (cutC p0) 4)) ((mpD1 (cutC p0) 4)) ((mpS2 (cutC p0) 4)) ((mpD2 (cutC p0) 4)))).length < 9223372036854775808) && decide (((inS ((anyOpV (cutC p0) 0)) ((anyOpV (cutC p0) 2)) ((mpS1 (cutC p0) 4)) ((mpD1 (cutC p0) 4)) ((mpS2 (cutC p0) 4)) ((mpD2 (cutC p0) 4)))).length < 9223372036854775808) && decide (((inD ((anyOpV (cutC p0) 0)) ((anyOpV (cutC p0) 2)) ((mpS1 (cutC p0) 4)) ((mpD1 (cutC p0) 4)) ((mpS2 (cutC p0) 4)) ((mpD2 (cutC p0) 4)))).length < 9223372036854775808) then
  (bif (decide (((inS ((anyOpV (cutC p0) 0)) ((anyOpV (cutC p0) 2)) ((mpS1 (cutC p0) 4)) ((mpD1 (cutC p0) 4)) ((mpS2 (cutC p0) 4)) ((mpD2 (cutC p0) 4)))) = ((inS ((anyOpV (cutC p0) 0)) ((anyOpV (cutC p0) 2)) ((mpS1 (cutC p0) 4)) ((mpD1 (cutC p0) 4)) ((mpS2 (cutC p0) 4)) ((mpD2 (cutC p0) 4))))) && decide (((inD ((anyOpV (cutC p0) 0)) ((anyOpV (cutC p0) 2)) ((mpS1 (cutC p0) 4)) ((mpD1 (cutC p0) 4)) ((mpS2 (cutC p0) 4)) ((mpD2 (cutC p0) 4)))) = ((inD ((anyOpV (cutC p0) 0)) ((anyOpV (cutC p0) 2)) ((mpS1 (cutC p0) 4)) ((mpD1 (cutC p0) 4)) ((mpS2 (cutC p0) 4)) ((mpD2 (cutC p0) 4)))))) then
  some ([.one ((.bool ((inB ((anyOpV (cutC p0) 0)) ((anyOpV (cutC p0) 2)) ((mpS1 (cutC p0) 4)) ((mpD1 (cutC p0) 4)) ((mpS2 (cutC p0) 4)) ((mpD2 (cutC p0) 4))) == (inB ((anyOpV (cutC p0) 0)) ((anyOpV (cutC p0) 2)) ((mpS1 (cutC p0) 4)) ((mpD1 (cutC p0) 4)) ((mpS2 (cutC p0) 4)) ((mpD2 (cutC p0) 4))))), false)], [])
  else
  some ([.one ((.bool false), false)], []))
  else
  none)
  else
  (bif decide (((mpS1 (cutC p0) 4)).length < 9223372036854775808) && decide (((mpD1 (cutC p0) 4)).length < 9223372036854775808) && decide (((mpS2 (cutC p0) 4)).length < 9223372036854775808) && decide (((mpD2 (cutC p0) 4)).length < 9223372036854775808) then
  (bif decide (((comS ((anyOpV (cutC p0) 2)) ((mpS1 (cutC p0) 4)) ((mpD1 (cutC p0) 4)) ((mpS2 (cutC p0) 4)) ((mpD2 (cutC p0) 4)))).length < 9223372036854775808) && decide (((comD ((anyOpV (cutC p0) 2)) ((mpS1 (cutC p0) 4)) ((mpD1 (cutC p0) 4)) ((mpS2 (cutC p0) 4)) ((mpD2 (cutC p0) 4)))).length < 9223372036854775808) then
  (bif (comB ((anyOpV (cutC p0) 2)) ((mpS1 (cutC p0) 4)) ((mpD1 (cutC p0) 4)) ((mpS2 (cutC p0) 4)) ((mpD2 (cutC p0) 4))) then
  (bif (rdxB ((anyOpV (cutC p0) 0)) ((comS ((anyOpV (cutC p0) 2)) ((mpS1 (cutC p0) 4)) ((mpD1 (cutC p0) 4)) ((mpS2 (cutC p0) 4)) ((mpD2 (cutC p0) 4)))) ((comD ((anyOpV (cutC p0) 2)) ((mpS1 (cutC p0) 4)) ((mpD1 (cutC p0) 4)) ((mpS2 (cutC p0) 4)) ((mpD2 (cutC p0) 4)))) 0) then
  (bif decide (((rdxS ((anyOpV (cutC p0) 0)) ((comS ((anyOpV (cutC p0) 2)) ((mpS1 (cutC p0) 4)) ((mpD1 (cutC p0) 4)) ((mpS2 (cutC p0) 4)) ((mpD2 (cutC p0) 4)))) ((comD ((anyOpV (cutC p0) 2)) ((mpS1 (cutC p0) 4)) ((mpD1 (cutC p0) 4)) ((mpS2 (cutC p0) 4)) ((mpD2 (cutC p0) 4)))) 0)).length < 9223372036854775808) && decide (((rdxD ((anyOpV (cutC p0) 0)) ((comS ((anyOpV (cutC p0) 2)) ((mpS1 (cutC p0) 4)) ((mpD1 (cutC p0) 4)) ((mpS2 (cutC p0) 4)) ((mpD2 (cutC p0) 4)))) ((comD ((anyOpV (cutC p0) 2)) ((mpS1 (cutC p0) 4)) ((mpD1 (cutC p0) 4)) ((mpS2 (cutC p0) 4)) ((mpD2 (cutC p0) 4)))) 0)).length < 9223372036854775808) && decide (((inS ((anyOpV (cutC p0) 0)) ((anyOpV (cutC p0) 2)) ((mpS1 (cutC p0) 4)) ((mpD1 (cutC p0) 4)) ((mpS2 (cutC p0) 4)) ((mpD2 (cutC p0) 4)))).length < 9223372036854775808) && decide (((inD ((anyOpV (cutC p0) 0)) ((anyOpV (cutC p0) 2)) ((mpS1 (cutC p0) 4)) ((mpD1 (cutC p0) 4)) ((mpS2 (cutC p0) 4)) ((mpD2 (cutC p0) 4)))).length < 9223372036854775808) then
  some ([.one ((.bool (decide (((rdxS ((anyOpV (cutC p0) 0)) ((comS ((anyOpV (cutC p0) 2)) ((mpS1 (cutC p0) 4)) ((mpD1 (cutC p0) 4)) ((mpS2 (cutC p0) 4)) ((mpD2 (cutC p0) 4)))) ((comD ((anyOpV (cutC p0) 2)) ((mpS1 (cutC p0) 4)) ((mpD1 (cutC p0) 4)) ((mpS2 (cutC p0) 4)) ((mpD2 (cutC p0) 4)))) 0)) = ((inS ((anyOpV (cutC p0) 0)) ((anyOpV (cutC p0) 2)) ((mpS1 (cutC p0) 4)) ((mpD1 (cutC p0) 4)) ((mpS2 (cutC p0) 4)) ((mpD2 (cutC p0) 4))))) && decide (((rdxD ((anyOpV (cutC p0) 0)) ((comS ((anyOpV (cutC p0) 2)) ((mpS1 (cutC p0) 4)) ((mpD1 (cutC p0) 4)) ((mpS2 (cutC p0) 4)) ((mpD2 (cutC p0) 4)))) ((comD ((anyOpV (cutC p0) 2)) ((mpS1 (cutC p0) 4)) ((mpD1 (cutC p0) 4)) ((mpS2 (cutC p0) 4)) ((mpD2 (cutC p0) 4)))) 0)) = ((inD ((anyOpV (cutC p0) 0)) ((anyOpV (cutC p0) 2)) ((mpS1 (cutC p0) 4)) ((mpD1 (cutC p0) 4)) ((mpS2 (cutC p0) 4)) ((mpD2 (cutC p0) 4))))))), false)], [])
  else
  none)
  else
  some ([.one ((.bool false), false)], []))
  else
  some ([.one ((.bool false), false)], []))
  else
  none)
  else
  none))
  else
  none))
  else
  none))))
  else
  none)
  else
  none)
  else
  none)
  else
  none)) := by kernel_rfl
end laws_FnInnerProduct
theorem laws_FnInnerProduct.ok_of (hX : ∀ E ∈ laws_FnInnerProduct.X, CallSpec Try.prog E) (h : ∀ (bs : List Int), (bytesB bs) = true → ∃ fuel, runF Try.prog laws_FnInnerProduct.X laws_FnInnerProduct.I 0 fuel 8 Try.f8 [.d (.ints .u8 bs)] = some ([.one ((.bool true), false)], [])) : CallSpec Try.prog laws_FnInnerProduct.E :=
  callSpec_of (d := 0) hX (by kernel_rfl) laws_FnInnerProduct.I_ok (by kernel_rfl) (by kernel_rfl) (by kernel_rfl) (fun _ _ _ _ h => by dsimp only [laws_FnInnerProduct.E] at h; cases h) (fun xs hp => by
    dsimp only [laws_FnInnerProduct.E] at hp ⊢
    split at hp
    · exact h _ hp
    · cases hp)
theorem laws_FnInnerProduct.ok : CallSpec Try.prog laws_FnInnerProduct.E := laws_FnInnerProduct.ok_of (by simp [laws_FnInnerProduct.X, spec_DrawInnerProduct.ok, impl_InnerProduct.ok, spec_InnerProduct.ok, laws_equalArray.ok, impl_RankOf.ok, impl_Combine.ok, impl_ReduceAxis.ok]) fun bs h => by
  obtain ⟨F, hF⟩ : ∃ F : Nat, 4000 < F := ⟨4001, by omega⟩
  refine ⟨F, ?_⟩
  rw [laws_FnInnerProduct.e]
  by_cases hl : ((bs.length : Nat) : Int) > 1048576
  · rw [decide_eq_true hl]; rfl
  rw [decide_eq_false hl, cond_false, h, cond_true]
  have r0 := cut_ok h (p := 0) (by omega) (by omega)
  have r4 := rd_le (q := 4) r0 (by omega) (by omega)
  obtain ⟨a1, a2, a3, a4⟩ := mp_bd r4 (by omega)
  obtain ⟨f, hf⟩ : ∃ x, anyOpV (cutC bs) 0 = x := ⟨_, rfl⟩
  obtain ⟨g, hg⟩ : ∃ x, anyOpV (cutC bs) 2 = x := ⟨_, rfl⟩
  obtain ⟨s1, hs1⟩ : ∃ x, mpS1 (cutC bs) 4 = x := ⟨_, rfl⟩
  obtain ⟨d1, hd1⟩ : ∃ x, mpD1 (cutC bs) 4 = x := ⟨_, rfl⟩
  obtain ⟨s2, hs2⟩ : ∃ x, mpS2 (cutC bs) 4 = x := ⟨_, rfl⟩
  obtain ⟨d2, hd2⟩ : ∃ x, mpD2 (cutC bs) 4 = x := ⟨_, rfl⟩
  rw [hs1] at a1
  rw [hd1] at a2
  rw [hs2] at a3
  rw [hd2] at a4
  have g1 := lt_of (xs := s1) (by omega)
  have g2 := lt_of (xs := d1) (by omega)
  have g3 := lt_of (xs := s2) (by omega)
  have g4 := lt_of (xs := d2) (by omega)
  have il := in_len f g s1 d1 s2 d2
  have g5 := lt_of (xs := inS f g s1 d1 s2 d2) (by omega)
  have g6 := lt_of (xs := inD f g s1 d1 s2 d2) (by omega)
  simp only [hf, hg, hs1, hd1, hs2, hd2]
  cases hb : inB f g s1 d1 s2 d2 with
  | false => simp only [Bool.and_self, Bool.and_true, Bool.true_and, cond_true, cond_false, Bool.not_true, Bool.not_false, bne_self_eq_false, beq_self_eq_true, decide_true, eq_self, g1, g2, g3, g4, g5, g6, hb]
  | true =>
    have hb' := hb
    simp only [inB, Bool.and_eq_true, decide_eq_true_eq] at hb'
    obtain ⟨⟨⟨⟨⟨h1, h2⟩, h3⟩, h4⟩, h5⟩, h6⟩ := hb'
    obtain ⟨_, _, _, v1, _, _, _⟩ := axB_inv h3
    obtain ⟨_, _, _, v2, _, _, _⟩ := axB_inv h4
    have k1 : rankV s1 d1 = ((s1.length : Nat) : Int) := by simp only [rankV, v1, cond_true]
    have k2 : rankV s2 d2 = ((s2.length : Nat) : Int) := by simp only [rankV, v2, cond_true]
    by_cases r1 : s1.length = 1
    · by_cases r2 : s2.length = 1
      · have x1 : (((s1.length : Nat) : Int) != 1) = false := by rw [r1]; rfl
        have x2 : (((s2.length : Nat) : Int) != 1) = false := by rw [r2]; rfl
        have key : comB g s1 d1 s2 d2 = true ∧ rdxB f (comS g s1 d1 s2 d2) (comD g s1 d1 s2 d2) 0 = true ∧ rdxS f (comS g s1 d1 s2 d2) (comD g s1 d1 s2 d2) 0 = inS f g s1 d1 s2 d2 ∧ rdxD f (comS g s1 d1 s2 d2) (comD g s1 d1 s2 d2) 0 = inD f g s1 d1 s2 d2 := by
          rcases validS_cases (validA_inv v1).1 with rfl | ⟨a, rfl, a0, a1⟩ | ⟨a, b, rfl, _⟩ | ⟨a, b, c, rfl, _⟩
          · simp at r1
          · rcases validS_cases (validA_inv v2).1 with rfl | ⟨b, rfl, b0, b1⟩ | ⟨a', b, rfl, _⟩ | ⟨a', b, c, rfl, _⟩
            · simp at r2
            · obtain ⟨A, rfl⟩ : ∃ A : Nat, a = A := ⟨a.toNat, by omega⟩
              obtain ⟨B, rfl⟩ : ∃ A : Nat, b = A := ⟨b.toNat, by omega⟩
              have e : A = B := by simpa [lenN] using h5
              subst e
              exact in_vec h1 h2 v1 v2 hb
            · simp at r2
            · simp at r2
          · simp at r1
          · simp at r1
        obtain ⟨k3, k4, k5, k6⟩ := key
        have cl := com_len g s1 d1 s2 d2
        have g7 := lt_of (xs := comS g s1 d1 s2 d2) (by omega)
        have g8 := lt_of (xs := comD g s1 d1 s2 d2) (by omega)
        simp only [Bool.and_self, Bool.and_true, Bool.true_and, cond_true, cond_false, Bool.not_true, Bool.not_false, bne_self_eq_false, beq_self_eq_true, decide_true, eq_self, g1, g2, g3, g4, g5, g6, g7, g8, hb, k1, k2, x1, x2, k3, k4, k5, k6]
      · have x1 : (((s1.length : Nat) : Int) != 1) = false := by rw [r1]; rfl
        have x2 : (((s2.length : Nat) : Int) != 1) = true := bne_iff_ne.2 (by omega)
        simp only [Bool.and_self, Bool.and_true, Bool.true_and, cond_true, cond_false, Bool.not_true, Bool.not_false, bne_self_eq_false, beq_self_eq_true, decide_true, eq_self, g1, g2, g3, g4, g5, g6, hb, k1, k2, x1, x2]
    · have x1 : (((s1.length : Nat) : Int) != 1) = true := bne_iff_ne.2 (by omega)
      simp only [Bool.and_self, Bool.and_true, Bool.true_and, cond_true, cond_false, Bool.not_true, Bool.not_false, bne_self_eq_false, beq_self_eq_true, decide_true, eq_self, g1, g2, g3, g4, g5, g6, hb, k1, k2, x1]

end Go.Ab
