import Derived.Test.YtfmcgkknapnaiaaEz1
import Derived.Test.YtfmcgkknapnaiaaProg
import Derived.Test.YtfmcgkknapnaiaaChecked
open Go Go.Ab Go.Proofs
set_option maxRecDepth 100000
set_option linter.unusedVariables false
set_option linter.unusedSimpArgs false
namespace Go.Ab
namespace spec_fold
noncomputable def E : Entry := ⟨43, true, false, fun | [.d (.int .i64 op), .d (.ints .i64 xs)] => opOk op && decide (xs.length < 9223372036854775808) | _ => false, fun | [.d (.int .i64 op), .d (.ints .i64 xs)] => ([.one ((.int .i64 (redF op xs)), false)], []) | _ => ([], []), fun _ => [], false, fun _ => none⟩
end spec_fold
namespace spec_fold
noncomputable def X : List Entry := [spec_neutral.E, spec_operate.E]
noncomputable def I : List Inl := [⟨43, Try.f43, ⟨[], [(1000005, [2, 3, 4, 7, 8, 9, 10, 11, 12, 13, 14, 15, 16, 17, 18, 19, 20, 21, 22, 23, 24, 25, 26, 27, 28, 29, 30, 31, 32])], [], [], [], []⟩⟩]
theorem I_ok : ∀ i ∈ I, Try.prog.funcs[i.f]? = some i.fn ∧ (i.fn.name == "runtime.NumGoroutine") = false := by
  intro i hi
  simp only [I, List.mem_cons, List.not_mem_nil, or_false] at hi
  subst hi
  exact ⟨by kernel_rfl, by kernel_rfl⟩
noncomputable abbrev L0 (fuel n : Nat) (s : St) (k : Kont) := lAt Try.prog X I fuel true 0 false 43 (bodyOf Try.f43) [1, 1, 1, 0, 1, 0] n s k
noncomputable abbrev k0  (fuel : Nat) : Kont := (kAt Try.prog X I fuel true 0 false 43 (bodyOf Try.f43) [1, 1, 1, 0, 1, 0] [] (endK Try.prog Try.f43))
noncomputable def t0 (p0 : Int) (p1 : List Int) (x0q2 : Int) (x0q3 : Int) : St := ⟨[(.imm (.int .i64 p0)), (.imm (.ints .i64 p1)), .dead, .dead, .dead, (.imm (.int .i64 x0q2)), (.imm (.int .i64 x0q3)), .dead, .dead, .dead, .dead, .dead, .dead, .dead, .dead, .dead, .dead, .dead, .dead, .dead, .dead, .dead, .dead, .dead, .dead, .dead, .dead, .dead, .dead, .dead, .dead, .dead, .dead], hOf [], [], []⟩
theorem e (fuel : Nat) (p0 : Int) (p1 : List Int) : runF Try.prog X I 0 fuel 43 Try.f43 [.d (.int .i64 p0), .d (.ints .i64 p1)] =
  (bif ((((p1.length : Nat) : Int) : Int) == 0) then
  (bif opOk p0 then
  some ([.one ((.int .i64 (neuF p0)), false)], [])
  else
  none)
  else
  (idx (IntKind.wrap .i64 (((p1.length : Nat) : Int) - 1)) p1.length).bind fun j1 =>
  (p1[j1]?).bind fun v2 =>
  L0 fuel fuel (t0 p0 p1 v2 ((IntKind.wrap .i64 (((p1.length : Nat) : Int) - 2)))) (k0  fuel)) := by kernel_rfl
theorem s0 (fuel n0 : Nat) (p0 : Int) (p1 : List Int) (x0q2 : Int) (x0q3 : Int) : L0 fuel (n0 + 1) (t0 p0 p1 x0q2 x0q3) (k0  fuel) =
  (bif (decide ((x0q3 : Int) ≥ 0)) then
  (idx x0q3 p1.length).bind fun j7 =>
  (p1[j7]?).bind fun v8 =>
  L0 fuel n0 (t0 p0 p1 ((operF p0 v8 x0q2)) ((IntKind.wrap .i64 (x0q3 - 1)))) (k0  fuel)
  else
  some ([.one ((.int .i64 x0q2), false)], [])) := by kernel_rfl
end spec_fold
theorem spec_fold.ok_of (hX : ∀ E ∈ spec_fold.X, CallSpec Try.prog E) (h : ∀ (op : Int) (xs : List Int), (opOk op && decide (xs.length < 9223372036854775808)) = true → ∃ fuel, runF Try.prog spec_fold.X spec_fold.I 0 fuel 43 Try.f43 [.d (.int .i64 op), .d (.ints .i64 xs)] = some ([.one ((.int .i64 (redF op xs)), false)], [])) : CallSpec Try.prog spec_fold.E :=
  callSpec_of (d := 0) hX (by kernel_rfl) spec_fold.I_ok (by kernel_rfl) (by kernel_rfl) (by kernel_rfl) (fun _ _ _ _ h => by dsimp only [spec_fold.E] at h; cases h) (fun xs hp => by
    dsimp only [spec_fold.E] at hp ⊢
    split at hp
    · exact h _ _ hp
    · cases hp)
theorem spec_fold.ok : CallSpec Try.prog spec_fold.E := spec_fold.ok_of (by simp [spec_fold.X, spec_neutral.ok, spec_operate.ok]) fun op xs h => ⟨xs.length + 1, by
  simp only [Bool.and_eq_true, decide_eq_true_eq] at h
  rw [spec_fold.e, len0]
  by_cases h0 : xs.length = 0
  · have h0' := List.length_eq_zero_iff.mp h0
    subst h0'
    rw [decide_eq_true h0, h.1]
    simp only [cond_true, redF, neuV, h.1]
  · obtain ⟨k, hk⟩ : ∃ k, xs.length = k + 1 := ⟨xs.length - 1, by omega⟩
    have e1 : ((xs.length : Nat) : Int) - 1 = (k : Int) := by omega
    have hkl : k < xs.length := by omega
    rw [decide_eq_false h0, cond_false, wS (by omega) (by omega), wS (by omega) (by omega), e1, idx_nat hkl]
    simp only [Option.bind_some, getD_get hkl]
    rw [show ((xs.length : Nat) : Int) - 2 = (k : Int) - 1 - ((0 : Nat) : Int) by omega]
    refine run_loop (N := k) (fun n j acc => spec_fold.L0 (xs.length + 1) n (spec_fold.t0 op xs acc ((k : Int) - 1 - (j : Int))) (spec_fold.k0 (xs.length + 1))) (fun j acc => acc = redF op (xs.drop (k - j))) ?_ ?_ (xs.length + 1) 0 _ (by omega) (by omega) (by rw [Nat.sub_zero, redF_last (by omega)])
    · intro n acc ho
      rw [spec_fold.s0, decide_eq_false (by omega), ho, Nat.sub_self, List.drop_zero]
      rfl
    · intro n j acc hj ho
      obtain ⟨i, hi⟩ : ∃ i, k - j = i + 1 := ⟨k - j - 1, by omega⟩
      have hil : i < xs.length := by omega
      have e1 : (k : Int) - 1 - (j : Int) = (i : Int) := by omega
      rw [e1, spec_fold.s0, decide_eq_true (by omega), idx_nat hil, wS (by omega) (by omega)]
      simp only [cond_true, Option.bind_some, getD_get hil]
      refine ⟨_, ?_, by rw [show (k : Int) - 1 - ((j + 1 : Nat) : Int) = (i : Int) - 1 by omega]⟩
      rw [ho, hi, show k - (j + 1) = i by omega]
      exact (redF_drop (by omega)).symm⟩

namespace spec_InnerProduct
noncomputable def E : Entry := ⟨17, false, false, fun | [.d (.int .i64 f), .d (.int .i64 g), .d (.agg [(.ints .i64 sa), (.ints .i64 da)]), .d (.agg [(.ints .i64 sb), (.ints .i64 db)])] => decide (sa.length < 9223372036854775808) && decide (da.length < 9223372036854775808) && decide (sb.length < 9223372036854775808) && decide (db.length < 9223372036854775808) | _ => false, fun | [.d (.int .i64 f), .d (.int .i64 g), .d (.agg [(.ints .i64 sa), (.ints .i64 da)]), .d (.agg [(.ints .i64 sb), (.ints .i64 db)])] => ([.agg [((.ints .i64 (inS f g sa da sb db)), true), ((.ints .i64 (inD f g sa da sb db)), true)], .one ((.bool (inB f g sa da sb db)), false)], []) | _ => ([], []), fun _ => [], true, fun _ => none⟩
end spec_InnerProduct
namespace spec_InnerProduct
noncomputable def X : List Entry := [spec_validOp.E, spec_valid.E, spec_validShape.E, spec_volume.E, spec_lane.E, spec_vector.E, spec_combine.E, spec_fold.E, spec_make1.E]
noncomputable def I : List Inl := [⟨17, Try.f17, ⟨[102, 105, 110, 112, 113, 120], [(1000009, [2, 3, 4, 5, 9, 14, 15, 16, 17, 18, 19, 20, 21, 22, 23, 24, 25, 26, 27, 28, 29, 30, 31, 32, 33, 34, 35, 36, 37, 38, 39, 40, 41, 42, 43, 44, 45, 46, 47, 48, 49, 50, 51, 52, 53, 54, 55, 56, 57, 58, 59, 60, 61, 62, 63, 64, 65, 66, 67, 68, 69, 70, 71, 72, 73, 74, 75, 76, 77, 78, 79, 80, 81, 82, 83, 84, 85, 86, 87, 88, 89, 90, 91, 92, 93, 94, 95, 96, 97, 98, 99, 100, 101, 102, 103, 104, 105, 106, 107, 108, 109, 110, 111, 112, 113, 114, 115, 116, 117, 118, 119, 120]), (1000012, [2, 3, 4, 5, 9, 15, 16, 17, 18, 19, 20, 21, 22, 23, 24, 25, 26, 27, 28, 29, 30, 31, 32, 33, 34, 35, 36, 37, 38, 39, 40, 41, 42, 43, 44, 45, 46, 47, 48, 49, 50, 51, 52, 53, 54, 55, 56, 57, 58, 59, 60, 61, 62, 63, 64, 65, 66, 67, 68, 69, 70, 71, 72, 73, 74, 75, 76, 77, 78, 79, 80, 81, 82, 83, 84, 85, 86, 87, 88, 89, 90, 91, 92, 93, 94, 95, 96, 97, 98, 99, 100, 101, 102, 103, 104, 105, 106, 107, 108, 109, 110, 111, 112, 113, 114, 115, 116, 117, 118, 119, 120])], [(4, [7])], [(1, [0, 1, 2, 3, 4, 5, 6, 7, 8, 9, 10, 11, 12, 13, 14, 15, 16, 17, 18, 19, 20, 21, 22, 23, 24, 25, 26, 27, 28, 29, 30, 31, 33, 39, 32, 34, 35, 36, 37, 38, 40, 41, 42, 43, 44]), (4, [1, 3, 6, 7, 8, 2, 4, 0, 5, 9, 10])], [74, 75], []⟩⟩]
theorem I_ok : ∀ i ∈ I, Try.prog.funcs[i.f]? = some i.fn ∧ (i.fn.name == "runtime.NumGoroutine") = false := by
  intro i hi
  simp only [I, List.mem_cons, List.not_mem_nil, or_false] at hi
  subst hi
  exact ⟨by kernel_rfl, by kernel_rfl⟩
noncomputable abbrev L0 (fuel n : Nat) (s : St) (k : Kont) := lAt Try.prog X I fuel true 0 false 17 (bodyOf Try.f17) [1, 1, 1, 1, 1, 1, 0, 1, 0] n s k
noncomputable abbrev k0  (fuel : Nat) : Kont := (kAt Try.prog X I fuel true 0 false 17 (bodyOf Try.f17) [1, 1, 1, 1, 1, 1, 0, 1, 0] [] (endK Try.prog Try.f17))
noncomputable def t0 (p0 : Int) (p1 : Int) (p3q0 : List Int) (p3q1 : List Int) (p2q0 : List Int) (p2q1 : List Int) (cq6 : Nat × Nat) (cq5 : Nat × Nat) (x0q5 : Int) (x0q9 : List Int) : St := ⟨[(.imm (.int .i64 p0)), (.imm (.int .i64 p1)), .dead, .dead, .dead, .dead, (.ptr 1000000000 0 0), (.dptr [(.ints .i64 p3q0), (.ints .i64 p3q1)] 0), (.ptr 1000000001 0 0), .dead, (.imm (.int .i64 (IntKind.wrap .i64 (((p2q0.length : Nat) : Int) - 1)))), (.all 1000000002 1), (.all 1000000003 1), (.imm (.int .i64 x0q5)), .dead, .dead, .dead, .dead, .dead, .dead, .dead, .dead, .dead, .dead, .dead, .dead, .dead, .dead, .dead, .dead, .dead, .dead, .dead, .dead, .dead, .dead, .dead, .dead, .dead, .dead, .dead, .dead, .dead, .dead, .dead, .dead, .dead, .dead, .dead, .dead, .dead, .dead, .dead, .dead, .dead, .dead, .dead, .dead, .dead, .dead, .dead, .dead, .dead, .dead, .dead, .dead, .dead, .dead, .dead, .dead, .dead, .dead, .dead, .dead, .dead, .dead, .dead, .dead, .dead, .dead, .dead, .dead, .dead, .dead, .dead, .dead, .dead, .dead, .dead, .dead, .dead, .dead, .dead, .dead, .dead, .dead, .dead, .dead, .dead, .dead, .dead, .dead, .dead, .dead, .dead, .dead, .dead, .dead, .dead, .dead, .dead, .dead, .dead, .dead, .dead, .dead, .dead, .dead, .dead, .dead, .dead], hOf [(1000000000, (.box [(.imm (.ints .i64 p2q0)), (.imm (.ints .i64 p2q1))])), (1000000001, (.box [(.imm .nils), (.imm .nils)])), (1000000002, (.ints .i64 ((([] : List Int) ++ ((p2q0.drop cq6.1).take (cq6.2 - cq6.1))) ++ ((p3q0.drop cq5.1).take (cq5.2 - cq5.1))))), (1000000003, (.ints .i64 x0q9))], [], []⟩
noncomputable abbrev L1 (fuel n : Nat) (s : St) (k : Kont) := lAt Try.prog X I fuel true 0 false 17 (bodyOf Try.f17) [1, 1, 1, 1, 1, 1, 0, 1, 0, 0, 1, 0, 0, 1, 0] n s k
noncomputable abbrev k1 (n0 : Nat) (fuel : Nat) : Kont := (kAt Try.prog X I fuel true 0 false 17 (bodyOf Try.f17) [1, 1, 1, 1, 1, 1, 0, 1, 0, 0, 1, 0, 0, 1, 0] [n0] (endK Try.prog Try.f17))
noncomputable def t1 (p0 : Int) (p1 : Int) (p3q0 : List Int) (p3q1 : List Int) (p2q0 : List Int) (x0q5 : Int) (p2q1 : List Int) (cq6 : Nat × Nat) (cq5 : Nat × Nat) (x1q6 : Int) (x1q10 : List Int) : St := ⟨[(.imm (.int .i64 p0)), (.imm (.int .i64 p1)), .dead, .dead, .dead, .dead, (.ptr 1000000000 0 0), (.dptr [(.ints .i64 p3q0), (.ints .i64 p3q1)] 0), (.ptr 1000000001 0 0), .dead, (.imm (.int .i64 (IntKind.wrap .i64 (((p2q0.length : Nat) : Int) - 1)))), (.all 1000000002 1), (.all 1000000003 1), (.imm (.int .i64 x0q5)), (.imm (.int .i64 x1q6)), .dead, .dead, .dead, .dead, .dead, .dead, .dead, .dead, .dead, .dead, .dead, .dead, .dead, .dead, .dead, .dead, .dead, .dead, .dead, .dead, .dead, .dead, .dead, .dead, .dead, .dead, .dead, .dead, .dead, .dead, .dead, .dead, .dead, .dead, .dead, .dead, .dead, .dead, .dead, .dead, .dead, .dead, .dead, .dead, .dead, .dead, .dead, .dead, .dead, .dead, .dead, .dead, .dead, .dead, .dead, .dead, .dead, .dead, .dead, .dead, .dead, .dead, .dead, .dead, .dead, .dead, .dead, .dead, .dead, .dead, .dead, .dead, .dead, .dead, .dead, .dead, .dead, .dead, .dead, .dead, .dead, .dead, .dead, .dead, .dead, .dead, .dead, .dead, .dead, .dead, .dead, .dead, .dead, .dead, .dead, .dead, .dead, .dead, .dead, .dead, .dead, .dead, .dead, .dead, .dead, .dead], hOf [(1000000000, (.box [(.imm (.ints .i64 p2q0)), (.imm (.ints .i64 p2q1))])), (1000000001, (.box [(.imm .nils), (.imm .nils)])), (1000000002, (.ints .i64 ((([] : List Int) ++ ((p2q0.drop cq6.1).take (cq6.2 - cq6.1))) ++ ((p3q0.drop cq5.1).take (cq5.2 - cq5.1))))), (1000000003, (.ints .i64 x1q10))], [], []⟩
theorem e (fuel : Nat) (p0 : Int) (p1 : Int) (p2q0 : List Int) (p2q1 : List Int) (p3q0 : List Int) (p3q1 : List Int) : runF Try.prog X I 0 fuel 17 Try.f17 [.d (.int .i64 p0), .d (.int .i64 p1), .d (.agg [(.ints .i64 p2q0), (.ints .i64 p2q1)]), .d (.agg [(.ints .i64 p3q0), (.ints .i64 p3q1)])] =
  (bif (!(opOk p0)) then
  some ([.agg [((.ints .i64 []), true), ((.ints .i64 []), true)], .one ((.bool false), false)], [])
  else
  (bif (!(opOk p1)) then
  some ([.agg [((.ints .i64 []), true), ((.ints .i64 []), true)], .one ((.bool false), false)], [])
  else
  (bif decide (p2q0.length < 9223372036854775808) && decide (p2q1.length < 9223372036854775808) then
  (bif (!(validA p2q0 p2q1)) then
  some ([.agg [((.ints .i64 []), true), ((.ints .i64 []), true)], .one ((.bool false), false)], [])
  else
  (bif decide (p3q0.length < 9223372036854775808) && decide (p3q1.length < 9223372036854775808) then
  (bif (!(validA p3q0 p3q1)) then
  some ([.agg [((.ints .i64 []), true), ((.ints .i64 []), true)], .one ((.bool false), false)], [])
  else
  (bif ((((p2q0.length : Nat) : Int) : Int) == 0) then
  some ([.agg [((.ints .i64 []), true), ((.ints .i64 []), true)], .one ((.bool false), false)], [])
  else
  (bif ((((p3q0.length : Nat) : Int) : Int) == 0) then
  some ([.agg [((.ints .i64 []), true), ((.ints .i64 []), true)], .one ((.bool false), false)], [])
  else
  (idx (IntKind.wrap .i64 (((p2q0.length : Nat) : Int) - 1)) p2q0.length).bind fun j1 =>
  (p2q0[j1]?).bind fun v2 =>
  (idx 0 p3q0.length).bind fun j3 =>
  (p3q0[j3]?).bind fun v4 =>
  (bif ((v2 : Int) != v4) then
  some ([.agg [((.ints .i64 []), true), ((.ints .i64 []), true)], .one ((.bool false), false)], [])
  else
  (cutEnds p3q0.length (some (.imm (.int .i64 1))) (none)).bind fun cq5 =>
  (cutEnds p2q0.length (none) (some (.imm (.int .i64 (IntKind.wrap .i64 (((p2q0.length : Nat) : Int) - 1)))))).bind fun cq6 =>
  (bif fits (([] : List Int).length + ((p2q0.drop cq6.1).take (cq6.2 - cq6.1)).length) 8 then
  (bif fits ((([] : List Int) ++ ((p2q0.drop cq6.1).take (cq6.2 - cq6.1))).length + ((p3q0.drop cq5.1).take (cq5.2 - cq5.1)).length) 8 then
  (bif decide ((((([] : List Int) ++ ((p2q0.drop cq6.1).take (cq6.2 - cq6.1))) ++ ((p3q0.drop cq5.1).take (cq5.2 - cq5.1)))).length < 9223372036854775808) then
  (bif (!(validS (((([] : List Int) ++ ((p2q0.drop cq6.1).take (cq6.2 - cq6.1))) ++ ((p3q0.drop cq5.1).take (cq5.2 - cq5.1)))))) then
  some ([.agg [((.ints .i64 []), true), ((.ints .i64 []), true)], .one ((.bool false), false)], [])
  else
  L0 fuel fuel (t0 p0 p1 p3q0 p3q1 p2q0 p2q1 cq6 cq5 0 ([])) (k0  fuel))
  else
  none)
  else
  none)
  else
  none)))))
  else
  none))
  else
  none))) := by kernel_rfl
theorem s0 (fuel n0 : Nat) (p0 : Int) (p1 : Int) (p3q0 : List Int) (p3q1 : List Int) (p2q0 : List Int) (p2q1 : List Int) (cq6 : Nat × Nat) (cq5 : Nat × Nat) (x0q5 : Int) (x0q9 : List Int) : L0 fuel (n0 + 1) (t0 p0 p1 p3q0 p3q1 p2q0 p2q1 cq6 cq5 x0q5 x0q9) (k0  fuel) =
  (cutEnds p2q0.length (none) (some (.imm (.int .i64 (IntKind.wrap .i64 (((p2q0.length : Nat) : Int) - 1)))))).bind fun cq14 =>
  (bif decide ((((p2q0.drop cq14.1).take (cq14.2 - cq14.1))).length < 9223372036854775808) then
  (bif (decide ((x0q5 : Int) < (volW (((p2q0.drop cq14.1).take (cq14.2 - cq14.1)))))) then
  L1 fuel fuel (t1 p0 p1 p3q0 p3q1 p2q0 x0q5 p2q1 cq6 cq5 0 x0q9) (k1 n0 fuel)
  else
  (bif szB (((([] : List Int) ++ ((p2q0.drop cq6.1).take (cq6.2 - cq6.1))) ++ ((p3q0.drop cq5.1).take (cq5.2 - cq5.1)))) && szB x0q9 then
  some ([.agg [((.ints .i64 (((([] : List Int) ++ ((p2q0.drop cq6.1).take (cq6.2 - cq6.1))) ++ ((p3q0.drop cq5.1).take (cq5.2 - cq5.1))))), true), ((.ints .i64 x0q9), true)], .one ((.bool true), false)], [])
  else
  none))
  else
  none) := by kernel_rfl
theorem s1 (fuel n0 n1 : Nat) (p0 : Int) (p1 : Int) (p3q0 : List Int) (p3q1 : List Int) (p2q0 : List Int) (x0q5 : Int) (p2q1 : List Int) (cq6 : Nat × Nat) (cq5 : Nat × Nat) (x1q6 : Int) (x1q10 : List Int) : L1 fuel (n1 + 1) (t1 p0 p1 p3q0 p3q1 p2q0 x0q5 p2q1 cq6 cq5 x1q6 x1q10) (k1 n0 fuel) =
  (cutEnds p3q0.length (some (.imm (.int .i64 1))) (none)).bind fun cq16 =>
  (bif decide ((((p3q0.drop cq16.1).take (cq16.2 - cq16.1))).length < 9223372036854775808) then
  (bif (decide ((x1q6 : Int) < (volW (((p3q0.drop cq16.1).take (cq16.2 - cq16.1)))))) then
  (bif axB p2q0 p2q1 ((IntKind.wrap .i64 (((p2q0.length : Nat) : Int) - 1))) && laneB p2q0 ((IntKind.wrap .i64 (((p2q0.length : Nat) : Int) - 1))) x0q5 0 then
  (bif axB p3q0 p3q1 0 && laneB p3q0 0 0 x1q6 then
  (bif szB ((lnK p2q0 p2q1 ((IntKind.wrap .i64 (((p2q0.length : Nat) : Int) - 1))) (Int.toNat x0q5) (Int.toNat 0))) then
  (bif szB ((lnK p3q0 p3q1 0 (Int.toNat 0) (Int.toNat x1q6))) then
  (bif validA ([((((lnK p2q0 p2q1 ((IntKind.wrap .i64 (((p2q0.length : Nat) : Int) - 1))) (Int.toNat x0q5) (Int.toNat 0))).length : Nat) : Int)]) (((lnK p2q0 p2q1 ((IntKind.wrap .i64 (((p2q0.length : Nat) : Int) - 1))) (Int.toNat x0q5) (Int.toNat 0)))) && validA ([((((lnK p3q0 p3q1 0 (Int.toNat 0) (Int.toNat x1q6))).length : Nat) : Int)]) (((lnK p3q0 p3q1 0 (Int.toNat 0) (Int.toNat x1q6)))) && fitB ([((((lnK p2q0 p2q1 ((IntKind.wrap .i64 (((p2q0.length : Nat) : Int) - 1))) (Int.toNat x0q5) (Int.toNat 0))).length : Nat) : Int)]) ([((((lnK p3q0 p3q1 0 (Int.toNat 0) (Int.toNat x1q6))).length : Nat) : Int)]) then
  (bif opOk p0 && decide (((cD p1 ([((((lnK p2q0 p2q1 ((IntKind.wrap .i64 (((p2q0.length : Nat) : Int) - 1))) (Int.toNat x0q5) (Int.toNat 0))).length : Nat) : Int)]) (((lnK p2q0 p2q1 ((IntKind.wrap .i64 (((p2q0.length : Nat) : Int) - 1))) (Int.toNat x0q5) (Int.toNat 0)))) ([((((lnK p3q0 p3q1 0 (Int.toNat 0) (Int.toNat x1q6))).length : Nat) : Int)]) (((lnK p3q0 p3q1 0 (Int.toNat 0) (Int.toNat x1q6)))))).length < 9223372036854775808) then
  (bif fits (x1q10.length + ([(redF p0 ((cD p1 ([((((lnK p2q0 p2q1 ((IntKind.wrap .i64 (((p2q0.length : Nat) : Int) - 1))) (Int.toNat x0q5) (Int.toNat 0))).length : Nat) : Int)]) (((lnK p2q0 p2q1 ((IntKind.wrap .i64 (((p2q0.length : Nat) : Int) - 1))) (Int.toNat x0q5) (Int.toNat 0)))) ([((((lnK p3q0 p3q1 0 (Int.toNat 0) (Int.toNat x1q6))).length : Nat) : Int)]) (((lnK p3q0 p3q1 0 (Int.toNat 0) (Int.toNat x1q6)))))))] : List Int).length) 8 then
  L1 fuel n1 (t1 p0 p1 p3q0 p3q1 p2q0 x0q5 p2q1 cq6 cq5 ((IntKind.wrap .i64 (x1q6 + 1))) ((x1q10 ++ [(redF p0 ((cD p1 ([((((lnK p2q0 p2q1 ((IntKind.wrap .i64 (((p2q0.length : Nat) : Int) - 1))) (Int.toNat x0q5) (Int.toNat 0))).length : Nat) : Int)]) (((lnK p2q0 p2q1 ((IntKind.wrap .i64 (((p2q0.length : Nat) : Int) - 1))) (Int.toNat x0q5) (Int.toNat 0)))) ([((((lnK p3q0 p3q1 0 (Int.toNat 0) (Int.toNat x1q6))).length : Nat) : Int)]) (((lnK p3q0 p3q1 0 (Int.toNat 0) (Int.toNat x1q6)))))))]))) (k1 n0 fuel)
  else
  none)
  else
  none)
  else
  none)
  else
  none)
  else
  none)
  else
  none)
  else
  none)
  else
  L0 fuel n0 (t0 p0 p1 p3q0 p3q1 p2q0 p2q1 cq6 cq5 ((IntKind.wrap .i64 (x0q5 + 1))) x1q10) (k0  fuel))
  else
  none) := by kernel_rfl
end spec_InnerProduct
theorem spec_InnerProduct.ok_of (hX : ∀ E ∈ spec_InnerProduct.X, CallSpec Try.prog E) (h : ∀ (f : Int) (g : Int) (sa : List Int) (da : List Int) (sb : List Int) (db : List Int), (decide (sa.length < 9223372036854775808) && decide (da.length < 9223372036854775808) && decide (sb.length < 9223372036854775808) && decide (db.length < 9223372036854775808)) = true → ∃ fuel, runF Try.prog spec_InnerProduct.X spec_InnerProduct.I 0 fuel 17 Try.f17 [.d (.int .i64 f), .d (.int .i64 g), .d (.agg [(.ints .i64 sa), (.ints .i64 da)]), .d (.agg [(.ints .i64 sb), (.ints .i64 db)])] = some ([.agg [((.ints .i64 (inS f g sa da sb db)), true), ((.ints .i64 (inD f g sa da sb db)), true)], .one ((.bool (inB f g sa da sb db)), false)], [])) : CallSpec Try.prog spec_InnerProduct.E :=
  callSpec_of (d := 0) hX (by kernel_rfl) spec_InnerProduct.I_ok (by kernel_rfl) (by kernel_rfl) (by kernel_rfl) (fun _ _ _ _ h => by dsimp only [spec_InnerProduct.E] at h; cases h) (fun xs hp => by
    dsimp only [spec_InnerProduct.E] at hp ⊢
    split at hp
    · exact h _ _ _ _ _ _ hp
    · cases hp)
theorem spec_InnerProduct.inner (fuel n0 : Nat) (f g : Int) (sa da sb db : List Int) (hb : inB f g sa da sb db = true) (hf : 3600 < fuel) (c6 c5 : Nat × Nat) (i : Nat) (hi : i < befN sa (sa.length - 1)) :
    spec_InnerProduct.L1 fuel fuel (spec_InnerProduct.t1 f g sb db sa (i : Int) da c6 c5 0 ((inN f g sa da sb db).take (i * behN sb 0))) (spec_InnerProduct.k1 n0 fuel) = spec_InnerProduct.L0 fuel n0 (spec_InnerProduct.t0 f g sb db sa da c6 c5 ((IntKind.wrap .i64 ((i : Int) + 1))) ((inN f g sa da sb db).take ((i + 1) * behN sb 0))) (spec_InnerProduct.k0 fuel) := by
  obtain ⟨hA, hvs, hvol, h60⟩ := inB_A hb
  obtain ⟨a1, a2, a3, a4, a5, a6, a7⟩ := inA_inv hA
  simp only [inB, Bool.and_eq_true] at hb
  obtain ⟨ja, hja, hja2, hva, axa, hda, _⟩ := axB_inv a1
  obtain ⟨jb, hjb, hjb2, hvb, axb, hdb, _⟩ := axB_inv a2
  have hja3 : ja = sa.length - 1 := by omega
  have hjb3 : jb = 0 := by omega
  subst hja3
  subst hjb3
  have hr := axa.rank
  have hrb := axb.rank
  have hM := axb.beh_le
  have hLa := axa.len_le
  have hlN : (inN f g sa da sb db).length = befN sa (sa.length - 1) * behN sb 0 := by simp only [inN, tab_length, inSh_prod]
  have hprod := inSh_prod (sa := sa) (sb := sb)
  have hK : IntKind.wrap .i64 (((sa.length : Nat) : Int) - 1) = inK sa := by unfold inK; rw [wS (by omega) (by omega)]
  have c2 := cut_one (n := sb.length) (by omega)
  have hdr : (sb.drop 1).take (sb.length - 1) = sb.drop 1 := drop_take
  have hvd := axb.beh
  refine run_loop (N := behN sb 0) (fun n m out => spec_InnerProduct.L1 fuel n (spec_InnerProduct.t1 f g sb db sa (i : Int) da c6 c5 (m : Int) out) (spec_InnerProduct.k1 n0 fuel)) (fun m out => out = (inN f g sa da sb db).take (i * behN sb 0 + m)) ?_ ?_ fuel 0 _ (by omega) (by omega) rfl
  · intro n out ho
    rw [spec_InnerProduct.s1, c2]
    simp only [Option.bind_some, hdr]
    rw [lt_of (by simp only [List.length_drop]; omega), cond_true, hvd, dge (by omega), cond_false, ho, Nat.add_mul, Nat.one_mul]
  · intro n m out hm ho
    obtain ⟨e1, e2, e3⟩ := enc2 hi hm
    have hol : out.length = i * behN sb 0 + m := by rw [ho, take_len (by omega)]
    have hx : lnK sa da (inK sa) i 0 = inX sa da sb (i * behN sb 0 + m) := by rw [inX, e2]
    have hy : lnK sb db 0 0 m = inY sb db (i * behN sb 0 + m) := by rw [inY, e3]
    have l1 := inX_length (sa := sa) (da := da) (sb := sb) (n := i * behN sb 0 + m) a5
    have l2 := inY_length (sb := sb) (db := db) (n := i * behN sb 0 + m)
    have hl1 : laneB sa (inK sa) (i : Int) 0 = true := by
      simp only [laneB, a6, Int.toNat_natCast, a7, Bool.and_eq_true, decide_eq_true_eq]
      refine ⟨⟨⟨by omega, by omega⟩, by omega⟩, by omega⟩
    have hl2 : laneB sb 0 0 (m : Int) = true := by
      simp only [laneB, show (0 : Int).toNat = 0 from rfl, show befN sb 0 = 1 from rfl, Bool.and_eq_true, decide_eq_true_eq]
      refine ⟨⟨⟨by omega, by omega⟩, by omega⟩, by omega⟩
    obtain ⟨x1, x2, x3, x4, x5⟩ := inX_eq hA (n := i * behN sb 0 + m) (by omega)
    have v1 := lnD_valid hva hja2 (i := i) (m := 0) hi (by omega)
    have v2 := lnD_valid hvb hjb2 (i := 0) (m := m) (by rw [x5]; omega) hm
    rw [e2] at x1
    rw [e3] at x2
    rw [← x1] at v1
    rw [← x2] at v2
    have v1' : validA [(((inX sa da sb (i * behN sb 0 + m)).length : Nat) : Int)] (inX sa da sb (i * behN sb 0 + m)) = true := by rw [l1]; exact v1
    have v2' : validA [(((inY sb db (i * behN sb 0 + m)).length : Nat) : Int)] (inY sb db (i * behN sb 0 + m)) = true := by rw [l2]; exact v2
    have hfit : fitB [(((inX sa da sb (i * behN sb 0 + m)).length : Nat) : Int)] [(((inY sb db (i * behN sb 0 + m)).length : Nat) : Int)] = true := by
      rw [l1, l2, a3]
      simp [fitB]
    have hcd := cD_vec g (ys := inY sb db (i * behN sb 0 + m)) v1' (by omega)
    rw [spec_InnerProduct.s1, c2]
    simp only [Option.bind_some, hdr, hK, Int.toNat_natCast, show Int.toNat 0 = 0 from rfl]
    rw [lt_of (by simp only [List.length_drop]; omega), cond_true, hvd, dlt hm, cond_true, a1, a2, hl1, hl2, hx, hy, szB_of (by omega), szB_of (by omega), v1', v2', hfit, hcd, hb.1.1.1.1.1, lt_of (by rw [pwD_q2, tab_length]; omega), w1 (by omega)]
    simp only [Bool.and_self, cond_true]
    rw [fitsOk (by simp only [List.length_cons, List.length_nil]; omega), cond_true]
    refine ⟨_, ?_, rfl⟩
    rw [ho]
    refine take_push (by omega) ?_
    simp only [inN]
    rw [tab_getD (by omega)]
    rfl
theorem spec_InnerProduct.loop (fuel : Nat) (f g : Int) (sa da sb db : List Int) (hb : inB f g sa da sb db = true) (hf : 3600 < fuel) :
    spec_InnerProduct.L0 fuel fuel (spec_InnerProduct.t0 f g sb db sa da (0, sa.length - 1) (1, sb.length) 0 []) (spec_InnerProduct.k0 fuel) = some ([.agg [((.ints .i64 (inSh sa sb)), true), ((.ints .i64 (inN f g sa da sb db)), true)], .one ((.bool true), false)], []) := by
  obtain ⟨hA, hvs, hvol, h60⟩ := inB_A hb
  obtain ⟨a1, a2, a3, a4, a5, a6, a7⟩ := inA_inv hA
  obtain ⟨ja, hja, hja2, hva, axa, hda, _⟩ := axB_inv a1
  obtain ⟨jb, hjb, hjb2, hvb, axb, hdb, _⟩ := axB_inv a2
  have hja3 : ja = sa.length - 1 := by omega
  subst hja3
  have hr := axa.rank
  have hrb := axb.rank
  have hM := axa.bef_le
  have hK : IntKind.wrap .i64 (((sa.length : Nat) : Int) - 1) = ((sa.length - 1 : Nat) : Int) := by rw [wS (by omega) (by omega)]; omega
  have c1 : cutEnds sa.length none (some (.imm (.int .i64 ((sa.length - 1 : Nat) : Int)))) = some (0, sa.length - 1) := cut_hi (by omega)
  have hlN : (inN f g sa da sb db).length = befN sa (sa.length - 1) * behN sb 0 := by simp only [inN, tab_length, inSh_prod]
  have hprod := inSh_prod (sa := sa) (sb := sb)
  have htk : (sa.drop 0).take (sa.length - 1 - 0) = sa.take (sa.length - 1) := by rw [List.drop_zero, Nat.sub_zero]
  have hvt := axa.bef
  refine run_loop (N := befN sa (sa.length - 1)) (fun n i out => spec_InnerProduct.L0 fuel n (spec_InnerProduct.t0 f g sb db sa da (0, sa.length - 1) (1, sb.length) (i : Int) out) (spec_InnerProduct.k0 fuel)) (fun i out => out = (inN f g sa da sb db).take (i * behN sb 0)) ?_ ?_ fuel 0 _ (by omega) (by omega) (by simp)
  · intro n out ho
    rw [← hlN, List.take_length] at ho
    rw [spec_InnerProduct.s0, hK, c1]
    simp only [Option.bind_some, htk]
    rw [lt_of (by simp only [List.length_take]; omega), cond_true, hvt, dge (by omega), cond_false, List.nil_append, ← htk, in_parts, szB_of (by simp only [inSh, List.length_append, List.length_take, List.length_drop]; omega), szB_of (by rw [ho]; omega), ho]
    rfl
  · intro n i out hi ho
    rw [spec_InnerProduct.s0, hK, c1]
    simp only [Option.bind_some, htk]
    rw [lt_of (by simp only [List.length_take]; omega), cond_true, hvt, dlt hi, cond_true, ho, spec_InnerProduct.inner fuel n f g sa da sb db hb hf _ _ i hi, w1 (by omega)]
    exact ⟨_, rfl, rfl⟩
theorem spec_InnerProduct.ok : CallSpec Try.prog spec_InnerProduct.E := spec_InnerProduct.ok_of (by simp [spec_InnerProduct.X, spec_validOp.ok, spec_valid.ok, spec_validShape.ok, spec_volume.ok, spec_lane.ok, spec_vector.ok, spec_combine.ok, spec_fold.ok, spec_make1.ok]) fun f g sa da sb db h => by
  obtain ⟨F, hF⟩ : ∃ F : Nat, 3600 < F := ⟨3601, by omega⟩
  refine ⟨F, ?_⟩
  simp only [Bool.and_eq_true] at h
  rw [spec_InnerProduct.e, h.1.1.1, h.1.1.2, h.1.2, h.2]
  unfold inS inD
  cases h1 : opOk f with
  | false => simp only [inB, h1]; rfl
  | true =>
    cases h2 : opOk g with
    | false => simp only [inB, h1, h2]; rfl
    | true =>
      cases h3 : validA sa da with
      | false => simp only [inB, h1, h2, axB, h3]; rfl
      | true =>
        cases h4 : validA sb db with
        | false => simp only [inB, h1, h2, axB, h3, h4, Bool.false_and, Bool.and_false]; rfl
        | true =>
          have hr := (validS_inv (validA_inv h3).1).1
          have hrb := (validS_inv (validA_inv h4).1).1
          by_cases h5 : sa.length = 0
          · have : inB f g sa da sb db = false := by
              have : axOk sa (inK sa) = false := by simp only [axOk, inK]; simp; omega
              simp only [inB, axB, this, Bool.and_false, Bool.false_and]
            rw [this, h5]; rfl
          · have q5 : (((sa.length : Nat) : Int) == 0) = false := by rw [beq_eq_false_iff_ne]; omega
            by_cases h6 : sb.length = 0
            · have : inB f g sa da sb db = false := by
                have : axOk sb 0 = false := by rw [axOk, decide_eq_false (p := (0 : Int) < ((sb.length : Nat) : Int)) (by omega), Bool.and_false]
                simp only [inB, axB, this, Bool.and_false, Bool.false_and]
              rw [this, h6, q5]; rfl
            · have q6 : (((sb.length : Nat) : Int) == 0) = false := by rw [beq_eq_false_iff_ne]; omega
              have a1 : axB sa da (inK sa) = true := by
                rw [show inK sa = ((sa.length - 1 : Nat) : Int) by unfold inK; omega]; exact axB_of h3 (by omega)
              have a2 : axB sb db 0 = true := axB_of (k := 0) h4 (by omega)
              have axa := ax_of (validA_inv h3).1 (k := sa.length - 1) (by omega)
              have axb := ax_of (validA_inv h4).1 (k := 0) (by omega)
              have hK : IntKind.wrap .i64 (((sa.length : Nat) : Int) - 1) = ((sa.length - 1 : Nat) : Int) := by rw [wS (by omega) (by omega)]; omega
              have i0 : idx 0 sb.length = some 0 := idx_nat (j := 0) (by omega)
              have c1 : cutEnds sa.length none (some (.imm (.int .i64 ((sa.length - 1 : Nat) : Int)))) = some (0, sa.length - 1) := cut_hi (by omega)
              have c2 := cut_one (n := sb.length) (by omega)
              have g1 := getD_get (A := sa) (n := sa.length - 1) (by omega)
              have g2 := getD_get (A := sb) (n := 0) (by omega)
              rw [axa.len] at g1
              rw [axb.len] at g2
              rw [q5, q6, hK, idx_nat (j := sa.length - 1) (by omega), i0]
              simp only [Option.bind_some, g1, g2, c1, c2]
              by_cases h7 : lenN sa (sa.length - 1) = lenN sb 0
              · have hne : (((lenN sb 0 : Nat) : Int) != ((lenN sb 0 : Nat) : Int)) = false := by simp
                rw [h7, hne, fitsOk (by simp only [List.length_nil, List.length_take, List.length_drop]; omega), fitsOk (by simp only [List.length_nil, List.nil_append, List.length_take, List.length_drop]; omega), List.nil_append, in_parts, lt_of (by simp only [inSh, List.length_append, List.length_take, List.length_drop]; omega)]
                cases h8 : validS (inSh sa sb) with
                | false =>
                  have : inB f g sa da sb db = false := by simp only [inB, h8, Bool.and_false]
                  rw [this]; rfl
                | true =>
                  have hb : inB f g sa da sb db = true := by simp only [inB, h1, h2, a1, a2, h7, h8, decide_true, Bool.and_self]
                  rw [hb]
                  exact spec_InnerProduct.loop F f g sa da sb db hb hF
              · have hne : (((lenN sa (sa.length - 1) : Nat) : Int) != ((lenN sb 0 : Nat) : Int)) = true := by simp; omega
                have : inB f g sa da sb db = false := by simp only [inB, decide_eq_false h7, Bool.and_false, Bool.false_and]
                rw [hne, this]; rfl

namespace spec_SumProduct
noncomputable def E : Entry := ⟨7, false, false, fun | [.d (.agg [(.ints .i64 sa), (.ints .i64 da)]), .d (.agg [(.ints .i64 sb), (.ints .i64 db)])] => decide (sa.length < 9223372036854775808) && decide (da.length < 9223372036854775808) && decide (sb.length < 9223372036854775808) && decide (db.length < 9223372036854775808) | _ => false, fun | [.d (.agg [(.ints .i64 sa), (.ints .i64 da)]), .d (.agg [(.ints .i64 sb), (.ints .i64 db)])] => ([.agg [((.ints .i64 (inS 1 3 sa da sb db)), true), ((.ints .i64 (inD 1 3 sa da sb db)), true)], .one ((.bool (inB 1 3 sa da sb db)), false)], []) | _ => ([], []), fun _ => [], true, fun _ => none⟩
end spec_SumProduct
namespace spec_SumProduct
noncomputable def X : List Entry := [spec_InnerProduct.E]
noncomputable def I : List Inl := [⟨7, Try.f7, ⟨[8], [], [], [], [], []⟩⟩]
theorem I_ok : ∀ i ∈ I, Try.prog.funcs[i.f]? = some i.fn ∧ (i.fn.name == "runtime.NumGoroutine") = false := by
  intro i hi
  simp only [I, List.mem_cons, List.not_mem_nil, or_false] at hi
  subst hi
  exact ⟨by kernel_rfl, by kernel_rfl⟩
theorem e (fuel : Nat) (p0q0 : List Int) (p0q1 : List Int) (p1q0 : List Int) (p1q1 : List Int) : runF Try.prog X I 0 fuel 7 Try.f7 [.d (.agg [(.ints .i64 p0q0), (.ints .i64 p0q1)]), .d (.agg [(.ints .i64 p1q0), (.ints .i64 p1q1)])] =
  (bif decide (p0q0.length < 9223372036854775808) && decide (p0q1.length < 9223372036854775808) && decide (p1q0.length < 9223372036854775808) && decide (p1q1.length < 9223372036854775808) then
  some ([.agg [((.ints .i64 (inS 1 3 p0q0 p0q1 p1q0 p1q1)), true), ((.ints .i64 (inD 1 3 p0q0 p0q1 p1q0 p1q1)), true)], .one ((.bool (inB 1 3 p0q0 p0q1 p1q0 p1q1)), false)], [])
  else
  none) := by kernel_rfl
end spec_SumProduct
theorem spec_SumProduct.ok_of (hX : ∀ E ∈ spec_SumProduct.X, CallSpec Try.prog E) (h : ∀ (sa : List Int) (da : List Int) (sb : List Int) (db : List Int), (decide (sa.length < 9223372036854775808) && decide (da.length < 9223372036854775808) && decide (sb.length < 9223372036854775808) && decide (db.length < 9223372036854775808)) = true → ∃ fuel, runF Try.prog spec_SumProduct.X spec_SumProduct.I 0 fuel 7 Try.f7 [.d (.agg [(.ints .i64 sa), (.ints .i64 da)]), .d (.agg [(.ints .i64 sb), (.ints .i64 db)])] = some ([.agg [((.ints .i64 (inS 1 3 sa da sb db)), true), ((.ints .i64 (inD 1 3 sa da sb db)), true)], .one ((.bool (inB 1 3 sa da sb db)), false)], [])) : CallSpec Try.prog spec_SumProduct.E :=
  callSpec_of (d := 0) hX (by kernel_rfl) spec_SumProduct.I_ok (by kernel_rfl) (by kernel_rfl) (by kernel_rfl) (fun _ _ _ _ h => by dsimp only [spec_SumProduct.E] at h; cases h) (fun xs hp => by
    dsimp only [spec_SumProduct.E] at hp ⊢
    split at hp
    · exact h _ _ _ _ hp
    · cases hp)
theorem spec_SumProduct.ok : CallSpec Try.prog spec_SumProduct.E := spec_SumProduct.ok_of (by simp [spec_SumProduct.X, spec_InnerProduct.ok]) fun sa da sb db h => ⟨0, by
  rw [spec_SumProduct.e, h]
  rfl⟩

namespace laws_equalInts
noncomputable def E : Entry := ⟨13, true, false, fun | [.d (.ints .i64 xs), .d (.ints .i64 ys)] => decide (xs.length < 9223372036854775808) && decide (ys.length < 9223372036854775808) | _ => false, fun | [.d (.ints .i64 xs), .d (.ints .i64 ys)] => ([.one ((.bool (decide (xs = ys))), false)], []) | _ => ([], []), fun _ => [], false, fun _ => none⟩
end laws_equalInts
namespace laws_equalInts
noncomputable def X : List Entry := []
noncomputable def I : List Inl := [⟨13, Try.f13, ⟨[], [(1000004, [2, 3, 4, 6, 7, 8, 9, 10, 11, 12, 13, 14, 15, 16, 17, 18, 19, 20, 21, 22, 23, 24, 25])], [], [(6, [0, 1, 4, 5, 2, 3, 6, 7, 8])], [], []⟩⟩]
theorem I_ok : ∀ i ∈ I, Try.prog.funcs[i.f]? = some i.fn ∧ (i.fn.name == "runtime.NumGoroutine") = false := by
  intro i hi
  simp only [I, List.mem_cons, List.not_mem_nil, or_false] at hi
  subst hi
  exact ⟨by kernel_rfl, by kernel_rfl⟩
noncomputable abbrev L0 (fuel n : Nat) (s : St) (k : Kont) := lAt Try.prog X I fuel true 0 false 13 (bodyOf Try.f13) [1, 1, 0, 1, 0] n s k
noncomputable abbrev k0  (fuel : Nat) : Kont := (kAt Try.prog X I fuel true 0 false 13 (bodyOf Try.f13) [1, 1, 0, 1, 0] [] (endK Try.prog Try.f13))
noncomputable def t0 (p0 : List Int) (p1 : List Int) (x0q2 : Int) : St := ⟨[(.imm (.ints .i64 p0)), (.imm (.ints .i64 p1)), .dead, .dead, .dead, (.imm (.int .i64 x0q2)), .dead, .dead, .dead, .dead, .dead, .dead, .dead, .dead, .dead, .dead, .dead, .dead, .dead, .dead, .dead, .dead, .dead, .dead, .dead, .dead], hOf [], [], []⟩
theorem e (fuel : Nat) (p0 : List Int) (p1 : List Int) : runF Try.prog X I 0 fuel 13 Try.f13 [.d (.ints .i64 p0), .d (.ints .i64 p1)] =
  (bif ((((p0.length : Nat) : Int) : Int) != ((p1.length : Nat) : Int)) then
  some ([.one ((.bool false), false)], [])
  else
  L0 fuel fuel (t0 p0 p1 0) (k0  fuel)) := by kernel_rfl
theorem s0 (fuel n0 : Nat) (p0 : List Int) (p1 : List Int) (x0q2 : Int) : L0 fuel (n0 + 1) (t0 p0 p1 x0q2) (k0  fuel) =
  (bif (decide ((x0q2 : Int) < ((p0.length : Nat) : Int))) then
  (idx x0q2 p0.length).bind fun j9 =>
  (p0[j9]?).bind fun v10 =>
  (idx x0q2 p1.length).bind fun j11 =>
  (p1[j11]?).bind fun v12 =>
  (bif ((v10 : Int) != v12) then
  some ([.one ((.bool false), false)], [])
  else
  L0 fuel n0 (t0 p0 p1 ((IntKind.wrap .i64 (x0q2 + 1)))) (k0  fuel))
  else
  some ([.one ((.bool true), false)], [])) := by kernel_rfl
end laws_equalInts
theorem laws_equalInts.ok_of (hX : ∀ E ∈ laws_equalInts.X, CallSpec Try.prog E) (h : ∀ (xs : List Int) (ys : List Int), (decide (xs.length < 9223372036854775808) && decide (ys.length < 9223372036854775808)) = true → ∃ fuel, runF Try.prog laws_equalInts.X laws_equalInts.I 0 fuel 13 Try.f13 [.d (.ints .i64 xs), .d (.ints .i64 ys)] = some ([.one ((.bool (decide (xs = ys))), false)], [])) : CallSpec Try.prog laws_equalInts.E :=
  callSpec_of (d := 0) hX (by kernel_rfl) laws_equalInts.I_ok (by kernel_rfl) (by kernel_rfl) (by kernel_rfl) (fun _ _ _ _ h => by dsimp only [laws_equalInts.E] at h; cases h) (fun xs hp => by
    dsimp only [laws_equalInts.E] at hp ⊢
    split at hp
    · exact h _ _ hp
    · cases hp)
theorem laws_equalInts.loop (fuel : Nat) (xs ys : List Int) (hl : xs.length = ys.length) (hx : xs.length < 9223372036854775808) : ∀ (m n j : Nat), xs.length - j = m → m < n → j ≤ xs.length →
    laws_equalInts.L0 fuel n (laws_equalInts.t0 xs ys (j : Int)) (laws_equalInts.k0 fuel) = some ([.one (.bool (decide (xs.drop j = ys.drop j)), false)], []) := by
  intro m
  induction m with
  | zero =>
    intro n j h1 h2 h3
    obtain ⟨n, rfl⟩ : ∃ n', n = n' + 1 := ⟨n - 1, by omega⟩
    have hj : ¬ j < xs.length := by omega
    rw [laws_equalInts.s0, dge hj, dropE hj, dropE (xs := ys) (by omega)]
    rfl
  | succ m ih =>
    intro n j h1 h2 h3
    obtain ⟨n, rfl⟩ : ∃ n', n = n' + 1 := ⟨n - 1, by omega⟩
    have hj : j < xs.length := by omega
    have hj2 : j < ys.length := by omega
    rw [laws_equalInts.s0, dlt hj, idx_nat hj, idx_nat hj2, w1 (by omega), dropS hj, dropS hj2]
    simp only [cond_true, Option.bind_some, getS hj, getS hj2]
    rw [ih n (j + 1) (by omega) (by omega) (by omega)]
    by_cases hv : xs[j] = ys[j]
    · rw [hv]
      simp only [bne_self_eq_false, cond_false, List.cons.injEq, true_and]
    · have : (xs[j] != ys[j]) = true := by simp [hv]
      rw [this]
      simp only [cond_true, List.cons.injEq, hv, false_and, decide_false]

theorem laws_equalInts.ok : CallSpec Try.prog laws_equalInts.E := laws_equalInts.ok_of (by simp [laws_equalInts.X]) fun xs ys h => by
  simp only [Bool.and_eq_true, decide_eq_true_eq] at h
  refine ⟨xs.length + 1, ?_⟩
  rw [laws_equalInts.e]
  by_cases hl : xs.length = ys.length
  · have := laws_equalInts.loop (xs.length + 1) xs ys hl h.1 xs.length (xs.length + 1) 0 (by omega) (by omega) (by omega)
    simp only [List.drop_zero] at this
    simp only [hl, bne_self_eq_false, cond_false]
    rw [← hl]
    exact this
  · have hne : xs ≠ ys := fun e => hl (e ▸ rfl)
    have : (((xs.length : Nat) : Int) != ((ys.length : Nat) : Int)) = true := by simp; omega
    rw [this]
    simp [hne]

namespace laws_equalArray
noncomputable def E : Entry := ⟨8, true, false, fun | [.d (.agg [(.ints .i64 sa), (.ints .i64 da)]), .d (.agg [(.ints .i64 sb), (.ints .i64 db)])] => decide (sa.length < 9223372036854775808) && decide (da.length < 9223372036854775808) && decide (sb.length < 9223372036854775808) && decide (db.length < 9223372036854775808) | _ => false, fun | [.d (.agg [(.ints .i64 sa), (.ints .i64 da)]), .d (.agg [(.ints .i64 sb), (.ints .i64 db)])] => ([.one ((.bool (decide (sa = sb) && decide (da = db))), false)], []) | _ => ([], []), fun _ => [], false, fun _ => none⟩
end laws_equalArray
namespace laws_equalArray
noncomputable def X : List Entry := [laws_equalInts.E]
noncomputable def I : List Inl := [⟨8, Try.f8, ⟨[], [], [], [], [], []⟩⟩]
theorem I_ok : ∀ i ∈ I, Try.prog.funcs[i.f]? = some i.fn ∧ (i.fn.name == "runtime.NumGoroutine") = false := by
  intro i hi
  simp only [I, List.mem_cons, List.not_mem_nil, or_false] at hi
  subst hi
  exact ⟨by kernel_rfl, by kernel_rfl⟩
theorem e (fuel : Nat) (p0q0 : List Int) (p0q1 : List Int) (p1q0 : List Int) (p1q1 : List Int) : runF Try.prog X I 0 fuel 8 Try.f8 [.d (.agg [(.ints .i64 p0q0), (.ints .i64 p0q1)]), .d (.agg [(.ints .i64 p1q0), (.ints .i64 p1q1)])] =
  (bif decide (p0q0.length < 9223372036854775808) && decide (p1q0.length < 9223372036854775808) then
  (bif (decide (p0q0 = p1q0)) then
  (bif decide (p0q1.length < 9223372036854775808) && decide (p1q1.length < 9223372036854775808) then
  some ([.one ((.bool (decide (p0q1 = p1q1))), false)], [])
  else
  none)
  else
  some ([.one ((.bool false), false)], []))
  else
  none) := by kernel_rfl
end laws_equalArray
theorem laws_equalArray.ok_of (hX : ∀ E ∈ laws_equalArray.X, CallSpec Try.prog E) (h : ∀ (sa : List Int) (da : List Int) (sb : List Int) (db : List Int), (decide (sa.length < 9223372036854775808) && decide (da.length < 9223372036854775808) && decide (sb.length < 9223372036854775808) && decide (db.length < 9223372036854775808)) = true → ∃ fuel, runF Try.prog laws_equalArray.X laws_equalArray.I 0 fuel 8 Try.f8 [.d (.agg [(.ints .i64 sa), (.ints .i64 da)]), .d (.agg [(.ints .i64 sb), (.ints .i64 db)])] = some ([.one ((.bool (decide (sa = sb) && decide (da = db))), false)], [])) : CallSpec Try.prog laws_equalArray.E :=
  callSpec_of (d := 0) hX (by kernel_rfl) laws_equalArray.I_ok (by kernel_rfl) (by kernel_rfl) (by kernel_rfl) (fun _ _ _ _ h => by dsimp only [laws_equalArray.E] at h; cases h) (fun xs hp => by
    dsimp only [laws_equalArray.E] at hp ⊢
    split at hp
    · exact h _ _ _ _ hp
    · cases hp)
theorem laws_equalArray.ok : CallSpec Try.prog laws_equalArray.E := laws_equalArray.ok_of (by simp [laws_equalArray.X, laws_equalInts.ok]) fun sa da sb db h => ⟨0, by
  simp only [Bool.and_eq_true, decide_eq_true_eq] at h
  obtain ⟨⟨⟨h1, h2⟩, h3⟩, h4⟩ := h
  rw [laws_equalArray.e]
  simp only [h1, h2, h3, h4, decide_true, Bool.and_self, cond_true]
  cases decide (sa = sb) <;> cases decide (da = db) <;> rfl⟩

namespace impl_ScalarOf
noncomputable def E : Entry := ⟨12, false, false, fun | [.d (.int .i64 v)] => true | _ => false, fun | [.d (.int .i64 v)] => ([.agg [((.ints .i64 nilI), true), ((.ints .i64 (scalL v)), true)]], []) | _ => ([], []), fun _ => [], true, fun _ => none⟩
end impl_ScalarOf
namespace impl_ScalarOf
noncomputable def X : List Entry := [impl_isNumber.E]
noncomputable def I : List Inl := [⟨12, Try.f12, ⟨[], [], [], [], [], []⟩⟩]
theorem I_ok : ∀ i ∈ I, Try.prog.funcs[i.f]? = some i.fn ∧ (i.fn.name == "runtime.NumGoroutine") = false := by
  intro i hi
  simp only [I, List.mem_cons, List.not_mem_nil, or_false] at hi
  subst hi
  exact ⟨by kernel_rfl, by kernel_rfl⟩
theorem e (fuel : Nat) (p0 : Int) : runF Try.prog X I 0 fuel 12 Try.f12 [.d (.int .i64 p0)] =
  (bif (!(numB p0)) then
  some ([.agg [((.ints .i64 []), true), ((.ints .i64 []), true)]], [])
  else
  some ([.agg [((.ints .i64 []), true), ((.ints .i64 [p0]), true)]], [])) := by kernel_rfl
end impl_ScalarOf
theorem impl_ScalarOf.ok_of (hX : ∀ E ∈ impl_ScalarOf.X, CallSpec Try.prog E) (h : ∀ (v : Int), (true) = true → ∃ fuel, runF Try.prog impl_ScalarOf.X impl_ScalarOf.I 0 fuel 12 Try.f12 [.d (.int .i64 v)] = some ([.agg [((.ints .i64 nilI), true), ((.ints .i64 (scalL v)), true)]], [])) : CallSpec Try.prog impl_ScalarOf.E :=
  callSpec_of (d := 0) hX (by kernel_rfl) impl_ScalarOf.I_ok (by kernel_rfl) (by kernel_rfl) (by kernel_rfl) (fun _ _ _ _ h => by dsimp only [impl_ScalarOf.E] at h; cases h) (fun xs hp => by
    dsimp only [impl_ScalarOf.E] at hp ⊢
    split at hp
    · exact h _ hp
    · cases hp)
theorem impl_ScalarOf.ok : CallSpec Try.prog impl_ScalarOf.E := impl_ScalarOf.ok_of (by simp [impl_ScalarOf.X, impl_isNumber.ok]) fun v _ => ⟨0, by
  rw [impl_ScalarOf.e]
  unfold scalL
  cases numB v <;> rfl⟩

namespace impl_copyList
noncomputable def E : Entry := ⟨25, false, false, fun | [.d (.ints .i64 xs)] => szB xs | _ => false, fun | [.d (.ints .i64 xs)] => ([.one ((.ints .i64 xs), true)], []) | _ => ([], []), fun _ => [], true, fun _ => none⟩
end impl_copyList
namespace impl_copyList
noncomputable def X : List Entry := []
noncomputable def I : List Inl := [⟨25, Try.f25, ⟨[], [], [], [], [], []⟩⟩]
theorem I_ok : ∀ i ∈ I, Try.prog.funcs[i.f]? = some i.fn ∧ (i.fn.name == "runtime.NumGoroutine") = false := by
  intro i hi
  simp only [I, List.mem_cons, List.not_mem_nil, or_false] at hi
  subst hi
  exact ⟨by kernel_rfl, by kernel_rfl⟩
theorem e (fuel : Nat) (p0 : List Int) : runF Try.prog X I 0 fuel 25 Try.f25 [.d (.ints .i64 p0)] =
  (bif decide (0 ≤ (((p0.length : Nat) : Int) : Int)) && decide ((((p0.length : Nat) : Int) : Int) ≤ ((p0.length : Nat) : Int)) && decide ((((p0.length : Nat) : Int) : Int) ≤ 1152921504606846976) && decide (((8 : Nat) : Int) * ((p0.length : Nat) : Int) ≤ 281474976710656) then
  some ([.one ((.ints .i64 (copyL (List.replicate (((p0.length : Nat) : Int)).toNat (0 : Int)) 0 (List.replicate (((p0.length : Nat) : Int)).toNat (0 : Int)).length p0)), true)], [])
  else
  none) := by kernel_rfl
end impl_copyList
theorem impl_copyList.ok_of (hX : ∀ E ∈ impl_copyList.X, CallSpec Try.prog E) (h : ∀ (xs : List Int), (szB xs) = true → ∃ fuel, runF Try.prog impl_copyList.X impl_copyList.I 0 fuel 25 Try.f25 [.d (.ints .i64 xs)] = some ([.one ((.ints .i64 xs), true)], [])) : CallSpec Try.prog impl_copyList.E :=
  callSpec_of (d := 0) hX (by kernel_rfl) impl_copyList.I_ok (by kernel_rfl) (by kernel_rfl) (by kernel_rfl) (fun _ _ _ _ h => by dsimp only [impl_copyList.E] at h; cases h) (fun xs hp => by
    dsimp only [impl_copyList.E] at hp ⊢
    split at hp
    · exact h _ hp
    · cases hp)
theorem impl_copyList.ok : CallSpec Try.prog impl_copyList.E := impl_copyList.ok_of (by simp [impl_copyList.X]) fun xs h => ⟨0, by
  have hx := szB_le h
  rw [impl_copyList.e, mkOk (by omega) (by omega)]
  simp only [cond_true, Int.toNat_natCast, copyL_all]⟩

namespace impl_Reshape
noncomputable def E : Entry := ⟨23, false, false, fun | [.d (.ints .i64 sh), .d (.agg [(.ints .i64 s2), (.ints .i64 da)])] => decide (sh.length < 9223372036854775808) && decide (s2.length < 9223372036854775808) && decide (da.length < 9223372036854775808) | _ => false, fun | [.d (.ints .i64 sh), .d (.agg [(.ints .i64 s2), (.ints .i64 da)])] => ([.agg [((.ints .i64 (reshS sh s2 da)), true), ((.ints .i64 (reshD sh s2 da)), true)], .one ((.bool (reshB sh s2 da)), false)], []) | _ => ([], []), fun _ => [], true, fun _ => none⟩
end impl_Reshape
namespace impl_Reshape
noncomputable def X : List Entry := [impl_layoutOf.E, impl_ValidArray.E, impl_copyList.E]
noncomputable def I : List Inl := [⟨23, Try.f23, ⟨[12, 49], [(1000007, [1, 2, 5, 6, 7, 9, 10, 11, 12, 13, 14, 15, 16, 17, 18, 19, 20, 21, 22, 23, 24, 25, 26, 27, 28, 29, 30, 33, 34, 35, 36, 37, 38, 39, 40, 41, 42, 43, 44, 45, 46, 47, 48, 49, 50, 51])], [], [(9, [0, 1, 2, 4, 5, 3, 6, 7, 8, 9, 10, 11, 12])], [], []⟩⟩]
theorem I_ok : ∀ i ∈ I, Try.prog.funcs[i.f]? = some i.fn ∧ (i.fn.name == "runtime.NumGoroutine") = false := by
  intro i hi
  simp only [I, List.mem_cons, List.not_mem_nil, or_false] at hi
  subst hi
  exact ⟨by kernel_rfl, by kernel_rfl⟩
noncomputable abbrev L0 (fuel n : Nat) (s : St) (k : Kont) := lAt Try.prog X I fuel true 0 false 23 (bodyOf Try.f23) [1, 1, 1, 1, 0, 1, 0, 1, 0] n s k
noncomputable abbrev k0  (fuel : Nat) : Kont := (kAt Try.prog X I fuel true 0 false 23 (bodyOf Try.f23) [1, 1, 1, 1, 0, 1, 0, 1, 0] [] (endK Try.prog Try.f23))
noncomputable def t0 (p0 : List Int) (p1q0 : List Int) (p1q1 : List Int) (x0q2 : Int) (x0q5 : List Int) : St := ⟨[(.imm (.ints .i64 p0)), .dead, .dead, (.ptr 1000000000 0 0), (.ptr 1000000001 0 0), .dead, .dead, .dead, (.all 1000000002 1), .dead, .dead, .dead, .dead, .dead, .dead, .dead, .dead, .dead, .dead, .dead, .dead, .dead, .dead, .dead, .dead, .dead, .dead, .dead, .dead, .dead, .dead, (.imm (.int .i64 (((List.replicate ((volW p0)).toNat (0 : Int)).length : Nat) : Int))), (.imm (.int .i64 x0q2)), .dead, .dead, .dead, .dead, .dead, .dead, .dead, .dead, .dead, .dead, .dead, .dead, .dead, .dead, .dead, .dead, .dead, .dead, .dead], hOf [(1000000000, (.box [(.imm (.ints .i64 p1q0)), (.imm (.ints .i64 p1q1))])), (1000000001, (.box [(.imm .nils), (.imm .nils)])), (1000000002, (.ints .i64 x0q5))], [], []⟩
theorem e (fuel : Nat) (p0 : List Int) (p1q0 : List Int) (p1q1 : List Int) : runF Try.prog X I 0 fuel 23 Try.f23 [.d (.ints .i64 p0), .d (.agg [(.ints .i64 p1q0), (.ints .i64 p1q1)])] =
  (bif decide (p0.length < 9223372036854775808) then
  (bif validS p0 then
  (bif decide (p1q0.length < 9223372036854775808) && decide (p1q1.length < 9223372036854775808) then
  (bif (!(validA p1q0 p1q1)) then
  some ([.agg [((.ints .i64 []), true), ((.ints .i64 []), true)], .one ((.bool false), false)], [])
  else
  (bif decide (0 ≤ ((volW p0) : Int)) && decide (((volW p0) : Int) ≤ (volW p0)) && decide (((volW p0) : Int) ≤ 1152921504606846976) && decide (((8 : Nat) : Int) * (volW p0) ≤ 281474976710656) then
  (bif (decide ((((p1q1.length : Nat) : Int) : Int) > 0)) then
  L0 fuel fuel (t0 p0 p1q0 p1q1 0 ((List.replicate ((volW p0)).toNat (0 : Int)))) (k0  fuel)
  else
  (bif szB p0 then
  some ([.agg [((.ints .i64 p0), true), ((.ints .i64 (List.replicate ((volW p0)).toNat (0 : Int))), true)], .one ((.bool true), false)], [])
  else
  none))
  else
  none))
  else
  none)
  else
  some ([.agg [((.ints .i64 []), true), ((.ints .i64 []), true)], .one ((.bool false), false)], []))
  else
  none) := by kernel_rfl
theorem s0 (fuel n0 : Nat) (p0 : List Int) (p1q0 : List Int) (p1q1 : List Int) (x0q2 : Int) (x0q5 : List Int) : L0 fuel (n0 + 1) (t0 p0 p1q0 p1q1 x0q2 x0q5) (k0  fuel) =
  (bif (decide ((x0q2 : Int) < (((List.replicate ((volW p0)).toNat (0 : Int)).length : Nat) : Int))) then
  (bif decide ((((p1q1.length : Nat) : Int) : Int) = 0) then
  none
  else
  (idx (Int.tmod x0q2 ((p1q1.length : Nat) : Int)) p1q1.length).bind fun j7 =>
  (p1q1[j7]?).bind fun v8 =>
  (idx x0q2 x0q5.length).bind fun j9 =>
  (bif decide (j9 < x0q5.length) then
  L0 fuel n0 (t0 p0 p1q0 p1q1 ((IntKind.wrap .i64 (x0q2 + 1))) ((x0q5.set j9 v8))) (k0  fuel)
  else
  none))
  else
  (bif szB p0 then
  some ([.agg [((.ints .i64 p0), true), ((.ints .i64 x0q5), true)], .one ((.bool true), false)], [])
  else
  none)) := by kernel_rfl
end impl_Reshape
theorem impl_Reshape.ok_of (hX : ∀ E ∈ impl_Reshape.X, CallSpec Try.prog E) (h : ∀ (sh : List Int) (s2 : List Int) (da : List Int), (decide (sh.length < 9223372036854775808) && decide (s2.length < 9223372036854775808) && decide (da.length < 9223372036854775808)) = true → ∃ fuel, runF Try.prog impl_Reshape.X impl_Reshape.I 0 fuel 23 Try.f23 [.d (.ints .i64 sh), .d (.agg [(.ints .i64 s2), (.ints .i64 da)])] = some ([.agg [((.ints .i64 (reshS sh s2 da)), true), ((.ints .i64 (reshD sh s2 da)), true)], .one ((.bool (reshB sh s2 da)), false)], [])) : CallSpec Try.prog impl_Reshape.E :=
  callSpec_of (d := 0) hX (by kernel_rfl) impl_Reshape.I_ok (by kernel_rfl) (by kernel_rfl) (by kernel_rfl) (fun _ _ _ _ h => by dsimp only [impl_Reshape.E] at h; cases h) (fun xs hp => by
    dsimp only [impl_Reshape.E] at hp ⊢
    split at hp
    · exact h _ _ _ hp
    · cases hp)
theorem impl_Reshape.loop (fuel : Nat) (sh s2 da : List Int) (hv : validS sh = true) (hd : ((da.length : Nat) : Int) ≠ 0) : ∀ (m n j : Nat) (out : List Int), (volW sh).toNat - j = m → m < n → j ≤ (volW sh).toNat → out.length = (volW sh).toNat → out.take j = tab j (fun i => da.getD (i % da.length) 0) →
    impl_Reshape.L0 fuel n (impl_Reshape.t0 sh s2 da (j : Int) out) (impl_Reshape.k0 fuel) = some ([.agg [(.ints .i64 sh, true), (.ints .i64 (reD sh da), true)], .one (.bool true, false)], []) := by
  have hb := vol_bd hv
  have hs := (validS_inv hv).1
  intro m
  induction m with
  | zero =>
    intro n j out h1 h2 h3 h4 h5
    obtain ⟨n, rfl⟩ : ∃ n', n = n' + 1 := ⟨n - 1, by omega⟩
    rw [impl_Reshape.s0, List.length_replicate, dge (by omega), szB_of (xs := sh) (by omega)]
    simp only [cond_true, cond_false, reD]
    rw [fill_end (n := (volW sh).toNat) h4 (by rw [show j = (volW sh).toNat by omega] at h5; exact h5)]
  | succ m ih =>
    intro n j out h1 h2 h3 h4 h5
    obtain ⟨n, rfl⟩ : ∃ n', n = n' + 1 := ⟨n - 1, by omega⟩
    have hj2 : j < out.length := by omega
    obtain ⟨g1, g2⟩ := re_get (j := j) hd
    rw [impl_Reshape.s0, List.length_replicate, dlt (by omega), decide_eq_false hd, g1, idx_nat hj2, w1 (by omega)]
    simp only [cond_true, cond_false, Option.bind_some, g2, hj2, decide_true]
    exact ih n (j + 1) _ (by omega) (by omega) (by omega) (by simpa using h4) (fill_step (f := fun i => da.getD (i % da.length) 0) (show j < (volW sh).toNat by omega) h4 h5)
theorem impl_Reshape.ok : CallSpec Try.prog impl_Reshape.E := impl_Reshape.ok_of (by simp [impl_Reshape.X, impl_layoutOf.ok, impl_ValidArray.ok, impl_copyList.ok]) fun sh s2 da h => by
  simp only [Bool.and_eq_true] at h
  refine ⟨(volW sh).toNat + 1, ?_⟩
  rw [impl_Reshape.e, h.1.1, h.1.2, h.2]
  unfold reshS reshD reshB
  cases hv : validS sh with
  | false => rfl
  | true =>
    have hb := vol_bd hv
    have hs := (validS_inv hv).1
    cases hv2 : validA s2 da with
    | false => rfl
    | true =>
      rw [mkOk hb.1 (by omega)]
      simp only [cond_true, Bool.and_self, Bool.not_true, cond_false]
      by_cases hd : ((da.length : Nat) : Int) > 0
      · rw [decide_eq_true hd, cond_true]
        exact impl_Reshape.loop ((volW sh).toNat + 1) sh s2 da hv (by omega) (volW sh).toNat ((volW sh).toNat + 1) 0 _ (by omega) (by omega) (by omega) (by simp) (by simp [tab])
      · have h0 : da = [] := List.eq_nil_of_length_eq_zero (by omega)
        rw [decide_eq_false hd, szB_of (xs := sh) (by omega)]
        have : List.replicate (volW sh).toNat (0 : Int) = reD sh da := by
          rw [h0]
          apply List.ext_getElem?
          intro i
          by_cases hi : i < (volW sh).toNat
          · unfold reD; rw [tab_get hi]; simp [hi]
          · rw [List.getElem?_eq_none (by simp; omega), List.getElem?_eq_none (by unfold reD; rw [tab_length]; omega)]
        rw [this]
        rfl

namespace slices_Equal_int_int
noncomputable def E : Entry := ⟨24, true, false, fun | [.d (.ints .i64 xs), .d (.ints .i64 ys)] => decide (xs.length < 9223372036854775808) && decide (ys.length < 9223372036854775808) | _ => false, fun | [.d (.ints .i64 xs), .d (.ints .i64 ys)] => ([.one ((.bool (decide (xs = ys))), false)], []) | _ => ([], []), fun _ => [], false, fun _ => none⟩
end slices_Equal_int_int
namespace slices_Equal_int_int
noncomputable def X : List Entry := []
noncomputable def I : List Inl := [⟨24, Try.f24, ⟨[], [(1000004, [2, 3, 4, 5, 6, 7, 8, 9, 10, 11, 14, 15, 16, 17, 18, 19, 20, 21, 22, 23, 24, 25])], [], [(6, [0, 1, 4, 5, 2, 3, 6, 7, 8])], [], []⟩⟩]
theorem I_ok : ∀ i ∈ I, Try.prog.funcs[i.f]? = some i.fn ∧ (i.fn.name == "runtime.NumGoroutine") = false := by
  intro i hi
  simp only [I, List.mem_cons, List.not_mem_nil, or_false] at hi
  subst hi
  exact ⟨by kernel_rfl, by kernel_rfl⟩
noncomputable abbrev L0 (fuel n : Nat) (s : St) (k : Kont) := lAt Try.prog X I fuel true 0 false 24 (bodyOf Try.f24) [1, 1, 0, 1, 0] n s k
noncomputable abbrev k0  (fuel : Nat) : Kont := (kAt Try.prog X I fuel true 0 false 24 (bodyOf Try.f24) [1, 1, 0, 1, 0] [] (endK Try.prog Try.f24))
noncomputable def t0 (p0 : List Int) (p1 : List Int) (x0q3 : Int) : St := ⟨[(.imm (.ints .i64 p0)), (.imm (.ints .i64 p1)), .dead, .dead, .dead, .dead, .dead, .dead, .dead, .dead, .dead, .dead, (.imm (.int .i64 ((p0.length : Nat) : Int))), (.imm (.int .i64 x0q3)), .dead, .dead, .dead, .dead, .dead, .dead, .dead, .dead, .dead, .dead, .dead, .dead], hOf [], [], []⟩
theorem e (fuel : Nat) (p0 : List Int) (p1 : List Int) : runF Try.prog X I 0 fuel 24 Try.f24 [.d (.ints .i64 p0), .d (.ints .i64 p1)] =
  (bif ((((p0.length : Nat) : Int) : Int) != ((p1.length : Nat) : Int)) then
  some ([.one ((.bool false), false)], [])
  else
  L0 fuel fuel (t0 p0 p1 0) (k0  fuel)) := by kernel_rfl
theorem s0 (fuel n0 : Nat) (p0 : List Int) (p1 : List Int) (x0q3 : Int) : L0 fuel (n0 + 1) (t0 p0 p1 x0q3) (k0  fuel) =
  (bif (decide ((x0q3 : Int) < ((p0.length : Nat) : Int))) then
  (idx x0q3 p0.length).bind fun j9 =>
  (p0[j9]?).bind fun v10 =>
  (idx x0q3 p1.length).bind fun j11 =>
  (p1[j11]?).bind fun v12 =>
  (bif ((v10 : Int) != v12) then
  some ([.one ((.bool false), false)], [])
  else
  L0 fuel n0 (t0 p0 p1 ((IntKind.wrap .i64 (x0q3 + 1)))) (k0  fuel))
  else
  some ([.one ((.bool true), false)], [])) := by kernel_rfl
end slices_Equal_int_int
theorem slices_Equal_int_int.ok_of (hX : ∀ E ∈ slices_Equal_int_int.X, CallSpec Try.prog E) (h : ∀ (xs : List Int) (ys : List Int), (decide (xs.length < 9223372036854775808) && decide (ys.length < 9223372036854775808)) = true → ∃ fuel, runF Try.prog slices_Equal_int_int.X slices_Equal_int_int.I 0 fuel 24 Try.f24 [.d (.ints .i64 xs), .d (.ints .i64 ys)] = some ([.one ((.bool (decide (xs = ys))), false)], [])) : CallSpec Try.prog slices_Equal_int_int.E :=
  callSpec_of (d := 0) hX (by kernel_rfl) slices_Equal_int_int.I_ok (by kernel_rfl) (by kernel_rfl) (by kernel_rfl) (fun _ _ _ _ h => by dsimp only [slices_Equal_int_int.E] at h; cases h) (fun xs hp => by
    dsimp only [slices_Equal_int_int.E] at hp ⊢
    split at hp
    · exact h _ _ hp
    · cases hp)
theorem slices_Equal_int_int.loop (fuel : Nat) (xs ys : List Int) (hl : xs.length = ys.length) (hx : xs.length < 9223372036854775808) : ∀ (m n j : Nat), xs.length - j = m → m < n → j ≤ xs.length →
    slices_Equal_int_int.L0 fuel n (slices_Equal_int_int.t0 xs ys (j : Int)) (slices_Equal_int_int.k0 fuel) = some ([.one (.bool (decide (xs.drop j = ys.drop j)), false)], []) := by
  intro m
  induction m with
  | zero =>
    intro n j h1 h2 h3
    obtain ⟨n, rfl⟩ : ∃ n', n = n' + 1 := ⟨n - 1, by omega⟩
    have hj : ¬ j < xs.length := by omega
    rw [slices_Equal_int_int.s0, dge hj, dropE hj, dropE (xs := ys) (by omega)]
    rfl
  | succ m ih =>
    intro n j h1 h2 h3
    obtain ⟨n, rfl⟩ : ∃ n', n = n' + 1 := ⟨n - 1, by omega⟩
    have hj : j < xs.length := by omega
    have hj2 : j < ys.length := by omega
    rw [slices_Equal_int_int.s0, dlt hj, idx_nat hj, idx_nat hj2, w1 (by omega), dropS hj, dropS hj2]
    simp only [cond_true, Option.bind_some, getS hj, getS hj2]
    rw [ih n (j + 1) (by omega) (by omega) (by omega)]
    by_cases hv : xs[j] = ys[j]
    · rw [hv]
      simp only [bne_self_eq_false, cond_false, List.cons.injEq, true_and]
    · have : (xs[j] != ys[j]) = true := by simp [hv]
      rw [this]
      simp only [cond_true, List.cons.injEq, hv, false_and, decide_false]

theorem slices_Equal_int_int.ok : CallSpec Try.prog slices_Equal_int_int.E := slices_Equal_int_int.ok_of (by simp [slices_Equal_int_int.X]) fun xs ys h => by
  simp only [Bool.and_eq_true, decide_eq_true_eq] at h
  refine ⟨xs.length + 1, ?_⟩
  rw [slices_Equal_int_int.e]
  by_cases hl : xs.length = ys.length
  · have := slices_Equal_int_int.loop (xs.length + 1) xs ys hl h.1 xs.length (xs.length + 1) 0 (by omega) (by omega) (by omega)
    simp only [List.drop_zero] at this
    simp only [hl, bne_self_eq_false, cond_false]
    rw [← hl]
    exact this
  · have hne : xs ≠ ys := fun e => hl (e ▸ rfl)
    have : (((xs.length : Nat) : Int) != ((ys.length : Nat) : Int)) = true := by simp; omega
    rw [this]
    simp [hne]

namespace impl_Combine
noncomputable def E : Entry := ⟨11, false, false, fun | [.d (.int .i64 op), .d (.agg [(.ints .i64 s1), (.ints .i64 d1)]), .d (.agg [(.ints .i64 s2), (.ints .i64 d2)])] => decide (s1.length < 9223372036854775808) && decide (d1.length < 9223372036854775808) && decide (s2.length < 9223372036854775808) && decide (d2.length < 9223372036854775808) | _ => false, fun | [.d (.int .i64 op), .d (.agg [(.ints .i64 s1), (.ints .i64 d1)]), .d (.agg [(.ints .i64 s2), (.ints .i64 d2)])] => ([.agg [((.ints .i64 (comS op s1 d1 s2 d2)), true), ((.ints .i64 (comD op s1 d1 s2 d2)), true)], .one ((.bool (comB op s1 d1 s2 d2)), false)], []) | _ => ([], []), fun _ => [], true, fun _ => none⟩
end impl_Combine
namespace impl_Combine
noncomputable def X : List Entry := [impl_functionOfTwo_f.E, impl_ValidArray.E, impl_Reshape.E, slices_Equal_int_int.E, impl_copyList.E, impl_pairwise.E]
noncomputable def I : List Inl := [⟨11, Try.f11, ⟨[32, 43, 55, 61], [], [], [(10, [0, 3, 4, 6, 1, 5, 7, 2, 8, 9, 10, 11])], [], []⟩⟩]
theorem I_ok : ∀ i ∈ I, Try.prog.funcs[i.f]? = some i.fn ∧ (i.fn.name == "runtime.NumGoroutine") = false := by
  intro i hi
  simp only [I, List.mem_cons, List.not_mem_nil, or_false] at hi
  subst hi
  exact ⟨by kernel_rfl, by kernel_rfl⟩
theorem e (fuel : Nat) (p0 : Int) (p1q0 : List Int) (p1q1 : List Int) (p2q0 : List Int) (p2q1 : List Int) : runF Try.prog X I 0 fuel 11 Try.f11 [.d (.int .i64 p0), .d (.agg [(.ints .i64 p1q0), (.ints .i64 p1q1)]), .d (.agg [(.ints .i64 p2q0), (.ints .i64 p2q1)])] =
  (bif opOk p0 then
  (bif decide (p1q0.length < 9223372036854775808) && decide (p1q1.length < 9223372036854775808) then
  (bif (!(validA p1q0 p1q1)) then
  some ([.agg [((.ints .i64 []), true), ((.ints .i64 []), true)], .one ((.bool false), false)], [])
  else
  (bif decide (p2q0.length < 9223372036854775808) && decide (p2q1.length < 9223372036854775808) then
  (bif (!(validA p2q0 p2q1)) then
  some ([.agg [((.ints .i64 []), true), ((.ints .i64 []), true)], .one ((.bool false), false)], [])
  else
  (bif ((((p1q0.length : Nat) : Int) : Int) == 0) then
  (bif decide (p2q0.length < 9223372036854775808) && decide (p1q0.length < 9223372036854775808) && decide (p1q1.length < 9223372036854775808) then
  (bif decide (((reshS p2q0 p1q0 p1q1)).length < 9223372036854775808) && decide (p2q0.length < 9223372036854775808) then
  (bif (!(decide (((reshS p2q0 p1q0 p1q1)) = p2q0))) then
  some ([.agg [((.ints .i64 []), true), ((.ints .i64 []), true)], .one ((.bool false), false)], [])
  else
  (bif szB ((reshS p2q0 p1q0 p1q1)) then
  (bif szB ((reshD p2q0 p1q0 p1q1)) && decide (((reshD p2q0 p1q0 p1q1)).length ≤ p2q1.length) && pwB q2 ((reshD p2q0 p1q0 p1q1)) p2q1 then
  some ([.agg [((.ints .i64 ((reshS p2q0 p1q0 p1q1))), true), ((.ints .i64 (pwD ((q2v (operF p0))) ((reshD p2q0 p1q0 p1q1)) p2q1)), true)], .one ((.bool true), false)], [])
  else
  none)
  else
  none))
  else
  none)
  else
  none)
  else
  (bif ((((p2q0.length : Nat) : Int) : Int) == 0) then
  (bif decide (p1q0.length < 9223372036854775808) && decide (p2q0.length < 9223372036854775808) && decide (p2q1.length < 9223372036854775808) then
  (bif decide (p1q0.length < 9223372036854775808) && decide (((reshS p1q0 p2q0 p2q1)).length < 9223372036854775808) then
  (bif (!(decide (p1q0 = ((reshS p1q0 p2q0 p2q1))))) then
  some ([.agg [((.ints .i64 []), true), ((.ints .i64 []), true)], .one ((.bool false), false)], [])
  else
  (bif szB p1q0 then
  (bif szB p1q1 && decide (p1q1.length ≤ ((reshD p1q0 p2q0 p2q1)).length) && pwB q2 p1q1 ((reshD p1q0 p2q0 p2q1)) then
  some ([.agg [((.ints .i64 p1q0), true), ((.ints .i64 (pwD ((q2v (operF p0))) p1q1 ((reshD p1q0 p2q0 p2q1)))), true)], .one ((.bool true), false)], [])
  else
  none)
  else
  none))
  else
  none)
  else
  none)
  else
  (bif decide (p1q0.length < 9223372036854775808) && decide (p2q0.length < 9223372036854775808) then
  (bif (!(decide (p1q0 = p2q0))) then
  some ([.agg [((.ints .i64 []), true), ((.ints .i64 []), true)], .one ((.bool false), false)], [])
  else
  (bif szB p1q0 then
  (bif szB p1q1 && decide (p1q1.length ≤ p2q1.length) && pwB q2 p1q1 p2q1 then
  some ([.agg [((.ints .i64 p1q0), true), ((.ints .i64 (pwD ((q2v (operF p0))) p1q1 p2q1)), true)], .one ((.bool true), false)], [])
  else
  none)
  else
  none))
  else
  none))))
  else
  none))
  else
  none)
  else
  some ([.agg [((.ints .i64 []), true), ((.ints .i64 []), true)], .one ((.bool false), false)], [])) := by kernel_rfl
end impl_Combine
theorem impl_Combine.ok_of (hX : ∀ E ∈ impl_Combine.X, CallSpec Try.prog E) (h : ∀ (op : Int) (s1 : List Int) (d1 : List Int) (s2 : List Int) (d2 : List Int), (decide (s1.length < 9223372036854775808) && decide (d1.length < 9223372036854775808) && decide (s2.length < 9223372036854775808) && decide (d2.length < 9223372036854775808)) = true → ∃ fuel, runF Try.prog impl_Combine.X impl_Combine.I 0 fuel 11 Try.f11 [.d (.int .i64 op), .d (.agg [(.ints .i64 s1), (.ints .i64 d1)]), .d (.agg [(.ints .i64 s2), (.ints .i64 d2)])] = some ([.agg [((.ints .i64 (comS op s1 d1 s2 d2)), true), ((.ints .i64 (comD op s1 d1 s2 d2)), true)], .one ((.bool (comB op s1 d1 s2 d2)), false)], [])) : CallSpec Try.prog impl_Combine.E :=
  callSpec_of (d := 0) hX (by kernel_rfl) impl_Combine.I_ok (by kernel_rfl) (by kernel_rfl) (by kernel_rfl) (fun _ _ _ _ h => by dsimp only [impl_Combine.E] at h; cases h) (fun xs hp => by
    dsimp only [impl_Combine.E] at hp ⊢
    split at hp
    · exact h _ _ _ _ _ hp
    · cases hp)
theorem impl_Combine.ok : CallSpec Try.prog impl_Combine.E := impl_Combine.ok_of (by simp [impl_Combine.X, impl_functionOfTwo_f.ok, impl_ValidArray.ok, impl_Reshape.ok, slices_Equal_int_int.ok, impl_copyList.ok, impl_pairwise.ok]) fun op s1 d1 s2 d2 h => ⟨0, by
  rw [impl_Combine.e]
  simp only [Bool.and_eq_true] at h
  obtain ⟨⟨⟨h1, h2⟩, h3⟩, h4⟩ := h
  simp only [h1, h2, h3, h4, Bool.and_self, Bool.true_and, Bool.and_true, cond_true, len0, pwB_q2, pwD_q2]
  unfold comS comD
  cases ho : opOk op with
  | false => simp only [comB, ho]; rfl
  | true =>
    cases v1 : validA s1 d1 with
    | false => simp only [comB, ho, v1]; rfl
    | true =>
      cases v2 : validA s2 d2 with
      | false => simp only [comB, ho, v1, v2]; rfl
      | true =>
        have b1 := validA_len v1
        have b2 := validA_len v2
        simp only [comB, ho, v1, v2, Bool.and_self, Bool.true_and, cond_true, Bool.not_true, cond_false]
        by_cases e1 : s1.length = 0
        · have e1' := List.length_eq_zero_iff.mp e1
          have hr := resh_sc (e1' ▸ v1) v2 e1'
          have b3 := resh_len s2 s1 d1
          have hd : (reshD s2 s1 d1).length = d2.length := by rw [hr.2, tab_length]
          rw [decide_eq_true e1, cond_true, decide_eq_true (p := (reshS s2 s1 d1).length < 9223372036854775808) (by omega), cond_true, decide_eq_true hr.1, szB_of (by omega), szB_of (by omega), decide_eq_true (p := (reshD s2 s1 d1).length ≤ d2.length) (by omega), hd]
          subst e1'
          rw [cD_a op v1 v2, hr.1]
          simp [fitB, cS]
        · rw [decide_eq_false e1, cond_false]
          by_cases e2 : s2.length = 0
          · have e2' := List.length_eq_zero_iff.mp e2
            have hr := resh_sc (e2' ▸ v2) v1 e2'
            have b3 := resh_len s1 s2 d2
            have hd : (reshD s1 s2 d2).length = d1.length := by rw [hr.2, tab_length]
            rw [decide_eq_true e2, cond_true, decide_eq_true (p := (reshS s1 s2 d2).length < 9223372036854775808) (by omega), cond_true, decide_eq_true hr.1.symm, szB_of (by omega), szB_of (by omega), decide_eq_true (p := d1.length ≤ (reshD s1 s2 d2).length) (by omega)]
            subst e2'
            rw [cD_b op v1 v2 e1]
            simp [fitB, cS, e1]
          · rw [decide_eq_false e2, cond_false]
            by_cases e3 : s1 = s2
            · subst e3
              have l1 := vol_len v1
              have l2 := vol_len v2
              rw [decide_eq_true rfl, szB_of (by omega), szB_of (by omega), decide_eq_true (p := d1.length ≤ d2.length) (by omega), cD_c op v1 v2 e1]
              simp [fitB, cS, e1]
            · rw [decide_eq_false e3]
              simp [fitB, e1, e2, e3]⟩

namespace laws_FnSumProductZero
noncomputable def E : Entry := ⟨4, true, false, fun | [.d (.ints .u8 bs)] => bytesB bs | _ => false, fun | [.d (.ints .u8 bs)] => ([.one ((.bool true), false)], []) | _ => ([], []), fun _ => [], false, fun _ => none⟩
end laws_FnSumProductZero
namespace laws_FnSumProductZero
noncomputable def X : List Entry := [spec_DrawSumProduct.E, impl_SumProduct.E, spec_SumProduct.E, laws_equalArray.E, impl_ScalarOf.E, impl_Combine.E, laws_equalInts.E]
noncomputable def I : List Inl := [⟨4, Try.f4, ⟨[19, 25, 31, 57, 58, 64], [(1000011, [0, 1, 2, 3, 4, 6, 7, 8, 9, 14, 15, 16, 17, 18, 19, 20, 21, 22, 23, 24, 25, 26, 27, 28, 29, 30, 31, 32, 33, 34, 35, 36, 37, 38, 39, 40, 41, 42, 43, 44, 45, 46, 47, 48, 49, 50, 51, 52, 53, 54, 55, 56, 57, 58, 59, 60, 61, 62, 63, 64, 65, 66, 67, 68, 69, 70, 71, 72, 73, 74, 75, 76, 77, 78, 79, 80, 81, 82, 83, 84, 85, 86, 87, 88, 89, 90])], [], [], [], []⟩⟩]
theorem I_ok : ∀ i ∈ I, Try.prog.funcs[i.f]? = some i.fn ∧ (i.fn.name == "runtime.NumGoroutine") = false := by
  intro i hi
  simp only [I, List.mem_cons, List.not_mem_nil, or_false] at hi
  subst hi
  exact ⟨by kernel_rfl, by kernel_rfl⟩
noncomputable abbrev L0 (fuel n : Nat) (s : St) (k : Kont) := lAt Try.prog X I fuel true 0 false 4 (bodyOf Try.f4) [1, 1, 1, 1, 1, 1, 1, 1, 0, 1, 0] n s k
noncomputable abbrev k0  (fuel : Nat) : Kont := (kAt Try.prog X I fuel true 0 false 4 (bodyOf Try.f4) [1, 1, 1, 1, 1, 1, 1, 1, 0, 1, 0] [] (endK Try.prog Try.f4))
noncomputable def t0 (p0 : List Int) (x0q2 : Int) : St := ⟨[.dead, .dead, .dead, .dead, .dead, (.ptr 1000000000 0 0), .dead, .dead, .dead, .dead, (.imm (.bool (comB 3 ((mpS2 (cutC p0) 0)) ((mpD2 (cutC p0) 0)) nilI ((scalL 0))))), (.ptr 1000000001 0 0), (.imm (.bool (inB 1 3 ((mpS1 (cutC p0) 0)) ((mpD1 (cutC p0) 0)) ((comS 3 ((mpS2 (cutC p0) 0)) ((mpD2 (cutC p0) 0)) nilI ((scalL 0)))) ((comD 3 ((mpS2 (cutC p0) 0)) ((mpD2 (cutC p0) 0)) nilI ((scalL 0))))))), (.imm (.int .i64 x0q2)), .dead, .dead, .dead, .dead, .dead, .dead, .dead, .dead, .dead, .dead, .dead, .dead, .dead, .dead, .dead, .dead, .dead, .dead, .dead, .dead, .dead, .dead, .dead, .dead, .dead, .dead, .dead, .dead, .dead, .dead, .dead, .dead, .dead, .dead, .dead, .dead, .dead, .dead, .dead, .dead, .dead, .dead, .dead, .dead, .dead, .dead, .dead, .dead, .dead, .dead, .dead, .dead, .dead, .dead, .dead, .dead, .dead, .dead, .dead, .dead, .dead, .dead, .dead, .dead, .dead, .dead, .dead, .dead, .dead, .dead, .dead, .dead, .dead, .dead, .dead, .dead, .dead], hOf [(1000000000, (.box [(.all 1000000002 1), (.all 1000000003 1)])), (1000000001, (.box [(.all 1000000004 1), (.all 1000000005 1)])), (1000000002, (.ints .i64 (inS 1 3 ((mpS1 (cutC p0) 0)) ((mpD1 (cutC p0) 0)) ((mpS2 (cutC p0) 0)) ((mpD2 (cutC p0) 0))))), (1000000003, (.ints .i64 (inD 1 3 ((mpS1 (cutC p0) 0)) ((mpD1 (cutC p0) 0)) ((mpS2 (cutC p0) 0)) ((mpD2 (cutC p0) 0))))), (1000000004, (.ints .i64 (inS 1 3 ((mpS1 (cutC p0) 0)) ((mpD1 (cutC p0) 0)) ((comS 3 ((mpS2 (cutC p0) 0)) ((mpD2 (cutC p0) 0)) nilI ((scalL 0)))) ((comD 3 ((mpS2 (cutC p0) 0)) ((mpD2 (cutC p0) 0)) nilI ((scalL 0))))))), (1000000005, (.ints .i64 (inD 1 3 ((mpS1 (cutC p0) 0)) ((mpD1 (cutC p0) 0)) ((comS 3 ((mpS2 (cutC p0) 0)) ((mpD2 (cutC p0) 0)) nilI ((scalL 0)))) ((comD 3 ((mpS2 (cutC p0) 0)) ((mpD2 (cutC p0) 0)) nilI ((scalL 0)))))))], [], []⟩
theorem e (fuel : Nat) (p0 : List Int) : runF Try.prog X I 0 fuel 4 Try.f4 [.d (.ints .u8 p0)] =
  (bif (decide ((((p0.length : Nat) : Int) : Int) > 1048576)) then
  some ([.one ((.bool true), false)], [])
  else
  (bif bytesB p0 then
  (bif decide (((mpS1 (cutC p0) 0)).length < 9223372036854775808) && decide (((mpD1 (cutC p0) 0)).length < 9223372036854775808) && decide (((mpS2 (cutC p0) 0)).length < 9223372036854775808) && decide (((mpD2 (cutC p0) 0)).length < 9223372036854775808) then
  (bif decide (((mpS1 (cutC p0) 0)).length < 9223372036854775808) && decide (((mpD1 (cutC p0) 0)).length < 9223372036854775808) && decide (((mpS2 (cutC p0) 0)).length < 9223372036854775808) && decide (((mpD2 (cutC p0) 0)).length < 9223372036854775808) then
  (bif decide (((inS 1 3 ((mpS1 (cutC p0) 0)) ((mpD1 (cutC p0) 0)) ((mpS2 (cutC p0) 0)) ((mpD2 (cutC p0) 0)))).length < 9223372036854775808) && decide (((inD 1 3 ((mpS1 (cutC p0) 0)) ((mpD1 (cutC p0) 0)) ((mpS2 (cutC p0) 0)) ((mpD2 (cutC p0) 0)))).length < 9223372036854775808) && decide (((inS 1 3 ((mpS1 (cutC p0) 0)) ((mpD1 (cutC p0) 0)) ((mpS2 (cutC p0) 0)) ((mpD2 (cutC p0) 0)))).length < 9223372036854775808) && decide (((inD 1 3 ((mpS1 (cutC p0) 0)) ((mpD1 (cutC p0) 0)) ((mpS2 (cutC p0) 0)) ((mpD2 (cutC p0) 0)))).length < 9223372036854775808) then
  (bif (!(decide (((inS 1 3 ((mpS1 (cutC p0) 0)) ((mpD1 (cutC p0) 0)) ((mpS2 (cutC p0) 0)) ((mpD2 (cutC p0) 0)))) = ((inS 1 3 ((mpS1 (cutC p0) 0)) ((mpD1 (cutC p0) 0)) ((mpS2 (cutC p0) 0)) ((mpD2 (cutC p0) 0))))) && decide (((inD 1 3 ((mpS1 (cutC p0) 0)) ((mpD1 (cutC p0) 0)) ((mpS2 (cutC p0) 0)) ((mpD2 (cutC p0) 0)))) = ((inD 1 3 ((mpS1 (cutC p0) 0)) ((mpD1 (cutC p0) 0)) ((mpS2 (cutC p0) 0)) ((mpD2 (cutC p0) 0))))))) then
  (bif decide (((inS 1 3 ((mpS1 (cutC p0) 0)) ((mpD1 (cutC p0) 0)) ((mpS2 (cutC p0) 0)) ((mpD2 (cutC p0) 0)))).length < 9223372036854775808) && decide (((inD 1 3 ((mpS1 (cutC p0) 0)) ((mpD1 (cutC p0) 0)) ((mpS2 (cutC p0) 0)) ((mpD2 (cutC p0) 0)))).length < 9223372036854775808) && decide (((inS 1 3 ((mpS1 (cutC p0) 0)) ((mpD1 (cutC p0) 0)) ((mpS2 (cutC p0) 0)) ((mpD2 (cutC p0) 0)))).length < 9223372036854775808) && decide (((inD 1 3 ((mpS1 (cutC p0) 0)) ((mpD1 (cutC p0) 0)) ((mpS2 (cutC p0) 0)) ((mpD2 (cutC p0) 0)))).length < 9223372036854775808) then
  (bif (decide (((inS 1 3 ((mpS1 (cutC p0) 0)) ((mpD1 (cutC p0) 0)) ((mpS2 (cutC p0) 0)) ((mpD2 (cutC p0) 0)))) = ((inS 1 3 ((mpS1 (cutC p0) 0)) ((mpD1 (cutC p0) 0)) ((mpS2 (cutC p0) 0)) ((mpD2 (cutC p0) 0))))) && decide (((inD 1 3 ((mpS1 (cutC p0) 0)) ((mpD1 (cutC p0) 0)) ((mpS2 (cutC p0) 0)) ((mpD2 (cutC p0) 0)))) = ((inD 1 3 ((mpS1 (cutC p0) 0)) ((mpD1 (cutC p0) 0)) ((mpS2 (cutC p0) 0)) ((mpD2 (cutC p0) 0)))))) then
  some ([.one ((.bool ((inB 1 3 ((mpS1 (cutC p0) 0)) ((mpD1 (cutC p0) 0)) ((mpS2 (cutC p0) 0)) ((mpD2 (cutC p0) 0))) == (inB 1 3 ((mpS1 (cutC p0) 0)) ((mpD1 (cutC p0) 0)) ((mpS2 (cutC p0) 0)) ((mpD2 (cutC p0) 0))))), false)], [])
  else
  some ([.one ((.bool false), false)], []))
  else
  none)
  else
  (bif (!((inB 1 3 ((mpS1 (cutC p0) 0)) ((mpD1 (cutC p0) 0)) ((mpS2 (cutC p0) 0)) ((mpD2 (cutC p0) 0))) == (inB 1 3 ((mpS1 (cutC p0) 0)) ((mpD1 (cutC p0) 0)) ((mpS2 (cutC p0) 0)) ((mpD2 (cutC p0) 0))))) then
  (bif decide (((inS 1 3 ((mpS1 (cutC p0) 0)) ((mpD1 (cutC p0) 0)) ((mpS2 (cutC p0) 0)) ((mpD2 (cutC p0) 0)))).length < 9223372036854775808) && decide (((inD 1 3 ((mpS1 (cutC p0) 0)) ((mpD1 (cutC p0) 0)) ((mpS2 (cutC p0) 0)) ((mpD2 (cutC p0) 0)))).length < 9223372036854775808) && decide (((inS 1 3 ((mpS1 (cutC p0) 0)) ((mpD1 (cutC p0) 0)) ((mpS2 (cutC p0) 0)) ((mpD2 (cutC p0) 0)))).length < 9223372036854775808) && decide (((inD 1 3 ((mpS1 (cutC p0) 0)) ((mpD1 (cutC p0) 0)) ((mpS2 (cutC p0) 0)) ((mpD2 (cutC p0) 0)))).length < 9223372036854775808) then
  (bif (decide (((inS 1 3 ((mpS1 (cutC p0) 0)) ((mpD1 (cutC p0) 0)) ((mpS2 (cutC p0) 0)) ((mpD2 (cutC p0) 0)))) = ((inS 1 3 ((mpS1 (cutC p0) 0)) ((mpD1 (cutC p0) 0)) ((mpS2 (cutC p0) 0)) ((mpD2 (cutC p0) 0))))) && decide (((inD 1 3 ((mpS1 (cutC p0) 0)) ((mpD1 (cutC p0) 0)) ((mpS2 (cutC p0) 0)) ((mpD2 (cutC p0) 0)))) = ((inD 1 3 ((mpS1 (cutC p0) 0)) ((mpD1 (cutC p0) 0)) ((mpS2 (cutC p0) 0)) ((mpD2 (cutC p0) 0)))))) then
  some ([.one ((.bool ((inB 1 3 ((mpS1 (cutC p0) 0)) ((mpD1 (cutC p0) 0)) ((mpS2 (cutC p0) 0)) ((mpD2 (cutC p0) 0))) == (inB 1 3 ((mpS1 (cutC p0) 0)) ((mpD1 (cutC p0) 0)) ((mpS2 (cutC p0) 0)) ((mpD2 (cutC p0) 0))))), false)], [])
  else
  some ([.one ((.bool false), false)], []))
  else
  none)
  else
  (bif (!(inB 1 3 ((mpS1 (cutC p0) 0)) ((mpD1 (cutC p0) 0)) ((mpS2 (cutC p0) 0)) ((mpD2 (cutC p0) 0)))) then
  (bif decide (((inS 1 3 ((mpS1 (cutC p0) 0)) ((mpD1 (cutC p0) 0)) ((mpS2 (cutC p0) 0)) ((mpD2 (cutC p0) 0)))).length < 9223372036854775808) && decide (((inD 1 3 ((mpS1 (cutC p0) 0)) ((mpD1 (cutC p0) 0)) ((mpS2 (cutC p0) 0)) ((mpD2 (cutC p0) 0)))).length < 9223372036854775808) && decide (((inS 1 3 ((mpS1 (cutC p0) 0)) ((mpD1 (cutC p0) 0)) ((mpS2 (cutC p0) 0)) ((mpD2 (cutC p0) 0)))).length < 9223372036854775808) && decide (((inD 1 3 ((mpS1 (cutC p0) 0)) ((mpD1 (cutC p0) 0)) ((mpS2 (cutC p0) 0)) ((mpD2 (cutC p0) 0)))).length < 9223372036854775808) then
  (bif (decide (((inS 1 3 ((mpS1 (cutC p0) 0)) ((mpD1 (cutC p0) 0)) ((mpS2 (cutC p0) 0)) ((mpD2 (cutC p0) 0)))) = ((inS 1 3 ((mpS1 (cutC p0) 0)) ((mpD1 (cutC p0) 0)) ((mpS2 (cutC p0) 0)) ((mpD2 (cutC p0) 0))))) && decide (((inD 1 3 ((mpS1 (cutC p0) 0)) ((mpD1 (cutC p0) 0)) ((mpS2 (cutC p0) 0)) ((mpD2 (cutC p0) 0)))) = ((inD 1 3 ((mpS1 (cutC p0) 0)) ((mpD1 (cutC p0) 0)) ((mpS2 (cutC p0) 0)) ((mpD2 (cutC p0) 0)))))) then
  some ([.one ((.bool ((inB 1 3 ((mpS1 (cutC p0) 0)) ((mpD1 (cutC p0) 0)) ((mpS2 (cutC p0) 0)) ((mpD2 (cutC p0) 0))) == (inB 1 3 ((mpS1 (cutC p0) 0)) ((mpD1 (cutC p0) 0)) ((mpS2 (cutC p0) 0)) ((mpD2 (cutC p0) 0))))), false)], [])
  else
  some ([.one ((.bool false), false)], []))
  else
  none)
  else
  (bif decide (((mpS2 (cutC p0) 0)).length < 9223372036854775808) && decide (((mpD2 (cutC p0) 0)).length < 9223372036854775808) && decide (nilI.length < 9223372036854775808) && decide (((scalL 0)).length < 9223372036854775808) then
  (bif decide (((mpS1 (cutC p0) 0)).length < 9223372036854775808) && decide (((mpD1 (cutC p0) 0)).length < 9223372036854775808) && decide (((comS 3 ((mpS2 (cutC p0) 0)) ((mpD2 (cutC p0) 0)) nilI ((scalL 0)))).length < 9223372036854775808) && decide (((comD 3 ((mpS2 (cutC p0) 0)) ((mpD2 (cutC p0) 0)) nilI ((scalL 0)))).length < 9223372036854775808) then
  L0 fuel fuel (t0 p0 0) (k0  fuel)
  else
  none)
  else
  none))))
  else
  none)
  else
  none)
  else
  none)
  else
  none)) := by kernel_rfl
theorem s0 (fuel n0 : Nat) (p0 : List Int) (x0q2 : Int) : L0 fuel (n0 + 1) (t0 p0 x0q2) (k0  fuel) =
  (bif (decide ((x0q2 : Int) < (((inD 1 3 ((mpS1 (cutC p0) 0)) ((mpD1 (cutC p0) 0)) ((comS 3 ((mpS2 (cutC p0) 0)) ((mpD2 (cutC p0) 0)) nilI ((scalL 0)))) ((comD 3 ((mpS2 (cutC p0) 0)) ((mpD2 (cutC p0) 0)) nilI ((scalL 0))))).length : Nat) : Int))) then
  (idx x0q2 (inD 1 3 ((mpS1 (cutC p0) 0)) ((mpD1 (cutC p0) 0)) ((comS 3 ((mpS2 (cutC p0) 0)) ((mpD2 (cutC p0) 0)) nilI ((scalL 0)))) ((comD 3 ((mpS2 (cutC p0) 0)) ((mpD2 (cutC p0) 0)) nilI ((scalL 0))))).length).bind fun j5 =>
  ((inD 1 3 ((mpS1 (cutC p0) 0)) ((mpD1 (cutC p0) 0)) ((comS 3 ((mpS2 (cutC p0) 0)) ((mpD2 (cutC p0) 0)) nilI ((scalL 0)))) ((comD 3 ((mpS2 (cutC p0) 0)) ((mpD2 (cutC p0) 0)) nilI ((scalL 0)))))[j5]?).bind fun v6 =>
  (bif ((v6 : Int) != 0) then
  some ([.one ((.bool false), false)], [])
  else
  L0 fuel n0 (t0 p0 ((IntKind.wrap .i64 (x0q2 + 1)))) (k0  fuel))
  else
  (bif (comB 3 ((mpS2 (cutC p0) 0)) ((mpD2 (cutC p0) 0)) nilI ((scalL 0))) then
  (bif (inB 1 3 ((mpS1 (cutC p0) 0)) ((mpD1 (cutC p0) 0)) ((comS 3 ((mpS2 (cutC p0) 0)) ((mpD2 (cutC p0) 0)) nilI ((scalL 0)))) ((comD 3 ((mpS2 (cutC p0) 0)) ((mpD2 (cutC p0) 0)) nilI ((scalL 0))))) then
  (bif decide (((inS 1 3 ((mpS1 (cutC p0) 0)) ((mpD1 (cutC p0) 0)) ((comS 3 ((mpS2 (cutC p0) 0)) ((mpD2 (cutC p0) 0)) nilI ((scalL 0)))) ((comD 3 ((mpS2 (cutC p0) 0)) ((mpD2 (cutC p0) 0)) nilI ((scalL 0)))))).length < 9223372036854775808) && decide (((inS 1 3 ((mpS1 (cutC p0) 0)) ((mpD1 (cutC p0) 0)) ((mpS2 (cutC p0) 0)) ((mpD2 (cutC p0) 0)))).length < 9223372036854775808) then
  some ([.one ((.bool (decide (((inS 1 3 ((mpS1 (cutC p0) 0)) ((mpD1 (cutC p0) 0)) ((comS 3 ((mpS2 (cutC p0) 0)) ((mpD2 (cutC p0) 0)) nilI ((scalL 0)))) ((comD 3 ((mpS2 (cutC p0) 0)) ((mpD2 (cutC p0) 0)) nilI ((scalL 0)))))) = ((inS 1 3 ((mpS1 (cutC p0) 0)) ((mpD1 (cutC p0) 0)) ((mpS2 (cutC p0) 0)) ((mpD2 (cutC p0) 0))))))), false)], [])
  else
  none)
  else
  some ([.one ((.bool false), false)], []))
  else
  some ([.one ((.bool false), false)], []))) := by kernel_rfl
end laws_FnSumProductZero
theorem laws_FnSumProductZero.ok_of (hX : ∀ E ∈ laws_FnSumProductZero.X, CallSpec Try.prog E) (h : ∀ (bs : List Int), (bytesB bs) = true → ∃ fuel, runF Try.prog laws_FnSumProductZero.X laws_FnSumProductZero.I 0 fuel 4 Try.f4 [.d (.ints .u8 bs)] = some ([.one ((.bool true), false)], [])) : CallSpec Try.prog laws_FnSumProductZero.E :=
  callSpec_of (d := 0) hX (by kernel_rfl) laws_FnSumProductZero.I_ok (by kernel_rfl) (by kernel_rfl) (by kernel_rfl) (fun _ _ _ _ h => by dsimp only [laws_FnSumProductZero.E] at h; cases h) (fun xs hp => by
    dsimp only [laws_FnSumProductZero.E] at hp ⊢
    split at hp
    · exact h _ hp
    · cases hp)
theorem laws_FnSumProductZero.ok : CallSpec Try.prog laws_FnSumProductZero.E := laws_FnSumProductZero.ok_of (by simp [laws_FnSumProductZero.X, spec_DrawSumProduct.ok, impl_SumProduct.ok, spec_SumProduct.ok, laws_equalArray.ok, impl_ScalarOf.ok, impl_Combine.ok, laws_equalInts.ok]) fun bs h => by
  obtain ⟨F, hF⟩ : ∃ F : Nat, 4000 < F := ⟨4001, by omega⟩
  refine ⟨F, ?_⟩
  rw [laws_FnSumProductZero.e]
  by_cases hl : ((bs.length : Nat) : Int) > 1048576
  · rw [decide_eq_true hl]; rfl
  rw [decide_eq_false hl, cond_false, h, cond_true]
  have r0 := cut_ok h (p := 0) (by omega) (by omega)
  obtain ⟨a1, a2, a3, a4⟩ := mp_bd r0 (by omega)
  obtain ⟨s1, hs1⟩ : ∃ x, mpS1 (cutC bs) 0 = x := ⟨_, rfl⟩
  obtain ⟨d1, hd1⟩ : ∃ x, mpD1 (cutC bs) 0 = x := ⟨_, rfl⟩
  obtain ⟨s2, hs2⟩ : ∃ x, mpS2 (cutC bs) 0 = x := ⟨_, rfl⟩
  obtain ⟨d2, hd2⟩ : ∃ x, mpD2 (cutC bs) 0 = x := ⟨_, rfl⟩
  rw [hs1] at a1
  rw [hd1] at a2
  rw [hs2] at a3
  rw [hd2] at a4
  have g1 := lt_of (xs := s1) (by omega)
  have g2 := lt_of (xs := d1) (by omega)
  have g3 := lt_of (xs := s2) (by omega)
  have g4 := lt_of (xs := d2) (by omega)
  have il := in_len 1 3 s1 d1 s2 d2
  have g5 := lt_of (xs := inS 1 3 s1 d1 s2 d2) (by omega)
  have g6 := lt_of (xs := inD 1 3 s1 d1 s2 d2) (by omega)
  simp only [hs1, hd1, hs2, hd2]
  cases hb : inB 1 3 s1 d1 s2 d2 with
  | false => simp only [Bool.and_self, Bool.and_true, Bool.true_and, cond_true, cond_false, Bool.not_true, Bool.not_false, bne_self_eq_false, beq_self_eq_true, decide_true, eq_self, g1, g2, g3, g4, g5, g6, hb]
  | true =>
    have hb' := hb
    simp only [inB, Bool.and_eq_true, decide_eq_true_eq] at hb'
    obtain ⟨⟨⟨⟨⟨h1, h2⟩, h3⟩, h4⟩, h5⟩, h6⟩ := hb'
    obtain ⟨_, _, _, v1, _, _, _⟩ := axB_inv h3
    obtain ⟨_, _, _, v2, _, _, _⟩ := axB_inv h4
    have k1 : rankV s1 d1 = ((s1.length : Nat) : Int) := by simp only [rankV, v1, cond_true]
    have k2 : rankV s2 d2 = ((s2.length : Nat) : Int) := by simp only [rankV, v2, cond_true]
    have e0 : scalL 0 = [0] := rfl
    obtain ⟨c1, c2, c3⟩ := com_right (op := 3) (n := 0) rfl v2 rfl
    have hz : comD 3 s2 d2 [] [0] = List.replicate d2.length 0 := by rw [c3]; exact tab_const fun i _ => mul_zero' _
    have g7 := lt_of (xs := List.replicate d2.length (0 : Int)) (by rw [List.length_replicate]; omega)
    have g8 : decide (([] : List Int).length < 9223372036854775808) = true := rfl
    have g9 : decide (([0] : List Int).length < 9223372036854775808) = true := rfl
    obtain ⟨i1, i2⟩ := in_zero hb rfl
    simp only [Bool.and_self, Bool.and_true, Bool.true_and, cond_true, cond_false, Bool.not_true, Bool.not_false, bne_self_eq_false, beq_self_eq_true, decide_true, eq_self, g1, g2, g3, g4, g5, g6, g7, g8, g9, hb, e0, nilI, c2, hz]
    have iS : inS 1 3 s1 d1 s2 (List.replicate d2.length 0) = inS 1 3 s1 d1 s2 d2 := by simp only [inS, i1, hb]
    have iD : inD 1 3 s1 d1 s2 (List.replicate d2.length 0) = inN 1 3 s1 d1 s2 (List.replicate d2.length 0) := by simp only [inD, i1, cond_true]
    have il2 := in_len 1 3 s1 d1 s2 (List.replicate d2.length 0)
    rw [iD] at il2
    refine run_loop (N := (inN 1 3 s1 d1 s2 (List.replicate d2.length 0)).length) (fun m i (_ : Unit) => laws_FnSumProductZero.L0 F m (laws_FnSumProductZero.t0 bs (i : Int)) (laws_FnSumProductZero.k0 F)) (fun _ _ => True) ?_ ?_ F 0 () (by omega) (by omega) trivial
    · intro m _ _
      rw [laws_FnSumProductZero.s0]
      simp only [hs1, hd1, hs2, hd2, e0, nilI, c2, hz, iD, iS]
      rw [dge (by omega)]
      simp only [Bool.and_self, Bool.and_true, Bool.true_and, cond_true, cond_false, Bool.not_true, Bool.not_false, bne_self_eq_false, beq_self_eq_true, decide_true, eq_self, g1, g2, g3, g4, g5, g6, c1, i1]
    · intro m i _ hi _
      refine ⟨(), trivial, ?_⟩
      rw [laws_FnSumProductZero.s0]
      simp only [hs1, hd1, hs2, hd2, e0, nilI, c2, hz, iD, iS]
      rw [dlt hi, idx_nat hi, w1 (by omega)]
      simp only [Option.bind_some, getD_get hi, i2]
      rfl

namespace impl_RankOf
noncomputable def E : Entry := ⟨9, true, false, fun | [.d (.agg [(.ints .i64 sh), (.ints .i64 da)])] => decide (sh.length < 9223372036854775808) && decide (da.length < 9223372036854775808) | _ => false, fun | [.d (.agg [(.ints .i64 sh), (.ints .i64 da)])] => ([.one ((.int .i64 (rankV sh da)), false)], []) | _ => ([], []), fun _ => [], false, fun _ => none⟩
end impl_RankOf
namespace impl_RankOf
noncomputable def X : List Entry := [impl_ValidArray.E]
noncomputable def I : List Inl := [⟨9, Try.f9, ⟨[], [], [], [], [], []⟩⟩]
theorem I_ok : ∀ i ∈ I, Try.prog.funcs[i.f]? = some i.fn ∧ (i.fn.name == "runtime.NumGoroutine") = false := by
  intro i hi
  simp only [I, List.mem_cons, List.not_mem_nil, or_false] at hi
  subst hi
  exact ⟨by kernel_rfl, by kernel_rfl⟩
theorem e (fuel : Nat) (p0q0 : List Int) (p0q1 : List Int) : runF Try.prog X I 0 fuel 9 Try.f9 [.d (.agg [(.ints .i64 p0q0), (.ints .i64 p0q1)])] =
  (bif decide (p0q0.length < 9223372036854775808) && decide (p0q1.length < 9223372036854775808) then
  (bif (!(validA p0q0 p0q1)) then
  some ([.one ((.int .i64 (-1)), false)], [])
  else
  some ([.one ((.int .i64 ((p0q0.length : Nat) : Int)), false)], []))
  else
  none) := by kernel_rfl
end impl_RankOf
theorem impl_RankOf.ok_of (hX : ∀ E ∈ impl_RankOf.X, CallSpec Try.prog E) (h : ∀ (sh : List Int) (da : List Int), (decide (sh.length < 9223372036854775808) && decide (da.length < 9223372036854775808)) = true → ∃ fuel, runF Try.prog impl_RankOf.X impl_RankOf.I 0 fuel 9 Try.f9 [.d (.agg [(.ints .i64 sh), (.ints .i64 da)])] = some ([.one ((.int .i64 (rankV sh da)), false)], [])) : CallSpec Try.prog impl_RankOf.E :=
  callSpec_of (d := 0) hX (by kernel_rfl) impl_RankOf.I_ok (by kernel_rfl) (by kernel_rfl) (by kernel_rfl) (fun _ _ _ _ h => by dsimp only [impl_RankOf.E] at h; cases h) (fun xs hp => by
    dsimp only [impl_RankOf.E] at hp ⊢
    split at hp
    · exact h _ _ hp
    · cases hp)
theorem impl_RankOf.ok : CallSpec Try.prog impl_RankOf.E := impl_RankOf.ok_of (by simp [impl_RankOf.X, impl_ValidArray.ok]) fun sh da h => ⟨0, by
  rw [impl_RankOf.e, h]
  unfold rankV
  cases validA sh da <;> rfl⟩

namespace impl_CountTo
noncomputable def E : Entry := ⟨19, false, false, fun | [.d (.int .i64 n)] => true | _ => false, fun | [.d (.int .i64 n)] => ([.agg [((.ints .i64 (cntS n)), true), ((.ints .i64 (cntD n)), true)]], []) | _ => ([], []), fun _ => [], true, fun _ => none⟩
end impl_CountTo
namespace impl_CountTo
noncomputable def X : List Entry := []
noncomputable def I : List Inl := [⟨19, Try.f19, ⟨[], [(1000005, [1, 4, 5, 6, 7, 8, 9, 10, 11, 12, 13, 14, 17, 18, 19, 20, 21, 22, 23, 24, 25, 26, 27])], [], [], [], []⟩⟩]
theorem I_ok : ∀ i ∈ I, Try.prog.funcs[i.f]? = some i.fn ∧ (i.fn.name == "runtime.NumGoroutine") = false := by
  intro i hi
  simp only [I, List.mem_cons, List.not_mem_nil, or_false] at hi
  subst hi
  exact ⟨by kernel_rfl, by kernel_rfl⟩
noncomputable abbrev L0 (fuel n : Nat) (s : St) (k : Kont) := lAt Try.prog X I fuel true 0 false 19 (bodyOf Try.f19) [1, 1, 1, 0, 1, 0] n s k
noncomputable abbrev k0  (fuel : Nat) : Kont := (kAt Try.prog X I fuel true 0 false 19 (bodyOf Try.f19) [1, 1, 1, 0, 1, 0] [] (endK Try.prog Try.f19))
noncomputable def t0 (p0 : Int) (x0q2 : Int) (x0q3 : List Int) : St := ⟨[(.imm (.int .i64 p0)), .dead, (.ptr 1000000000 0 0), (.all 1000000001 1), .dead, .dead, .dead, .dead, .dead, .dead, .dead, .dead, .dead, .dead, .dead, (.imm (.int .i64 (((List.replicate (p0).toNat (0 : Int)).length : Nat) : Int))), (.imm (.int .i64 x0q2)), .dead, .dead, .dead, .dead, .dead, .dead, .dead, .dead, .dead, .dead, .dead], hOf [(1000000000, (.box [(.imm .nils), (.imm .nils)])), (1000000001, (.ints .i64 x0q3))], [], []⟩
theorem e (fuel : Nat) (p0 : Int) : runF Try.prog X I 0 fuel 19 Try.f19 [.d (.int .i64 p0)] =
  (bif (decide ((p0 : Int) < 0)) then
  some ([.agg [((.ints .i64 []), true), ((.ints .i64 []), true)]], [])
  else
  (bif (decide ((p0 : Int) > 60)) then
  some ([.agg [((.ints .i64 []), true), ((.ints .i64 []), true)]], [])
  else
  (bif decide (0 ≤ (p0 : Int)) && decide ((p0 : Int) ≤ p0) && decide ((p0 : Int) ≤ 1152921504606846976) && decide (((8 : Nat) : Int) * p0 ≤ 281474976710656) then
  L0 fuel fuel (t0 p0 0 ((List.replicate (p0).toNat (0 : Int)))) (k0  fuel)
  else
  none))) := by kernel_rfl
theorem s0 (fuel n0 : Nat) (p0 : Int) (x0q2 : Int) (x0q3 : List Int) : L0 fuel (n0 + 1) (t0 p0 x0q2 x0q3) (k0  fuel) =
  (bif (decide ((x0q2 : Int) < (((List.replicate (p0).toNat (0 : Int)).length : Nat) : Int))) then
  (idx x0q2 x0q3.length).bind fun j3 =>
  (bif decide (j3 < x0q3.length) then
  L0 fuel n0 (t0 p0 ((IntKind.wrap .i64 (x0q2 + 1))) ((x0q3.set j3 x0q2))) (k0  fuel)
  else
  none)
  else
  some ([.agg [((.ints .i64 [p0]), true), ((.ints .i64 x0q3), true)]], [])) := by kernel_rfl
end impl_CountTo
theorem impl_CountTo.ok_of (hX : ∀ E ∈ impl_CountTo.X, CallSpec Try.prog E) (h : ∀ (n : Int), (true) = true → ∃ fuel, runF Try.prog impl_CountTo.X impl_CountTo.I 0 fuel 19 Try.f19 [.d (.int .i64 n)] = some ([.agg [((.ints .i64 (cntS n)), true), ((.ints .i64 (cntD n)), true)]], [])) : CallSpec Try.prog impl_CountTo.E :=
  callSpec_of (d := 0) hX (by kernel_rfl) impl_CountTo.I_ok (by kernel_rfl) (by kernel_rfl) (by kernel_rfl) (fun _ _ _ _ h => by dsimp only [impl_CountTo.E] at h; cases h) (fun xs hp => by
    dsimp only [impl_CountTo.E] at hp ⊢
    split at hp
    · exact h _ hp
    · cases hp)
theorem impl_CountTo.loop (fuel : Nat) (p : Int) (hp : cntOk p = true) : ∀ (m n j : Nat) (out : List Int), p.toNat - j = m → m < n → j ≤ p.toNat → out.length = p.toNat → out.take j = ((List.range p.toNat).map Int.ofNat).take j →
    impl_CountTo.L0 fuel n (impl_CountTo.t0 p (j : Int) out) (impl_CountTo.k0 fuel) = some ([.agg [(.ints .i64 (cntS p), true), (.ints .i64 (cntD p), true)]], []) := by
  have hb : 0 ≤ p ∧ p ≤ 60 := by simpa [cntOk] using hp
  intro m
  induction m with
  | zero =>
    intro n j out h1 h2 h3 h4 h5
    obtain ⟨n, rfl⟩ : ∃ n', n = n' + 1 := ⟨n - 1, by omega⟩
    have hj : ¬ j < p.toNat := by omega
    rw [List.take_of_length_le (by omega), List.take_of_length_le (by simp; omega)] at h5
    rw [impl_CountTo.s0, List.length_replicate, dge hj, h5]
    simp [cntS, cntD, hp]
  | succ m ih =>
    intro n j out h1 h2 h3 h4 h5
    obtain ⟨n, rfl⟩ : ∃ n', n = n' + 1 := ⟨n - 1, by omega⟩
    have hj : j < p.toNat := by omega
    have hj2 : j < out.length := by omega
    rw [impl_CountTo.s0, List.length_replicate, dlt hj, idx_nat hj2, w1 (by omega)]
    simp only [cond_true, Option.bind_some, hj2, decide_true]
    have hj3 : j < ((List.range p.toNat).map Int.ofNat).length := by simpa using hj
    have := take_set_succ hj3 hj2 h5
    have e1 : ((List.range p.toNat).map Int.ofNat)[j] = (j : Int) := by simp
    rw [e1] at this
    exact ih n (j + 1) _ (by omega) (by omega) (by omega) (by simpa using h4) this

theorem impl_CountTo.ok : CallSpec Try.prog impl_CountTo.E := impl_CountTo.ok_of (by simp [impl_CountTo.X]) fun p _ => by
  refine ⟨p.toNat + 1, ?_⟩
  rw [impl_CountTo.e]
  by_cases h1 : p < 0
  · have : cntOk p = false := by unfold cntOk; rw [decide_eq_false (by omega)]; rfl
    rw [decide_eq_true h1]
    simp [cntS, cntD, this]
  · by_cases h2 : p > 60
    · have : cntOk p = false := by unfold cntOk; rw [decide_eq_false (p := p ≤ 60) (by omega), Bool.and_false]
      rw [decide_eq_true h2]
      simp [cntS, cntD, this, h1]
    · have hp : cntOk p = true := by unfold cntOk; rw [decide_eq_true (p := 0 ≤ p) (by omega), decide_eq_true (p := p ≤ 60) (by omega)]; rfl
      rw [decide_eq_false h1, decide_eq_false h2, mkOk (by omega) (by omega)]
      exact impl_CountTo.loop (p.toNat + 1) p hp p.toNat (p.toNat + 1) 0 _ (by omega) (by omega) (by omega) (by simp) (by simp)

namespace slices_Reverse_int_int
noncomputable def E : Entry := ⟨20, false, true, fun | [.rows true [(.i64, xs)]] => decide ((xs : List Int).length ≤ 3) | _ => false, fun | [.rows true [(.i64, xs)]] => ([], [[(.ints .i64 (xs.reverse))]]) | _ => ([], []), fun _ => [], false, fun _ => none⟩
end slices_Reverse_int_int
namespace slices_Reverse_int_int
noncomputable def X : List Entry := []
noncomputable def I : List Inl := [⟨20, Try.f20, ⟨[], [(1000001, [1, 4, 5, 6, 7, 8, 9, 10, 11, 12, 13, 14, 15, 16, 17, 18, 19, 20, 21, 22, 23, 24, 25, 26, 27])], [], [(3, [0, 1, 2, 3, 4, 5, 8, 9, 6, 7, 10, 11, 12, 13, 14, 15])], [], []⟩⟩]
theorem I_ok : ∀ i ∈ I, Try.prog.funcs[i.f]? = some i.fn ∧ (i.fn.name == "runtime.NumGoroutine") = false := by
  intro i hi
  simp only [I, List.mem_cons, List.not_mem_nil, or_false] at hi
  subst hi
  exact ⟨by kernel_rfl, by kernel_rfl⟩
noncomputable abbrev L0 (fuel n : Nat) (s : St) (k : Kont) := lAt Try.prog X I fuel false 0 false 20 (bodyOf Try.f20) [1, 0] n s k
noncomputable abbrev k0  (fuel : Nat) : Kont := (kAt Try.prog X I fuel false 0 false 20 (bodyOf Try.f20) [1, 0] [] (endK Try.prog Try.f20))
noncomputable def t0 (x0q0 : Int) (x0q1 : Int) (x0q2 : List Int) : St := ⟨[(.all 1000000000 1), .dead, (.imm (.int .i64 x0q0)), (.imm (.int .i64 x0q1)), .dead, .dead, .dead, .dead, .dead, .dead, .dead, .dead, .dead, .dead, .dead, .dead, .dead, .dead, .dead, .dead, .dead, .dead, .dead, .dead, .dead, .dead, .dead, .dead], hOf [(1000000000, (.ints .i64 x0q2))], [(.all 1000000000 1)], []⟩
theorem e (fuel : Nat) (p0 : List Int) : runF Try.prog X I 0 fuel 20 Try.f20 [.rows true [(.i64, p0)]] =
  L0 fuel fuel (t0 0 ((IntKind.wrap .i64 (((p0.length : Nat) : Int) - 1))) p0) (k0  fuel) := by kernel_rfl
theorem s0 (fuel n0 : Nat) (x0q0 : Int) (x0q1 : Int) (x0q2 : List Int) : L0 fuel (n0 + 1) (t0 x0q0 x0q1 x0q2) (k0  fuel) =
  (bif (decide ((x0q0 : Int) < x0q1)) then
  (idx x0q1 x0q2.length).bind fun j13 =>
  (x0q2[j13]?).bind fun v14 =>
  (idx x0q0 x0q2.length).bind fun j15 =>
  (x0q2[j15]?).bind fun v16 =>
  (idx x0q0 x0q2.length).bind fun j17 =>
  (bif decide (j17 < x0q2.length) then
  (idx x0q1 (x0q2.set j17 v14).length).bind fun j18 =>
  (bif decide (j18 < (x0q2.set j17 v14).length) then
  L0 fuel n0 (t0 ((IntKind.wrap .i64 (x0q0 + 1))) ((IntKind.wrap .i64 (x0q1 - 1))) (((x0q2.set j17 v14).set j18 v16))) (k0  fuel)
  else
  none)
  else
  none)
  else
  some ([], [[(.ints .i64 x0q2)]])) := by kernel_rfl
end slices_Reverse_int_int
theorem slices_Reverse_int_int.ok_of (hX : ∀ E ∈ slices_Reverse_int_int.X, CallSpec Try.prog E) (h : ∀ (xs : List Int), (decide ((xs : List Int).length ≤ 3)) = true → ∃ fuel, runF Try.prog slices_Reverse_int_int.X slices_Reverse_int_int.I 0 fuel 20 Try.f20 [.rows true [(.i64, xs)]] = some ([], [[(.ints .i64 (xs.reverse))]])) : CallSpec Try.prog slices_Reverse_int_int.E :=
  callSpec_of (d := 0) hX (by kernel_rfl) slices_Reverse_int_int.I_ok (by kernel_rfl) (by kernel_rfl) (by kernel_rfl) (fun _ _ _ _ h => by dsimp only [slices_Reverse_int_int.E] at h; cases h) (fun xs hp => by
    dsimp only [slices_Reverse_int_int.E] at hp ⊢
    split at hp
    · exact h _ hp
    · cases hp)
theorem slices_Reverse_int_int.ok : CallSpec Try.prog slices_Reverse_int_int.E := slices_Reverse_int_int.ok_of (by simp [slices_Reverse_int_int.X]) fun xs h => by
  obtain ⟨F, hF⟩ : ∃ F : Nat, F = 5 := ⟨5, rfl⟩
  refine ⟨F + 2, ?_⟩
  have h3 := of_decide_eq_true h
  rw [slices_Reverse_int_int.e]
  match xs, h3 with
  | [], _ =>
    rw [slices_Reverse_int_int.s0]; rfl
  | [a], _ =>
    rw [slices_Reverse_int_int.s0]; rfl
  | [a, b], _ =>
    rw [slices_Reverse_int_int.s0]
    show slices_Reverse_int_int.L0 (F + 2) (F + 1) (slices_Reverse_int_int.t0 1 0 [b, a]) (slices_Reverse_int_int.k0 (F + 2)) = _
    rw [slices_Reverse_int_int.s0]; rfl
  | [a, b, c], _ =>
    rw [slices_Reverse_int_int.s0]
    show slices_Reverse_int_int.L0 (F + 2) (F + 1) (slices_Reverse_int_int.t0 1 1 [c, b, a]) (slices_Reverse_int_int.k0 (F + 2)) = _
    rw [slices_Reverse_int_int.s0]; rfl
  | _ :: _ :: _ :: _ :: _, h => simp at h

namespace slices_Index_int_int
noncomputable def E : Entry := ⟨71, true, false, fun | [.d (.ints .i64 xs), .d (.int .i64 v)] => decide (xs.length < 9223372036854775808) | _ => false, fun | [.d (.ints .i64 xs), .d (.int .i64 v)] => ([.one ((.int .i64 (idxI xs v)), false)], []) | _ => ([], []), fun _ => [], false, fun _ => none⟩
end slices_Index_int_int
namespace slices_Index_int_int
noncomputable def X : List Entry := []
noncomputable def I : List Inl := [⟨71, Try.f71, ⟨[], [(1000002, [2, 3, 4, 5, 6, 9, 10, 11, 12, 13, 14, 15, 16, 17, 18])], [], [], [], []⟩⟩]
theorem I_ok : ∀ i ∈ I, Try.prog.funcs[i.f]? = some i.fn ∧ (i.fn.name == "runtime.NumGoroutine") = false := by
  intro i hi
  simp only [I, List.mem_cons, List.not_mem_nil, or_false] at hi
  subst hi
  exact ⟨by kernel_rfl, by kernel_rfl⟩
noncomputable abbrev L0 (fuel n : Nat) (s : St) (k : Kont) := lAt Try.prog X I fuel true 0 false 71 (bodyOf Try.f71) [1, 0, 1, 0] n s k
noncomputable abbrev k0  (fuel : Nat) : Kont := (kAt Try.prog X I fuel true 0 false 71 (bodyOf Try.f71) [1, 0, 1, 0] [] (endK Try.prog Try.f71))
noncomputable def t0 (p0 : List Int) (p1 : Int) (x0q3 : Int) : St := ⟨[(.imm (.ints .i64 p0)), (.imm (.int .i64 p1)), .dead, .dead, .dead, .dead, .dead, (.imm (.int .i64 ((p0.length : Nat) : Int))), (.imm (.int .i64 x0q3)), .dead, .dead, .dead, .dead, .dead, .dead, .dead, .dead, .dead, .dead], hOf [], [], []⟩
theorem e (fuel : Nat) (p0 : List Int) (p1 : Int) : runF Try.prog X I 0 fuel 71 Try.f71 [.d (.ints .i64 p0), .d (.int .i64 p1)] =
  L0 fuel fuel (t0 p0 p1 0) (k0  fuel) := by kernel_rfl
theorem s0 (fuel n0 : Nat) (p0 : List Int) (p1 : Int) (x0q3 : Int) : L0 fuel (n0 + 1) (t0 p0 p1 x0q3) (k0  fuel) =
  (bif (decide ((x0q3 : Int) < ((p0.length : Nat) : Int))) then
  (idx x0q3 p0.length).bind fun j5 =>
  (p0[j5]?).bind fun v6 =>
  (bif ((p1 : Int) == v6) then
  some ([.one ((.int .i64 x0q3), false)], [])
  else
  L0 fuel n0 (t0 p0 p1 ((IntKind.wrap .i64 (x0q3 + 1)))) (k0  fuel))
  else
  some ([.one ((.int .i64 (-1)), false)], [])) := by kernel_rfl
end slices_Index_int_int
theorem slices_Index_int_int.ok_of (hX : ∀ E ∈ slices_Index_int_int.X, CallSpec Try.prog E) (h : ∀ (xs : List Int) (v : Int), (decide (xs.length < 9223372036854775808)) = true → ∃ fuel, runF Try.prog slices_Index_int_int.X slices_Index_int_int.I 0 fuel 71 Try.f71 [.d (.ints .i64 xs), .d (.int .i64 v)] = some ([.one ((.int .i64 (idxI xs v)), false)], [])) : CallSpec Try.prog slices_Index_int_int.E :=
  callSpec_of (d := 0) hX (by kernel_rfl) slices_Index_int_int.I_ok (by kernel_rfl) (by kernel_rfl) (by kernel_rfl) (fun _ _ _ _ h => by dsimp only [slices_Index_int_int.E] at h; cases h) (fun xs hp => by
    dsimp only [slices_Index_int_int.E] at hp ⊢
    split at hp
    · exact h _ _ hp
    · cases hp)
theorem slices_Index_int_int.ok : CallSpec Try.prog slices_Index_int_int.E := slices_Index_int_int.ok_of (by simp [slices_Index_int_int.X]) fun xs v h => ⟨xs.length + 1, by
  simp only [decide_eq_true_eq] at h
  rw [slices_Index_int_int.e]
  refine cnt_loop (N := xs.length) (fun n j (_ : Unit) => slices_Index_int_int.L0 (xs.length + 1) n (slices_Index_int_int.t0 xs v (j : Int)) (slices_Index_int_int.k0 (xs.length + 1))) (fun j _ => ∀ i, i < j → xs.getD i 0 ≠ v) ?_ ?_ (xs.length + 1) 0 () (by omega) (by omega) (fun i hi => absurd hi (by omega))
  · intro n _ hI
    rw [slices_Index_int_int.s0, dge (by omega), cond_false, idxI_no hI]
  · intro n j _ hj hI
    rw [slices_Index_int_int.s0, dlt hj, cond_true, idx_nat hj, w1 (by omega)]
    simp only [Option.bind_some, getD_get hj]
    by_cases he : v = xs.getD j 0
    · refine .inl ?_
      rw [show (v == xs.getD j 0) = true by simp [he], cond_true, idxI_at hj hI he.symm]
    · refine .inr ⟨(), ?_, by rw [show (v == xs.getD j 0) = false by simpa using he, cond_false]⟩
      intro i hi
      by_cases h1 : i = j
      · subst h1; exact fun e => he e.symm
      · exact hI i (by omega)⟩

namespace impl_OrderBack
noncomputable def E : Entry := ⟨47, false, false, fun | [.d (.ints .i64 order)] => decide (order.length < 9223372036854775808) | _ => false, fun | [.d (.ints .i64 order)] => ([.one ((.ints .i64 (obS order)), true), .one ((.bool (obB order)), false)], []) | _ => ([], []), fun _ => [], true, fun _ => none⟩
end impl_OrderBack
namespace impl_OrderBack
noncomputable def X : List Entry := [slices_Index_int_int.E]
noncomputable def I : List Inl := [⟨47, Try.f47, ⟨[], [(1000005, [1, 2, 3, 5, 6, 7, 8, 9, 10, 11, 12, 15, 16, 17, 18, 19, 20, 21, 22, 23, 24, 25, 26, 27, 28, 29])], [], [], [], []⟩⟩]
theorem I_ok : ∀ i ∈ I, Try.prog.funcs[i.f]? = some i.fn ∧ (i.fn.name == "runtime.NumGoroutine") = false := by
  intro i hi
  simp only [I, List.mem_cons, List.not_mem_nil, or_false] at hi
  subst hi
  exact ⟨by kernel_rfl, by kernel_rfl⟩
noncomputable abbrev L0 (fuel n : Nat) (s : St) (k : Kont) := lAt Try.prog X I fuel true 0 false 47 (bodyOf Try.f47) [1, 1, 1, 0, 1, 0] n s k
noncomputable abbrev k0  (fuel : Nat) : Kont := (kAt Try.prog X I fuel true 0 false 47 (bodyOf Try.f47) [1, 1, 1, 0, 1, 0] [] (endK Try.prog Try.f47))
noncomputable def t0 (p0 : List Int) (x0q2 : Int) (x0q3 : List Int) : St := ⟨[(.imm (.ints .i64 p0)), .dead, .dead, .dead, (.all 1000000000 1), .dead, .dead, .dead, .dead, .dead, .dead, .dead, .dead, (.imm (.int .i64 (((List.replicate (((p0.length : Nat) : Int)).toNat (0 : Int)).length : Nat) : Int))), (.imm (.int .i64 x0q2)), .dead, .dead, .dead, .dead, .dead, .dead, .dead, .dead, .dead, .dead, .dead, .dead, .dead, .dead, .dead], hOf [(1000000000, (.ints .i64 x0q3))], [], []⟩
theorem e (fuel : Nat) (p0 : List Int) : runF Try.prog X I 0 fuel 47 Try.f47 [.d (.ints .i64 p0)] =
  (bif (decide ((((p0.length : Nat) : Int) : Int) > 3)) then
  some ([.one ((.ints .i64 []), true), .one ((.bool false), false)], [])
  else
  (bif decide (0 ≤ (((p0.length : Nat) : Int) : Int)) && decide ((((p0.length : Nat) : Int) : Int) ≤ ((p0.length : Nat) : Int)) && decide ((((p0.length : Nat) : Int) : Int) ≤ 1152921504606846976) && decide (((8 : Nat) : Int) * ((p0.length : Nat) : Int) ≤ 281474976710656) then
  L0 fuel fuel (t0 p0 0 ((List.replicate (((p0.length : Nat) : Int)).toNat (0 : Int)))) (k0  fuel)
  else
  none)) := by kernel_rfl
theorem s0 (fuel n0 : Nat) (p0 : List Int) (x0q2 : Int) (x0q3 : List Int) : L0 fuel (n0 + 1) (t0 p0 x0q2 x0q3) (k0  fuel) =
  (bif (decide ((x0q2 : Int) < (((List.replicate (((p0.length : Nat) : Int)).toNat (0 : Int)).length : Nat) : Int))) then
  (bif decide (p0.length < 9223372036854775808) then
  (idx x0q2 x0q3.length).bind fun j7 =>
  (bif decide (j7 < x0q3.length) then
  (idx x0q2 (x0q3.set j7 (idxI p0 x0q2)).length).bind fun j8 =>
  ((x0q3.set j7 (idxI p0 x0q2))[j8]?).bind fun v9 =>
  (bif (decide ((v9 : Int) < 0)) then
  some ([.one ((.ints .i64 []), true), .one ((.bool false), false)], [])
  else
  L0 fuel n0 (t0 p0 ((IntKind.wrap .i64 (x0q2 + 1))) ((x0q3.set j7 (idxI p0 x0q2)))) (k0  fuel))
  else
  none)
  else
  none)
  else
  some ([.one ((.ints .i64 x0q3), true), .one ((.bool true), false)], [])) := by kernel_rfl
end impl_OrderBack
theorem impl_OrderBack.ok_of (hX : ∀ E ∈ impl_OrderBack.X, CallSpec Try.prog E) (h : ∀ (order : List Int), (decide (order.length < 9223372036854775808)) = true → ∃ fuel, runF Try.prog impl_OrderBack.X impl_OrderBack.I 0 fuel 47 Try.f47 [.d (.ints .i64 order)] = some ([.one ((.ints .i64 (obS order)), true), .one ((.bool (obB order)), false)], [])) : CallSpec Try.prog impl_OrderBack.E :=
  callSpec_of (d := 0) hX (by kernel_rfl) impl_OrderBack.I_ok (by kernel_rfl) (by kernel_rfl) (by kernel_rfl) (fun _ _ _ _ h => by dsimp only [impl_OrderBack.E] at h; cases h) (fun xs hp => by
    dsimp only [impl_OrderBack.E] at hp ⊢
    split at hp
    · exact h _ hp
    · cases hp)
theorem impl_OrderBack.ok : CallSpec Try.prog impl_OrderBack.E := impl_OrderBack.ok_of (by simp [impl_OrderBack.X, slices_Index_int_int.ok]) fun xs h => by
  obtain ⟨F, hF⟩ : ∃ F : Nat, 60 < F := ⟨61, by omega⟩
  refine ⟨F, ?_⟩
  rw [impl_OrderBack.e]
  unfold obS
  by_cases h3 : xs.length ≤ 3
  · have hN : (obN xs).length = xs.length := by simp only [obN, tab_length]
    rw [decide_eq_false (by omega), cond_false, mkOk (by omega) (by omega), Int.toNat_natCast]
    simp only [cond_true]
    refine cnt_loop (N := xs.length) (fun n j out => impl_OrderBack.L0 F n (impl_OrderBack.t0 xs (j : Int) out) (impl_OrderBack.k0 F)) (fun j out => out = part (obN xs) j ∧ ∀ i, i < j → xs.contains (i : Int) = true) ?_ ?_ F 0 _ (by omega) (by omega) ⟨by rw [part_zero, hN], fun i hi => absurd hi (by omega)⟩
    · rintro n out ⟨hI, hc⟩
      have ho : obB xs = true := by rw [obB, isOB_iff.2 hc, decide_eq_true h3]; rfl
      have hall := part_all (obN xs)
      rw [hN] at hall
      rw [hall] at hI
      rw [impl_OrderBack.s0]
      simp only [Int.toNat_natCast, List.length_replicate]
      rw [dge (by omega), cond_false, hI, ho]
      rfl
    · rintro n j out hj ⟨hI, hc⟩
      have hol : out.length = xs.length := by rw [hI, part_length (by omega), hN]
      rw [impl_OrderBack.s0]
      simp only [Int.toNat_natCast, List.length_replicate]
      rw [dlt hj, cond_true, h, cond_true, idx_nat (by omega), w1 (by omega)]
      simp only [Option.bind_some]
      rw [decide_eq_true (by omega), cond_true, idx_nat (by rw [List.length_set]; omega)]
      simp only [Option.bind_some]
      rw [List.getElem?_set_self (by omega)]
      simp only [Option.bind_some]
      rw [idxI_neg]
      cases hx : xs.contains (j : Int) with
      | false =>
        refine .inl ?_
        have ho : obB xs = false := by
          rw [Bool.eq_false_iff]
          intro hb
          simp only [obB, Bool.and_eq_true] at hb
          have := isOB_iff.1 hb.2 j hj
          rw [hx] at this
          cases this
        rw [ho]; rfl
      | true =>
        refine .inr ⟨_, ⟨?_, fun i hi => ?_⟩, rfl⟩
        · rw [hI, part_set (by omega)]
          simp only [obN]
          rw [tab_getD hj, idxI, hx]
          rfl
        · by_cases h1 : i = j
          · subst h1; exact hx
          · exact hc i (by omega)
  · rw [decide_eq_true (by omega), cond_true]
    have ho : obB xs = false := by rw [obB, decide_eq_false h3]; rfl
    rw [ho]; rfl

namespace impl_PlaceOf
noncomputable def E : Entry := ⟨49, false, false, fun | [.d (.ints .i64 sh), .d (.int .i64 n)] => decide (sh.length < 9223372036854775808) | _ => false, fun | [.d (.ints .i64 sh), .d (.int .i64 n)] => ([.one ((.ints .i64 (plD sh n)), true), .one ((.bool (plB sh n)), false)], []) | _ => ([], []), fun _ => [], true, fun _ => none⟩
end impl_PlaceOf
namespace impl_PlaceOf
noncomputable def X : List Entry := [impl_layoutOf.E]
noncomputable def I : List Inl := [⟨49, Try.f49, ⟨[10, 28], [(4, [0, 2, 3, 4, 5, 7, 8, 9, 10, 11, 12, 13, 14, 15, 16, 17, 18, 19, 20, 21, 22, 23, 24, 25, 26, 27, 28])], [], [], [], []⟩⟩, ⟨73, Try.f73, ⟨[], [], [(1, [2, 3])], [], [], []⟩⟩, ⟨72, Try.f72, ⟨[4], [(1, [1, 2, 3, 4])], [], [], [], []⟩⟩, ⟨79, Try.f79, ⟨[2], [], [], [], [], []⟩⟩, ⟨80, Try.f80, ⟨[], [(1000001, [3, 4, 5, 6, 10, 11, 12, 13, 14, 15, 16, 17, 18, 19, 20, 21, 22, 23, 24, 25])], [], [(3, [0, 2, 3, 7, 1, 4, 5, 6, 8, 9, 10])], [], [23]⟩⟩]
theorem I_ok : ∀ i ∈ I, Try.prog.funcs[i.f]? = some i.fn ∧ (i.fn.name == "runtime.NumGoroutine") = false := by
  intro i hi
  simp only [I, List.mem_cons, List.not_mem_nil, or_false] at hi
  rcases hi with rfl | rfl | rfl | rfl | rfl
  all_goals exact ⟨by kernel_rfl, by kernel_rfl⟩
noncomputable abbrev L0 (fuel n : Nat) (s : St) (k : Kont) := lAt Try.prog X I fuel true 1 false 80 (bodyOf Try.f80) [1, 0] n s k
noncomputable abbrev k0  (fuel : Nat) : Kont := (kAt Try.prog X I fuel true 1 false 80 (bodyOf Try.f80) [1, 0] [] (endFn Try.prog Try.f80 13 (kRange (kAt Try.prog X I fuel true 2 false 79 (bodyOf Try.f79) [1, 0, 1, 0] [] (endFn Try.prog Try.f79 5 (kOp Try.prog X I fuel true 3 72 (cAt (bodyOf Try.f72) [1, 0]) 1 (kAt Try.prog X I fuel true 3 false 72 (bodyOf Try.f72) [1, 0] [] (endFn Try.prog Try.f72 29 (kOp Try.prog X I fuel true 4 49 (cAt (bodyOf Try.f49) [1, 1, 1, 0]) 3 (kAt Try.prog X I fuel true 4 false 49 (bodyOf Try.f49) [1, 1, 1, 0] [] (endK Try.prog Try.f49)))))))))))
noncomputable def t0 (p0 : List Int) (p1 : Int) (x0q8 : Int) (x0q26 : List Int) : St := ⟨[(.yld 1000000002), (.imm (.pbox [(.ints .i64 p0), (.int .i64 (strd p0 0)), (.int .i64 (strd p0 1)), (.int .i64 (strd p0 2)), (.int .i64 (volW p0))])), (.imm (.pbox [(.int .i64 p1)])), .dead, .dead, .dead, .dead, (.imm (.ints .i64 p0)), (.imm (.int .i64 ((p0.length : Nat) : Int))), (.imm (.int .i64 x0q8)), .dead, .dead, .dead, .dead, .dead, .dead, .dead, .dead, .dead, .dead, .dead, .dead, .dead, .dead, .dead, .dead], hOf [(1000000000, .dfr), (1000000001, (.box [(.imm (.ints .i64 p0)), (.imm (.int .i64 (strd p0 0))), (.imm (.int .i64 (strd p0 1))), (.imm (.int .i64 (strd p0 2))), (.imm (.int .i64 (volW p0)))])), (1000000002, (.loop 79 [(.imm .nils), (.imm (.clo 80 [(.pbox [(.ints .i64 p0), (.int .i64 (strd p0 0)), (.int .i64 (strd p0 1)), (.int .i64 (strd p0 2)), (.int .i64 (volW p0))]), (.pbox [(.int .i64 p1)])])), (.ptr 1000000003 0 0), .undef, (.imm .nils), .undef, (.imm (.clo 80 [(.pbox [(.ints .i64 p0), (.int .i64 (strd p0 0)), (.int .i64 (strd p0 1)), (.int .i64 (strd p0 2)), (.int .i64 (volW p0))]), (.pbox [(.int .i64 p1)])])), .undef, .undef, .undef, .undef, .undef, .undef] [7] (cAt (bodyOf Try.f79) [1, 0, 1, 0, 0]) (cAt (bodyOf Try.f79) [1, 0, 1, 0, 1]) .ready)), (1000000003, (.box [(.all 1000000004 1)])), (1000000004, (.ints .i64 x0q26))], [(.imm .nils), (.imm (.clo 80 [(.pbox [(.ints .i64 p0), (.int .i64 (strd p0 0)), (.int .i64 (strd p0 1)), (.int .i64 (strd p0 2)), (.int .i64 (volW p0))]), (.pbox [(.int .i64 p1)])])), (.ptr 1000000003 0 0), .undef, (.imm .nils), .undef, (.imm (.clo 80 [(.pbox [(.ints .i64 p0), (.int .i64 (strd p0 0)), (.int .i64 (strd p0 1)), (.int .i64 (strd p0 2)), (.int .i64 (volW p0))]), (.pbox [(.int .i64 p1)])])), .undef, .undef, .undef, .undef, .undef, .undef, (.tup [(.dfr 1000000000)]), (.yld 1000000002), (.imm (.clo 80 [(.pbox [(.ints .i64 p0), (.int .i64 (strd p0 0)), (.int .i64 (strd p0 1)), (.int .i64 (strd p0 2)), (.int .i64 (volW p0))]), (.pbox [(.int .i64 p1)])])), .dead, .dead, (.imm (.clo 80 [(.pbox [(.ints .i64 p0), (.int .i64 (strd p0 0)), (.int .i64 (strd p0 1)), (.int .i64 (strd p0 2)), (.int .i64 (volW p0))]), (.pbox [(.int .i64 p1)])])), .dead, (.tup []), .dead, (.imm (.int .i64 p1)), .dead, .dead, .dead, .dead, (.ptr 1000000001 0 0), .dead, .dead, .dead, .dead, .dead, .dead, .dead, .dead, .dead, .dead, .dead, .dead, .dead, .dead, .dead, .dead, .dead, .dead, (.agg [(.imm (.ints .i64 p0)), (.imm (.int .i64 (strd p0 0))), (.imm (.int .i64 (strd p0 1))), (.imm (.int .i64 (strd p0 2))), (.imm (.int .i64 (volW p0)))]), (.imm (.int .i64 p1)), (.imm (.clo 80 [(.pbox [(.ints .i64 p0), (.int .i64 (strd p0 0)), (.int .i64 (strd p0 1)), (.int .i64 (strd p0 2)), (.int .i64 (volW p0))]), (.pbox [(.int .i64 p1)])])), .dead, (.tup [])], []⟩
theorem e (fuel : Nat) (p0 : List Int) (p1 : Int) : runF Try.prog X I 4 fuel 49 Try.f49 [.d (.ints .i64 p0), .d (.int .i64 p1)] =
  (bif decide (p0.length < 9223372036854775808) then
  (bif validS p0 then
  (bif (decide ((p1 : Int) < 0)) then
  some ([.one ((.ints .i64 []), true), .one ((.bool false), false)], [])
  else
  (bif (decide ((p1 : Int) ≥ (volW p0))) then
  some ([.one ((.ints .i64 []), true), .one ((.bool false), false)], [])
  else
  L0 fuel fuel (t0 p0 p1 0 ([])) (k0  fuel)))
  else
  some ([.one ((.ints .i64 []), true), .one ((.bool false), false)], []))
  else
  none) := by kernel_rfl
theorem s0 (fuel n0 : Nat) (p0 : List Int) (p1 : Int) (x0q8 : Int) (x0q26 : List Int) : L0 fuel (n0 + 1) (t0 p0 p1 x0q8 x0q26) (k0  fuel) =
  (bif (decide ((x0q8 : Int) < ((p0.length : Nat) : Int))) then
  (idx x0q8 p0.length).bind fun j5 =>
  (p0[j5]?).bind fun v6 =>
  (bif decide (x0q8 = ((0 : Nat) : Int)) then
  (bif decide (((strd p0 0) : Int) = 0) then
  none
  else
  (bif decide ((v6 : Int) = 0) then
  none
  else
  (bif fits (x0q26.length + ([(Int.tmod (IntKind.wrap .i64 (Int.tdiv p1 (strd p0 0))) v6)] : List Int).length) 8 then
  L0 fuel n0 (t0 p0 p1 ((IntKind.wrap .i64 (x0q8 + 1))) ((x0q26 ++ [(Int.tmod (IntKind.wrap .i64 (Int.tdiv p1 (strd p0 0))) v6)]))) (k0  fuel)
  else
  none)))
  else
  (bif decide (x0q8 = ((1 : Nat) : Int)) then
  (bif decide (((strd p0 1) : Int) = 0) then
  none
  else
  (bif decide ((v6 : Int) = 0) then
  none
  else
  (bif fits (x0q26.length + ([(Int.tmod (IntKind.wrap .i64 (Int.tdiv p1 (strd p0 1))) v6)] : List Int).length) 8 then
  L0 fuel n0 (t0 p0 p1 ((IntKind.wrap .i64 (x0q8 + 1))) ((x0q26 ++ [(Int.tmod (IntKind.wrap .i64 (Int.tdiv p1 (strd p0 1))) v6)]))) (k0  fuel)
  else
  none)))
  else
  (bif decide (x0q8 = ((2 : Nat) : Int)) then
  (bif decide (((strd p0 2) : Int) = 0) then
  none
  else
  (bif decide ((v6 : Int) = 0) then
  none
  else
  (bif fits (x0q26.length + ([(Int.tmod (IntKind.wrap .i64 (Int.tdiv p1 (strd p0 2))) v6)] : List Int).length) 8 then
  L0 fuel n0 (t0 p0 p1 ((IntKind.wrap .i64 (x0q8 + 1))) ((x0q26 ++ [(Int.tmod (IntKind.wrap .i64 (Int.tdiv p1 (strd p0 2))) v6)]))) (k0  fuel)
  else
  none)))
  else
  none)))
  else
  some ([.one ((.ints .i64 x0q26), true), .one ((.bool true), false)], [])) := by kernel_rfl
end impl_PlaceOf
theorem impl_PlaceOf.ok_of (hX : ∀ E ∈ impl_PlaceOf.X, CallSpec Try.prog E) (h : ∀ (sh : List Int) (n : Int), (decide (sh.length < 9223372036854775808)) = true → ∃ fuel, runF Try.prog impl_PlaceOf.X impl_PlaceOf.I 4 fuel 49 Try.f49 [.d (.ints .i64 sh), .d (.int .i64 n)] = some ([.one ((.ints .i64 (plD sh n)), true), .one ((.bool (plB sh n)), false)], [])) : CallSpec Try.prog impl_PlaceOf.E :=
  callSpec_of (d := 4) hX (by kernel_rfl) impl_PlaceOf.I_ok (by kernel_rfl) (by kernel_rfl) (by kernel_rfl) (fun _ _ _ _ h => by dsimp only [impl_PlaceOf.E] at h; cases h) (fun xs hp => by
    dsimp only [impl_PlaceOf.E] at hp ⊢
    split at hp
    · exact h _ _ hp
    · cases hp)
theorem impl_PlaceOf.loop (fuel : Nat) (sh : List Int) (n : Nat) (hv : validS sh = true) (hn : n < prodN sh) (h60 : prodN sh ≤ 60) (hf : 3 < fuel) :
    impl_PlaceOf.L0 fuel fuel (impl_PlaceOf.t0 sh (n : Int) 0 []) (impl_PlaceOf.k0 fuel) = some ([.one ((.ints .i64 (plN sh n)), true), .one ((.bool true), false)], []) := by
  have hr := (validS_inv hv).1
  refine run_loop (N := sh.length) (fun f j out => impl_PlaceOf.L0 fuel f (impl_PlaceOf.t0 sh (n : Int) (j : Int) out) (impl_PlaceOf.k0 fuel)) (fun j out => out = tab j fun k => ((n / behN sh k % lenN sh k : Nat) : Int)) ?_ ?_ fuel 0 [] (by omega) (by omega) rfl
  · intro f out ho
    change out = plN sh n at ho
    rw [impl_PlaceOf.s0, dge (by omega), ho]
    rfl
  · intro f k out hk ho
    have ax := ax_of hv hk
    have hl : out.length = k := by rw [ho, tab_length]
    obtain ⟨p1, p2, _⟩ := pl_pos hn hk
    have hst := strd_beh ax
    have hdl : n / behN sh k ≤ n := Nat.div_le_self _ _
    have hfit : fits (out.length + [((n / behN sh k % lenN sh k : Nat) : Int)].length) 8 = true := fitsOk (by simp only [List.length_cons, List.length_nil]; omega)
    rw [impl_PlaceOf.s0, dlt hk, cond_true, idx_nat hk]
    simp only [Option.bind_some, getD_get hk, ax.len]
    have key : ∀ m, m = strd sh k → (bif decide ((m : Int) = 0) then none else (bif decide (((lenN sh k : Nat) : Int) = 0) then none else (bif fits (out.length + ([(Int.tmod (IntKind.wrap .i64 (Int.tdiv (n : Int) m)) ((lenN sh k : Nat) : Int))] : List Int).length) 8 then impl_PlaceOf.L0 fuel f (impl_PlaceOf.t0 sh (n : Int) ((IntKind.wrap .i64 ((k : Int) + 1))) ((out ++ [(Int.tmod (IntKind.wrap .i64 (Int.tdiv (n : Int) m)) ((lenN sh k : Nat) : Int))]))) (impl_PlaceOf.k0 fuel) else none))) =
        impl_PlaceOf.L0 fuel f (impl_PlaceOf.t0 sh (n : Int) ((k + 1 : Nat) : Int) (tab (k + 1) fun k => ((n / behN sh k % lenN sh k : Nat) : Int))) (impl_PlaceOf.k0 fuel) := by
      rintro m rfl
      rw [hst, decide_eq_false (by omega), decide_eq_false (by omega), tdivN, wN (by omega), tmodN, hfit, w1 (by omega), tab_succ, ho]
      rfl
    refine ⟨_, rfl, ?_⟩
    match k, key with
    | 0, key => rw [decide_eq_true (p := ((0 : Nat) : Int) = ((0 : Nat) : Int)) rfl, cond_true]; exact key _ rfl
    | 1, key => rw [decide_eq_false (p := ((1 : Nat) : Int) = ((0 : Nat) : Int)) (by omega), cond_false, decide_eq_true (p := ((1 : Nat) : Int) = ((1 : Nat) : Int)) rfl, cond_true]; exact key _ rfl
    | 2, key => rw [decide_eq_false (p := ((2 : Nat) : Int) = ((0 : Nat) : Int)) (by omega), cond_false, decide_eq_false (p := ((2 : Nat) : Int) = ((1 : Nat) : Int)) (by omega), cond_false, decide_eq_true (p := ((2 : Nat) : Int) = ((2 : Nat) : Int)) rfl, cond_true]; exact key _ rfl
    | k + 3, _ => omega
theorem impl_PlaceOf.ok : CallSpec Try.prog impl_PlaceOf.E := impl_PlaceOf.ok_of (by simp [impl_PlaceOf.X, impl_layoutOf.ok]) fun sh n h => ⟨4, by
  rw [impl_PlaceOf.e, h]
  unfold plD
  cases hv : validS sh with
  | false => simp only [plB, hv]; rfl
  | true =>
    by_cases h0 : n < 0
    · rw [decide_eq_true h0, show plB sh n = false by simp only [plB, decide_eq_false (show ¬ 0 ≤ n by omega), Bool.and_false, Bool.false_and]]; rfl
    by_cases h1 : n ≥ volW sh
    · rw [decide_eq_false h0, decide_eq_true h1, show plB sh n = false by simp only [plB, decide_eq_false (show ¬ n < volW sh by omega), Bool.and_false]]; rfl
    have hb : plB sh n = true := by simp only [plB, hv, decide_eq_true (show 0 ≤ n by omega), decide_eq_true (show n < volW sh by omega), Bool.and_self]
    rw [decide_eq_false h0, decide_eq_false h1, hb]
    obtain ⟨j, rfl, _, hj, _, h60⟩ := plB_inv hb
    exact impl_PlaceOf.loop 4 sh j hv hj h60 (by omega)⟩

namespace impl_MoveAxes
noncomputable def E : Entry := ⟨21, false, false, fun | [.d (.agg [(.ints .i64 sh), (.ints .i64 da)]), .d (.ints .i64 order)] => decide (sh.length < 9223372036854775808) && decide (da.length < 9223372036854775808) && decide (order.length < 9223372036854775808) | _ => false, fun | [.d (.agg [(.ints .i64 sh), (.ints .i64 da)]), .d (.ints .i64 order)] => ([.agg [((.ints .i64 (mvS sh da order)), true), ((.ints .i64 (mvD sh da order)), true)], .one ((.bool (mvB sh da order)), false)], []) | _ => ([], []), fun _ => [], true, fun _ => none⟩
end impl_MoveAxes
namespace impl_MoveAxes
noncomputable def X : List Entry := [impl_OrderBack.E, impl_ValidArray.E, impl_layoutOf_j.E, impl_PlaceOf.E]
noncomputable def I : List Inl := [⟨21, Try.f21, ⟨[16, 38, 72], [(11, [0, 1, 3, 5, 6, 7, 8, 9, 12, 13, 14, 15, 16, 17, 18, 19, 20, 21, 22, 23, 24, 25, 26, 27, 28, 29, 30, 31, 32, 33, 34, 35, 36, 37, 38, 39, 40, 41, 42, 43, 44, 45, 46, 47, 48, 49, 50, 51, 52, 53, 54, 55, 56, 57, 58, 59, 60, 61, 62, 63, 64, 65, 66, 67, 68, 69, 70, 71, 72, 73, 74]), (1000007, [0, 1, 3, 5, 6, 7, 9, 12, 13, 14, 15, 16, 17, 18, 19, 20, 21, 22, 23, 24, 25, 26, 27, 28, 29, 30, 31, 32, 33, 34, 35, 36, 37, 38, 39, 40, 41, 42, 43, 44, 45, 46, 50, 51, 52, 53, 54, 55, 56, 57, 58, 59, 60, 61, 62, 63, 64, 65, 66, 67, 68, 69, 70, 71, 72, 73, 74])], [(6, [8]), (5000056, [67])], [(5, [0, 1, 2, 6, 7, 8, 3, 4, 5, 9]), (9, [0, 1, 4, 5, 6, 7, 8, 13, 2, 3, 9, 10, 11, 12, 14, 15, 16])], [45, 65, 66], []⟩⟩, ⟨34, Try.f34, ⟨[12], [(1000006, [2, 3, 5, 6, 7, 9, 10, 11, 12, 13, 14, 15, 16, 17, 18, 19, 20, 21, 24, 25, 26, 27, 28, 29, 30, 31, 32, 33, 34, 35])], [], [], [], []⟩⟩, ⟨48, Try.f48, ⟨[14], [(1000004, [0, 1, 4, 5, 6, 7, 9, 10, 11, 12, 13, 14, 15, 16, 20, 21, 22, 23, 24, 25, 26, 27, 28, 29, 30, 31, 32, 33, 34, 35, 36, 37])], [], [], [], []⟩⟩]
theorem I_ok : ∀ i ∈ I, Try.prog.funcs[i.f]? = some i.fn ∧ (i.fn.name == "runtime.NumGoroutine") = false := by
  intro i hi
  simp only [I, List.mem_cons, List.not_mem_nil, or_false] at hi
  rcases hi with rfl | rfl | rfl
  all_goals exact ⟨by kernel_rfl, by kernel_rfl⟩
noncomputable abbrev L0 (fuel n : Nat) (s : St) (k : Kont) := lAt Try.prog X I fuel true 4 false 21 (bodyOf Try.f21) [1, 1, 1, 1, 1, 0, 1, 0] n s k
noncomputable abbrev k0  (fuel : Nat) : Kont := (kAt Try.prog X I fuel true 4 false 21 (bodyOf Try.f21) [1, 1, 1, 1, 1, 0, 1, 0] [] (endK Try.prog Try.f21))
noncomputable def t0 (p1 : List Int) (p0q0 : List Int) (p0q1 : List Int) (x0q0 : Int) (x0q1 : Int) (x0q2 : Int) (x0q3 : Int) (x0q6 : Int) (x0q9 : List Int) (x0q10 : List Int) : St := ⟨[.dead, .dead, (.ptr 1000000000 0 0), .dead, (.ptr 1000000001 0 0), .dead, .dead, .dead, (.dptr [.junk, (.int .i64 x0q0), (.int .i64 x0q1), (.int .i64 x0q2), (.int .i64 x0q3)] 0), .dead, (.ptr 1000000002 0 0), (.ptr 1000000003 0 0), .dead, .dead, .dead, .dead, .dead, .dead, .dead, .dead, .dead, .dead, .dead, .dead, .dead, .dead, .dead, .dead, .dead, .dead, .dead, .dead, .dead, .dead, .dead, .dead, .dead, .dead, .dead, .dead, .dead, .dead, .dead, .dead, .dead, .dead, .dead, (.imm (.ints .i64 p1)), (.imm (.int .i64 ((p1.length : Nat) : Int))), (.imm (.int .i64 x0q6)), .dead, .dead, .dead, .dead, .dead, .dead, .dead, .dead, .dead, .dead, .dead, .dead, .dead, .dead, .dead, .dead, .dead, .dead, .dead, .dead, .dead, .dead, .dead, .dead, .dead], hOf [(1000000000, (.box [(.imm (.ints .i64 p0q0)), (.imm (.ints .i64 p0q1))])), (1000000001, (.box [(.imm .nils), (.imm .nils)])), (1000000002, (.box [(.all 1000000004 1)])), (1000000003, (.box [(.all 1000000005 1)])), (1000000004, (.ints .i64 x0q9)), (1000000005, (.ints .i64 x0q10))], [], []⟩
noncomputable abbrev L1 (fuel n : Nat) (s : St) (k : Kont) := lAt Try.prog X I fuel true 3 false 34 (bodyOf Try.f34) [1, 1, 1, 1, 0, 1, 0] n s k
noncomputable abbrev k1  (fuel : Nat) : Kont := (kAt Try.prog X I fuel true 3 false 34 (bodyOf Try.f34) [1, 1, 1, 1, 0, 1, 0] [] (endFn Try.prog Try.f34 75 (kOp Try.prog X I fuel true 4 21 (cAt (bodyOf Try.f21) [1, 1, 1, 1, 1, 1, 0]) 2 (kAt Try.prog X I fuel true 4 false 21 (bodyOf Try.f21) [1, 1, 1, 1, 1, 1, 0] [] (endK Try.prog Try.f21)))))
noncomputable def t1 (x0q9 : List Int) (p0q0 : List Int) (p0q1 : List Int) (x0q10 : List Int) (x1q1 : Int) (x1q4 : List Int) : St := ⟨[(.all 1000000006 1), (.clo 48 [(.ptr 1000000001 0 0), (.ptr 1000000002 0 0), (.ptr 1000000003 0 0)]), .dead, .dead, (.ptr 1000000004 0 0), .dead, .dead, .dead, (.all 1000000005 1), .dead, .dead, .dead, .dead, .dead, .dead, .dead, .dead, .dead, .dead, .dead, .dead, .dead, (.imm (.int .i64 (((List.replicate ((volW x0q9)).toNat (0 : Int)).length : Nat) : Int))), (.imm (.int .i64 x1q1)), .dead, .dead, .dead, .dead, .dead, .dead, .dead, .dead, .dead, .dead, .dead, .dead], hOf [(1000000000, (.box [(.imm .nils), (.imm .nils)])), (1000000001, (.box [(.all 1000000006 1)])), (1000000002, (.box [(.all 1000000007 1)])), (1000000003, (.box [(.imm (.ints .i64 p0q0)), (.imm (.ints .i64 p0q1))])), (1000000004, (.box [(.imm .nils), (.imm .nils)])), (1000000005, (.ints .i64 x1q4)), (1000000006, (.ints .i64 x0q9)), (1000000007, (.ints .i64 x0q10))], [.dead, .dead, (.ptr 1000000003 0 0), .dead, (.ptr 1000000000 0 0), .dead, .dead, .dead, .dead, .dead, (.ptr 1000000001 0 0), (.ptr 1000000002 0 0), .dead, .dead, .dead, .dead, .dead, .dead, .dead, .dead, .dead, .dead, .dead, .dead, .dead, .dead, .dead, .dead, .dead, .dead, .dead, .dead, .dead, .dead, .dead, .dead, .dead, .dead, .dead, .dead, .dead, .dead, .dead, .dead, .dead, .dead, .dead, .dead, .dead, .dead, .dead, .dead, .dead, .dead, .dead, .dead, .dead, .dead, .dead, .dead, .dead, .dead, .dead, .dead, .dead, .dead, .dead, .dead, .dead, .dead, (.all 1000000006 1), (.clo 48 [(.ptr 1000000001 0 0), (.ptr 1000000002 0 0), (.ptr 1000000003 0 0)]), .dead, .dead, .dead, (.tup [])], []⟩
noncomputable abbrev L2 (fuel n : Nat) (s : St) (k : Kont) := lAt Try.prog X I fuel true 2 false 48 (bodyOf Try.f48) [1, 1, 1, 0, 1, 0] n s k
noncomputable abbrev k2 (n1 : Nat) (fuel : Nat) : Kont := (kAt Try.prog X I fuel true 2 false 48 (bodyOf Try.f48) [1, 1, 1, 0, 1, 0] [] (endFn Try.prog Try.f48 36 (kOp Try.prog X I fuel true 3 34 (cAt (bodyOf Try.f34) [1, 1, 1, 1, 0, 1, 0, 0, 1, 1, 0, 0, 1]) 4 (kAt Try.prog X I fuel true 3 false 34 (bodyOf Try.f34) [1, 1, 1, 1, 0, 1, 0, 0, 1, 1, 0, 0, 1] [n1] (endFn Try.prog Try.f34 75 (kOp Try.prog X I fuel true 4 21 (cAt (bodyOf Try.f21) [1, 1, 1, 1, 1, 1, 0]) 2 (kAt Try.prog X I fuel true 4 false 21 (bodyOf Try.f21) [1, 1, 1, 1, 1, 1, 0] [] (endK Try.prog Try.f21))))))))
noncomputable def t2 (x0q9 : List Int) (x1q1 : Int) (x1q4 : List Int) (p0q0 : List Int) (p0q1 : List Int) (x0q10 : List Int) (x2q0 : Int) (x2q2 : Int) : St := ⟨[.dead, .dead, (.ptr 1000000004 0 0), (.ptr 1000000005 0 0), .dead, .dead, .dead, .dead, (.imm (.int .i64 x2q0)), .dead, .dead, .dead, .dead, .dead, .dead, .dead, .dead, (.all 1000000006 1), (.imm (.int .i64 (((plD x0q9 x1q1).length : Nat) : Int))), (.imm (.int .i64 x2q2)), .dead, .dead, .dead, .dead, .dead, .dead, .dead, .dead, .dead, .dead, .dead, .dead, .dead, .dead, .dead, .dead, .dead, .dead], hOf [(1000000000, (.box [(.imm .nils), (.imm .nils)])), (1000000001, (.ints .i64 x1q4)), (1000000002, (.box [(.imm .nils), (.imm .nils)])), (1000000003, (.box [(.all 1000000007 1)])), (1000000004, (.box [(.all 1000000008 1)])), (1000000005, (.box [(.imm (.ints .i64 p0q0)), (.imm (.ints .i64 p0q1))])), (1000000006, (.ints .i64 (plD x0q9 x1q1))), (1000000007, (.ints .i64 x0q9)), (1000000008, (.ints .i64 x0q10))], [(.all 1000000007 1), (.clo 48 [(.ptr 1000000003 0 0), (.ptr 1000000004 0 0), (.ptr 1000000005 0 0)]), .dead, .dead, (.ptr 1000000000 0 0), .dead, .dead, .dead, (.all 1000000001 1), (.imm (.int .i64 x1q1)), .dead, .dead, .dead, .dead, .dead, .dead, .dead, .dead, .dead, .dead, .dead, .dead, (.imm (.int .i64 (((List.replicate ((volW x0q9)).toNat (0 : Int)).length : Nat) : Int))), (.imm (.int .i64 x1q1)), (.imm (.bool true)), (.imm (.int .i64 x1q1)), (.all 1000000001 1), (.imm (.int .i64 x1q1)), (.clo 48 [(.ptr 1000000003 0 0), (.ptr 1000000004 0 0), (.ptr 1000000005 0 0)]), (.imm (.int .i64 x1q1)), .dead, .dead, .dead, .dead, .dead, .dead, (.tup []), .dead, .dead, (.ptr 1000000005 0 0), .dead, (.ptr 1000000002 0 0), .dead, .dead, .dead, .dead, .dead, (.ptr 1000000003 0 0), (.ptr 1000000004 0 0), .dead, .dead, .dead, .dead, .dead, .dead, .dead, .dead, .dead, .dead, .dead, .dead, .dead, .dead, .dead, .dead, .dead, .dead, .dead, .dead, .dead, .dead, .dead, .dead, .dead, .dead, .dead, .dead, .dead, .dead, .dead, .dead, .dead, .dead, .dead, .dead, .dead, .dead, .dead, .dead, .dead, .dead, .dead, .dead, .dead, .dead, .dead, .dead, .dead, .dead, .dead, .dead, .dead, .dead, .dead, .dead, .dead, .dead, (.all 1000000007 1), (.clo 48 [(.ptr 1000000003 0 0), (.ptr 1000000004 0 0), (.ptr 1000000005 0 0)]), .dead, .dead, .dead, (.tup [])], []⟩
theorem e (fuel : Nat) (p0q0 : List Int) (p0q1 : List Int) (p1 : List Int) : runF Try.prog X I 4 fuel 21 Try.f21 [.d (.agg [(.ints .i64 p0q0), (.ints .i64 p0q1)]), .d (.ints .i64 p1)] =
  (bif decide (p1.length < 9223372036854775808) then
  (bif (!(obB p1)) then
  some ([.agg [((.ints .i64 []), true), ((.ints .i64 []), true)], .one ((.bool false), false)], [])
  else
  (bif decide (p0q0.length < 9223372036854775808) && decide (p0q1.length < 9223372036854775808) then
  (bif (!(validA p0q0 p0q1)) then
  some ([.agg [((.ints .i64 []), true), ((.ints .i64 []), true)], .one ((.bool false), false)], [])
  else
  (bif ((((p1.length : Nat) : Int) : Int) != ((p0q0.length : Nat) : Int)) then
  some ([.agg [((.ints .i64 []), true), ((.ints .i64 []), true)], .one ((.bool false), false)], [])
  else
  (bif decide (p0q0.length < 9223372036854775808) then
  (bif validS p0q0 then
  (bif decide (0 ≤ (((p1.length : Nat) : Int) : Int)) && decide ((((p1.length : Nat) : Int) : Int) ≤ ((p1.length : Nat) : Int)) && decide ((((p1.length : Nat) : Int) : Int) ≤ 1152921504606846976) && decide (((8 : Nat) : Int) * ((p1.length : Nat) : Int) ≤ 281474976710656) then
  (bif decide (0 ≤ (((p1.length : Nat) : Int) : Int)) && decide ((((p1.length : Nat) : Int) : Int) ≤ ((p1.length : Nat) : Int)) && decide ((((p1.length : Nat) : Int) : Int) ≤ 1152921504606846976) && decide (((8 : Nat) : Int) * ((p1.length : Nat) : Int) ≤ 281474976710656) then
  L0 fuel fuel (t0 p1 p0q0 p0q1 ((strd p0q0 0)) ((strd p0q0 1)) ((strd p0q0 2)) ((volW p0q0)) 0 ((List.replicate (((p1.length : Nat) : Int)).toNat (0 : Int))) ((List.replicate (((p1.length : Nat) : Int)).toNat (0 : Int)))) (k0  fuel)
  else
  none)
  else
  none)
  else
  (bif decide (0 ≤ (((p1.length : Nat) : Int) : Int)) && decide ((((p1.length : Nat) : Int) : Int) ≤ ((p1.length : Nat) : Int)) && decide ((((p1.length : Nat) : Int) : Int) ≤ 1152921504606846976) && decide (((8 : Nat) : Int) * ((p1.length : Nat) : Int) ≤ 281474976710656) then
  (bif decide (0 ≤ (((p1.length : Nat) : Int) : Int)) && decide ((((p1.length : Nat) : Int) : Int) ≤ ((p1.length : Nat) : Int)) && decide ((((p1.length : Nat) : Int) : Int) ≤ 1152921504606846976) && decide (((8 : Nat) : Int) * ((p1.length : Nat) : Int) ≤ 281474976710656) then
  L0 fuel fuel (t0 p1 p0q0 p0q1 0 0 0 0 0 ((List.replicate (((p1.length : Nat) : Int)).toNat (0 : Int))) ((List.replicate (((p1.length : Nat) : Int)).toNat (0 : Int)))) (k0  fuel)
  else
  none)
  else
  none))
  else
  none)))
  else
  none))
  else
  none) := by kernel_rfl
theorem s0 (fuel n0 : Nat) (p1 : List Int) (p0q0 : List Int) (p0q1 : List Int) (x0q0 : Int) (x0q1 : Int) (x0q2 : Int) (x0q3 : Int) (x0q6 : Int) (x0q9 : List Int) (x0q10 : List Int) : L0 fuel (n0 + 1) (t0 p1 p0q0 p0q1 x0q0 x0q1 x0q2 x0q3 x0q6 x0q9 x0q10) (k0  fuel) =
  (bif (decide ((x0q6 : Int) < ((p1.length : Nat) : Int))) then
  (idx x0q6 p1.length).bind fun j37 =>
  (p1[j37]?).bind fun v38 =>
  (idx v38 p0q0.length).bind fun j39 =>
  (p0q0[j39]?).bind fun v40 =>
  (idx x0q6 x0q9.length).bind fun j41 =>
  (bif decide (v38 = ((0 : Nat) : Int)) then
  (bif decide (j41 < x0q9.length) then
  (idx x0q6 x0q10.length).bind fun j44 =>
  (bif decide (j44 < x0q10.length) then
  L0 fuel n0 (t0 p1 p0q0 p0q1 x0q0 x0q1 x0q2 x0q3 ((IntKind.wrap .i64 (x0q6 + 1))) ((x0q9.set j41 v40)) ((x0q10.set j44 x0q0))) (k0  fuel)
  else
  none)
  else
  none)
  else
  (bif decide (v38 = ((1 : Nat) : Int)) then
  (bif decide (j41 < x0q9.length) then
  (idx x0q6 x0q10.length).bind fun j43 =>
  (bif decide (j43 < x0q10.length) then
  L0 fuel n0 (t0 p1 p0q0 p0q1 x0q0 x0q1 x0q2 x0q3 ((IntKind.wrap .i64 (x0q6 + 1))) ((x0q9.set j41 v40)) ((x0q10.set j43 x0q1))) (k0  fuel)
  else
  none)
  else
  none)
  else
  (bif decide (v38 = ((2 : Nat) : Int)) then
  (bif decide (j41 < x0q9.length) then
  (idx x0q6 x0q10.length).bind fun j42 =>
  (bif decide (j42 < x0q10.length) then
  L0 fuel n0 (t0 p1 p0q0 p0q1 x0q0 x0q1 x0q2 x0q3 ((IntKind.wrap .i64 (x0q6 + 1))) ((x0q9.set j41 v40)) ((x0q10.set j42 x0q2))) (k0  fuel)
  else
  none)
  else
  none)
  else
  none)))
  else
  (bif decide (x0q9.length < 9223372036854775808) then
  (bif validS x0q9 then
  (bif decide (0 ≤ ((volW x0q9) : Int)) && decide (((volW x0q9) : Int) ≤ (volW x0q9)) && decide (((volW x0q9) : Int) ≤ 1152921504606846976) && decide (((8 : Nat) : Int) * (volW x0q9) ≤ 281474976710656) then
  L1 fuel fuel (t1 x0q9 p0q0 p0q1 x0q10 0 ((List.replicate ((volW x0q9)).toNat (0 : Int)))) (k1  fuel)
  else
  none)
  else
  some ([.agg [((.ints .i64 []), true), ((.ints .i64 []), true)], .one ((.bool false), false)], []))
  else
  none)) := by kernel_rfl
theorem s1 (fuel n1 : Nat) (x0q9 : List Int) (p0q0 : List Int) (p0q1 : List Int) (x0q10 : List Int) (x1q1 : Int) (x1q4 : List Int) : L1 fuel (n1 + 1) (t1 x0q9 p0q0 p0q1 x0q10 x1q1 x1q4) (k1  fuel) =
  (bif (decide ((x1q1 : Int) < (((List.replicate ((volW x0q9)).toNat (0 : Int)).length : Nat) : Int))) then
  (bif decide (x0q9.length < 9223372036854775808) then
  L2 fuel fuel (t2 x0q9 x1q1 x1q4 p0q0 p0q1 x0q10 0 0) (k2 n1 fuel)
  else
  none)
  else
  some ([.agg [((.ints .i64 x0q9), true), ((.ints .i64 x1q4), true)], .one ((.bool true), false)], [])) := by kernel_rfl
theorem s2 (fuel n1 n2 : Nat) (x0q9 : List Int) (x1q1 : Int) (x1q4 : List Int) (p0q0 : List Int) (p0q1 : List Int) (x0q10 : List Int) (x2q0 : Int) (x2q2 : Int) : L2 fuel (n2 + 1) (t2 x0q9 x1q1 x1q4 p0q0 p0q1 x0q10 x2q0 x2q2) (k2 n1 fuel) =
  (bif (decide ((x2q2 : Int) < (((plD x0q9 x1q1).length : Nat) : Int))) then
  (idx x2q2 (plD x0q9 x1q1).length).bind fun j66 =>
  ((plD x0q9 x1q1)[j66]?).bind fun v67 =>
  (idx x2q2 x0q10.length).bind fun j68 =>
  (x0q10[j68]?).bind fun v69 =>
  L2 fuel n2 (t2 x0q9 x1q1 x1q4 p0q0 p0q1 x0q10 ((IntKind.wrap .i64 (x2q0 + (IntKind.wrap .i64 (v67 * v69))))) ((IntKind.wrap .i64 (x2q2 + 1)))) (k2 n1 fuel)
  else
  (idx x2q0 p0q1.length).bind fun j70 =>
  (p0q1[j70]?).bind fun v71 =>
  (idx x1q1 x1q4.length).bind fun j72 =>
  (bif decide (j72 < x1q4.length) then
  L1 fuel n1 (t1 x0q9 p0q0 p0q1 x0q10 ((IntKind.wrap .i64 (x1q1 + 1))) ((x1q4.set j72 v71))) (k1  fuel)
  else
  none)) := by kernel_rfl
end impl_MoveAxes
theorem impl_MoveAxes.ok_of (hX : ∀ E ∈ impl_MoveAxes.X, CallSpec Try.prog E) (h : ∀ (sh : List Int) (da : List Int) (order : List Int), (decide (sh.length < 9223372036854775808) && decide (da.length < 9223372036854775808) && decide (order.length < 9223372036854775808)) = true → ∃ fuel, runF Try.prog impl_MoveAxes.X impl_MoveAxes.I 4 fuel 21 Try.f21 [.d (.agg [(.ints .i64 sh), (.ints .i64 da)]), .d (.ints .i64 order)] = some ([.agg [((.ints .i64 (mvS sh da order)), true), ((.ints .i64 (mvD sh da order)), true)], .one ((.bool (mvB sh da order)), false)], [])) : CallSpec Try.prog impl_MoveAxes.E :=
  callSpec_of (d := 4) hX (by kernel_rfl) impl_MoveAxes.I_ok (by kernel_rfl) (by kernel_rfl) (by kernel_rfl) (fun _ _ _ _ h => by dsimp only [impl_MoveAxes.E] at h; cases h) (fun xs hp => by
    dsimp only [impl_MoveAxes.E] at hp ⊢
    split at hp
    · exact h _ _ _ hp
    · cases hp)
theorem impl_MoveAxes.inner (fuel n : Nat) (sh da order : List Int) (hm : mvB sh da order = true) (j : Nat) (hj : j < da.length) (out : List Int) (hol : out.length = da.length) (hf : 60 < fuel) :
    impl_MoveAxes.L2 fuel fuel (impl_MoveAxes.t2 (mvSh sh order) (j : Int) out sh da (mvSt sh order) 0 0) (impl_MoveAxes.k2 n fuel) =
    impl_MoveAxes.L1 fuel n (impl_MoveAxes.t1 (mvSh sh order) sh da (mvSt sh order) ((IntKind.wrap .i64 ((j : Int) + 1))) (out.set j ((mvN sh da order).getD j 0))) (impl_MoveAxes.k1 fuel) := by
  obtain ⟨h1, h2, h3, h4⟩ := mvB_inv hm
  obtain ⟨m1, m2, m3, m4, m5⟩ := mv_from hm hj
  have hr := (validA_len h2).1
  have hvs := (validA_inv h2).1
  have hd := data_prod h2
  have hvol := volS h4.vs
  have hpb : plB (mvSh sh order) (j : Int) = true := by
    simp only [plB, h4.vs, hvol.1, Bool.true_and, Bool.and_eq_true, decide_eq_true_eq]
    rw [h4.pr]; omega
  have hpd : plD (mvSh sh order) (j : Int) = plN (mvSh sh order) j := by simp only [plD, hpb, cond_true, Int.toNat_natCast]
  have hpl : (plN (mvSh sh order) j).length = order.length := by rw [plN_length, mvSh_length]
  have hst := mvSt_length sh order
  have hx : ∀ k, k < order.length → 0 ≤ (plN (mvSh sh order) j).getD k 0 * (mvSt sh order).getD k 0 ∧ (plN (mvSh sh order) j).getD k 0 * (mvSt sh order).getD k 0 ≤ 216000 := fun k hk => by
    obtain ⟨g1, g2, g3⟩ := ob_get h1 k hk
    rw [h3] at g2
    have hsk : (mvSt sh order).getD k 0 = ((behN sh (order.getD k 0).toNat : Nat) : Int) := by rw [mvSt_get hk, strd_beh (ax_of hvs g2)]
    have hb := (ax_of hvs g2).beh_le
    have hk2 : k < (mvSh sh order).length := by rw [mvSh_length]; exact hk
    have hlen := (ax_of h4.vs hk2).len_le
    have hmod : j / behN (mvSh sh order) k % lenN (mvSh sh order) k ≤ 60 := by
      by_cases h0 : lenN (mvSh sh order) k = 0
      · have hpp := pl_pos (sh := mvSh sh order) (n := j) (by rw [h4.pr]; omega) hk2
        omega
      · have := Nat.mod_lt (j / behN (mvSh sh order) k) (show lenN (mvSh sh order) k > 0 by omega)
        omega
    rw [plN_get hk2, hsk, ← Int.natCast_mul]
    have : (j / behN (mvSh sh order) k % lenN (mvSh sh order) k) * behN sh (order.getD k 0).toNat ≤ 60 * 3600 := Nat.mul_le_mul hmod hb
    omega
  have hsum : ∀ k, k ≤ order.length → 0 ≤ sumT k (fun k => (plN (mvSh sh order) j).getD k 0 * (mvSt sh order).getD k 0) ∧ sumT k (fun k => (plN (mvSh sh order) j).getD k 0 * (mvSt sh order).getD k 0) ≤ (k : Int) * 216000 := by
    intro k
    induction k with
    | zero => intro _; simp [sumT]
    | succ k ih =>
      intro hk
      have := ih (by omega)
      have := hx k (by omega)
      simp only [sumT]
      omega
  refine run_loop (N := order.length) (fun m k (a : Int) => impl_MoveAxes.L2 fuel m (impl_MoveAxes.t2 (mvSh sh order) (j : Int) out sh da (mvSt sh order) a (k : Int)) (impl_MoveAxes.k2 n fuel)) (fun k a => a = sumT k fun k => (plN (mvSh sh order) j).getD k 0 * (mvSt sh order).getD k 0) ?_ ?_ fuel 0 0 (by omega) (by omega) rfl
  · intro m a ha
    have hdot : a = dotW (plN (mvSh sh order) j) (mvSt sh order) := by rw [ha, dotW, hpl]
    have hi : idx a da.length = some (dotW (plN (mvSh sh order) j) (mvSt sh order)).toNat := by
      simp only [idx]
      rw [hdot, if_pos (by omega)]
    rw [impl_MoveAxes.s2, hpd, hpl, dge (by omega), cond_false, hi]
    simp only [Option.bind_some, getD_get m5]
    rw [idx_nat (by omega)]
    simp only [Option.bind_some]
    rw [decide_eq_true (by omega), cond_true]
    have e : (mvN sh da order).getD j 0 = da.getD (dotW (plN (mvSh sh order) j) (mvSt sh order)).toNat 0 := by simp only [mvN]; rw [tab_getD hj]
    rw [e]
  · intro m k a hk ha
    have k1 : k < (plN (mvSh sh order) j).length := by omega
    have k2 : k < (mvSt sh order).length := by omega
    have b1 := hx k hk
    have b2 := hsum (k + 1) (by omega)
    rw [impl_MoveAxes.s2, hpd, hpl, dlt hk, cond_true, idx_nat (by omega), idx_nat k2, w1 (by omega)]
    simp only [Option.bind_some, getD_get k1, getD_get k2]
    refine ⟨_, rfl, ?_⟩
    rw [wS (x := (plN (mvSh sh order) j).getD k 0 * (mvSt sh order).getD k 0) (by omega) (by omega), ha]
    have e : sumT k (fun k => (plN (mvSh sh order) j).getD k 0 * (mvSt sh order).getD k 0) + (plN (mvSh sh order) j).getD k 0 * (mvSt sh order).getD k 0 = sumT (k + 1) (fun k => (plN (mvSh sh order) j).getD k 0 * (mvSt sh order).getD k 0) := rfl
    rw [e, wS (by omega) (by omega)]
theorem impl_MoveAxes.fill (fuel : Nat) (sh da order : List Int) (hm : mvB sh da order = true) (hf : 60 < fuel) :
    impl_MoveAxes.L1 fuel fuel (impl_MoveAxes.t1 (mvSh sh order) sh da (mvSt sh order) 0 (List.replicate (volW (mvSh sh order)).toNat 0)) (impl_MoveAxes.k1 fuel) = some ([.agg [((.ints .i64 (mvSh sh order)), true), ((.ints .i64 (mvN sh da order)), true)], .one ((.bool true), false)], []) := by
  obtain ⟨h1, h2, h3, h4⟩ := mvB_inv hm
  have hd := data_prod h2
  have hvol := volS h4.vs
  have hv : (volW (mvSh sh order)).toNat = da.length := by rw [hvol.1, h4.pr]; omega
  have hN : (mvN sh da order).length = da.length := by simp only [mvN, tab_length]
  have hl := mvSh_length sh order
  have hr := validA_len h2
  rw [hv]
  refine run_loop (N := da.length) (fun n j out => impl_MoveAxes.L1 fuel n (impl_MoveAxes.t1 (mvSh sh order) sh da (mvSt sh order) (j : Int) out) (impl_MoveAxes.k1 fuel)) (fun j out => out = part (mvN sh da order) j) ?_ ?_ fuel 0 _ (by omega) (by omega) (by rw [part_zero, hN])
  · intro n out ho
    have hall := part_all (mvN sh da order)
    rw [hN] at hall
    rw [hall] at ho
    rw [impl_MoveAxes.s1]
    simp only [hv, List.length_replicate]
    rw [dge (by omega), cond_false, ho]
  · intro n j out hj ho
    have hol : out.length = da.length := by rw [ho, part_length (by omega), hN]
    rw [impl_MoveAxes.s1]
    simp only [hv, List.length_replicate]
    rw [dlt hj, cond_true, lt_of (by omega), cond_true, impl_MoveAxes.inner fuel n sh da order hm j hj out hol hf, w1 (by omega)]
    exact ⟨_, by rw [ho, part_set (by omega) rfl], rfl⟩
theorem impl_MoveAxes.ok : CallSpec Try.prog impl_MoveAxes.E := impl_MoveAxes.ok_of (by simp [impl_MoveAxes.X, impl_OrderBack.ok, impl_ValidArray.ok, impl_layoutOf_j.ok, impl_PlaceOf.ok]) fun sh da order h => by
  obtain ⟨F, hF⟩ : ∃ F : Nat, 60 < F := ⟨61, by omega⟩
  refine ⟨F, ?_⟩
  simp only [Bool.and_eq_true] at h
  rw [impl_MoveAxes.e, h.1.1, h.1.2, h.2]
  unfold mvS mvD
  cases ho : obB order with
  | false => simp only [mvB, ho]; rfl
  | true =>
    cases hv : validA sh da with
    | false => simp only [mvB, ho, hv]; rfl
    | true =>
      by_cases hl : order.length = sh.length
      · have hm : mvB sh da order = true := by simp only [mvB, ho, hv, hl, decide_true, Bool.and_self]
        obtain ⟨h1, h2, h3, h4⟩ := mvB_inv hm
        have hvs := (validA_inv hv).1
        have hr := (validA_len hv).1
        have hne : (((order.length : Nat) : Int) != ((sh.length : Nat) : Int)) = false := by rw [hl]; simp
        have hN1 := mvSh_length sh order
        have hN2 := mvSt_length sh order
        have hvb := vol_bd h4.vs
        rw [hne, hvs, mkOk (by omega) (by omega), Int.toNat_natCast, hm]
        simp only [Bool.not_true, Bool.and_self, cond_true, cond_false]
        refine run_loop (N := order.length) (fun n j (st : List Int × List Int) => impl_MoveAxes.L0 F n (impl_MoveAxes.t0 order sh da (strd sh 0) (strd sh 1) (strd sh 2) (volW sh) (j : Int) st.1 st.2) (impl_MoveAxes.k0 F)) (fun j st => st.1 = part (mvSh sh order) j ∧ st.2 = part (mvSt sh order) j) ?_ ?_ F 0 (List.replicate order.length 0, List.replicate order.length 0) (by omega) (by omega) ⟨by rw [part_zero, hN1], by rw [part_zero, hN2]⟩
        · rintro n ⟨x, y⟩ ⟨e1, e2⟩
          have a1 := part_all (mvSh sh order)
          have a2 := part_all (mvSt sh order)
          rw [hN1] at a1
          rw [hN2] at a2
          simp only at e1 e2
          rw [a1] at e1
          rw [a2] at e2
          subst e1
          subst e2
          dsimp only
          rw [impl_MoveAxes.s0, dge (by omega), cond_false, lt_of (by omega), h4.vs, mkOk hvb.1 (by omega)]
          simp only [cond_true]
          exact impl_MoveAxes.fill F sh da order hm hF
        · rintro n j ⟨x, y⟩ hj ⟨e1, e2⟩
          simp only at e1 e2
          have hx : x.length = order.length := by rw [e1, part_length (by omega), hN1]
          have hy : y.length = order.length := by rw [e2, part_length (by omega), hN2]
          obtain ⟨g1, g2, g3⟩ := ob_get h1 j hj
          have g2' : (order.getD j 0).toNat < sh.length := by omega
          have hi : idx (order.getD j 0) sh.length = some (order.getD j 0).toNat := by
            simp only [idx]
            rw [if_pos (by omega)]
          have f1 : x.set j (sh.getD (order.getD j 0).toNat 0) = part (mvSh sh order) (j + 1) := by
            rw [e1, part_set (by omega) (by rw [mvSh_get hj])]
          have f2 : y.set j (strd sh (order.getD j 0).toNat) = part (mvSt sh order) (j + 1) := by
            rw [e2, part_set (by omega) (by rw [mvSt_get hj])]
          refine ⟨(part (mvSh sh order) (j + 1), part (mvSt sh order) (j + 1)), ⟨rfl, rfl⟩, ?_⟩
          dsimp only
          rw [impl_MoveAxes.s0, dlt hj, cond_true, idx_nat hj, w1 (by omega)]
          simp only [Option.bind_some, getD_get hj, hi, getD_get g2']
          rw [idx_nat (by omega)]
          simp only [Option.bind_some]
          rw [f1]
          have hc : order.getD j 0 = ((0 : Nat) : Int) ∨ order.getD j 0 = ((1 : Nat) : Int) ∨ order.getD j 0 = ((2 : Nat) : Int) := by omega
          rcases hc with hc | hc | hc
          · rw [hc] at f2 ⊢
            rw [decide_eq_true (p := ((0 : Nat) : Int) = ((0 : Nat) : Int)) rfl, cond_true, decide_eq_true (by omega), cond_true, idx_nat (by omega)]
            simp only [Option.bind_some]
            rw [decide_eq_true (by omega), cond_true, ← f2]
            rfl
          · rw [hc] at f2 ⊢
            rw [decide_eq_false (p := ((1 : Nat) : Int) = ((0 : Nat) : Int)) (by omega), cond_false, decide_eq_true (p := ((1 : Nat) : Int) = ((1 : Nat) : Int)) rfl, cond_true, decide_eq_true (by omega), cond_true, idx_nat (by omega)]
            simp only [Option.bind_some]
            rw [decide_eq_true (by omega), cond_true, ← f2]
            rfl
          · rw [hc] at f2 ⊢
            rw [decide_eq_false (p := ((2 : Nat) : Int) = ((0 : Nat) : Int)) (by omega), cond_false, decide_eq_false (p := ((2 : Nat) : Int) = ((1 : Nat) : Int)) (by omega), cond_false, decide_eq_true (p := ((2 : Nat) : Int) = ((2 : Nat) : Int)) rfl, cond_true, decide_eq_true (by omega), cond_true, idx_nat (by omega)]
            simp only [Option.bind_some]
            rw [decide_eq_true (by omega), cond_true, ← f2]
            rfl
      · have hne : (((order.length : Nat) : Int) != ((sh.length : Nat) : Int)) = true := by simp; omega
        have hm : mvB sh da order = false := by simp only [mvB, decide_eq_false hl, Bool.and_false]
        rw [hne, hm]; rfl

namespace impl_Transpose
noncomputable def E : Entry := ⟨10, false, false, fun | [.d (.agg [(.ints .i64 sh), (.ints .i64 da)])] => decide (sh.length < 9223372036854775808) && decide (da.length < 9223372036854775808) | _ => false, fun | [.d (.agg [(.ints .i64 sh), (.ints .i64 da)])] => ([.agg [((.ints .i64 (trS sh da)), true), ((.ints .i64 (trD sh da)), true)]], []) | _ => ([], []), fun _ => [], true, fun _ => none⟩
end impl_Transpose
namespace impl_Transpose
noncomputable def X : List Entry := [impl_ValidArray.E, impl_CountTo.E, slices_Reverse_int_int.E, impl_MoveAxes.E]
noncomputable def I : List Inl := [⟨10, Try.f10, ⟨[13, 20], [], [], [], [], []⟩⟩]
theorem I_ok : ∀ i ∈ I, Try.prog.funcs[i.f]? = some i.fn ∧ (i.fn.name == "runtime.NumGoroutine") = false := by
  intro i hi
  simp only [I, List.mem_cons, List.not_mem_nil, or_false] at hi
  subst hi
  exact ⟨by kernel_rfl, by kernel_rfl⟩
theorem e (fuel : Nat) (p0q0 : List Int) (p0q1 : List Int) : runF Try.prog X I 0 fuel 10 Try.f10 [.d (.agg [(.ints .i64 p0q0), (.ints .i64 p0q1)])] =
  (bif decide (p0q0.length < 9223372036854775808) && decide (p0q1.length < 9223372036854775808) then
  (bif (!(validA p0q0 p0q1)) then
  some ([.agg [((.ints .i64 []), true), ((.ints .i64 []), true)]], [])
  else
  (bif decide ((((cntD (((p0q0.length : Nat) : Int)))) : List Int).length ≤ 3) then
  (bif decide (p0q0.length < 9223372036854775808) && decide (p0q1.length < 9223372036854775808) && decide (((((cntD (((p0q0.length : Nat) : Int)))).reverse)).length < 9223372036854775808) then
  some ([.agg [((.ints .i64 (mvS p0q0 p0q1 ((((cntD (((p0q0.length : Nat) : Int)))).reverse)))), true), ((.ints .i64 (mvD p0q0 p0q1 ((((cntD (((p0q0.length : Nat) : Int)))).reverse)))), true)]], [])
  else
  none)
  else
  none))
  else
  none) := by kernel_rfl
end impl_Transpose
theorem impl_Transpose.ok_of (hX : ∀ E ∈ impl_Transpose.X, CallSpec Try.prog E) (h : ∀ (sh : List Int) (da : List Int), (decide (sh.length < 9223372036854775808) && decide (da.length < 9223372036854775808)) = true → ∃ fuel, runF Try.prog impl_Transpose.X impl_Transpose.I 0 fuel 10 Try.f10 [.d (.agg [(.ints .i64 sh), (.ints .i64 da)])] = some ([.agg [((.ints .i64 (trS sh da)), true), ((.ints .i64 (trD sh da)), true)]], [])) : CallSpec Try.prog impl_Transpose.E :=
  callSpec_of (d := 0) hX (by kernel_rfl) impl_Transpose.I_ok (by kernel_rfl) (by kernel_rfl) (by kernel_rfl) (fun _ _ _ _ h => by dsimp only [impl_Transpose.E] at h; cases h) (fun xs hp => by
    dsimp only [impl_Transpose.E] at hp ⊢
    split at hp
    · exact h _ _ hp
    · cases hp)
theorem tr_rev {r : Nat} (h : r ≤ 3) : (cntD (r : Int)).reverse = trO r := by
  match r, h with
  | 0, _ => rfl
  | 1, _ => rfl
  | 2, _ => rfl
  | 3, _ => rfl
theorem impl_Transpose.ok : CallSpec Try.prog impl_Transpose.E := impl_Transpose.ok_of (by simp [impl_Transpose.X, impl_ValidArray.ok, impl_CountTo.ok, slices_Reverse_int_int.ok, impl_MoveAxes.ok]) fun sh da h => ⟨0, by
  have h' := h
  simp only [Bool.and_eq_true] at h'
  rw [impl_Transpose.e, h]
  unfold trS trD
  cases hv : validA sh da with
  | false => rfl
  | true =>
    have hr := (validA_len hv).1
    have e := tr_rev hr
    have hl : (cntD ((sh.length : Nat) : Int)).length ≤ 3 := by
      have := congrArg List.length e
      rw [List.length_reverse] at this
      rw [this, trO, tab_length]; exact hr
    rw [decide_eq_true hl, e, lt_of (xs := trO sh.length) (by rw [trO, tab_length]; omega)]
    rfl⟩

namespace laws_FnSumProductTurn
noncomputable def E : Entry := ⟨3, true, false, fun | [.d (.ints .u8 bs)] => bytesB bs | _ => false, fun | [.d (.ints .u8 bs)] => ([.one ((.bool true), false)], []) | _ => ([], []), fun _ => [], false, fun _ => none⟩
end laws_FnSumProductTurn
namespace laws_FnSumProductTurn
noncomputable def X : List Entry := [spec_DrawSumProduct.E, impl_SumProduct.E, spec_SumProduct.E, laws_equalArray.E, impl_RankOf.E, impl_Transpose.E]
noncomputable def I : List Inl := [⟨3, Try.f3, ⟨[18, 24, 30, 108, 110, 111, 118], [(1000009, [0, 1, 2, 6, 7, 8, 10, 11, 12, 13, 14, 15, 16, 17, 18, 19, 20, 21, 22, 23, 24, 25, 26, 27, 28, 29, 30, 31, 32, 33, 34, 35, 36, 37, 38, 39, 40, 41, 42, 43, 44, 45, 46, 47, 48, 49, 50, 51, 52, 53, 54, 55, 56, 57, 58, 59, 60, 61, 62, 63, 64, 65, 66, 67, 68, 69, 70, 71, 72, 73, 74, 75, 76, 77, 78, 79, 80, 81, 82, 83, 84, 85, 86, 87, 88, 89, 90, 91, 92, 93, 94, 95, 96, 97, 98, 99, 100, 101, 102, 103, 104, 105, 106, 107, 108, 109, 110, 111, 112, 113, 114, 115, 116, 117, 118, 119, 120]), (1000014, [0, 1, 2, 6, 7, 8, 9, 11, 12, 13, 14, 15, 16, 17, 18, 19, 20, 21, 22, 23, 24, 25, 26, 27, 28, 29, 30, 31, 32, 33, 34, 35, 36, 37, 38, 39, 40, 41, 42, 43, 44, 45, 46, 47, 48, 49, 50, 51, 52, 53, 54, 55, 56, 57, 58, 59, 60, 61, 62, 63, 64, 65, 66, 67, 68, 69, 70, 71, 72, 73, 74, 75, 76, 77, 78, 79, 80, 81, 82, 83, 84, 85, 86, 87, 88, 89, 90, 91, 92, 93, 94, 95, 96, 97, 98, 99, 100, 101, 102, 103, 104, 105, 106, 107, 108, 109, 110, 111, 112, 113, 114, 115, 116, 117, 118, 119, 120])], [], [(18, [0, 2, 1, 3, 4, 5, 6, 7, 8, 9, 10])], [], []⟩⟩]
theorem I_ok : ∀ i ∈ I, Try.prog.funcs[i.f]? = some i.fn ∧ (i.fn.name == "runtime.NumGoroutine") = false := by
  intro i hi
  simp only [I, List.mem_cons, List.not_mem_nil, or_false] at hi
  subst hi
  exact ⟨by kernel_rfl, by kernel_rfl⟩
noncomputable abbrev L0 (fuel n : Nat) (s : St) (k : Kont) := lAt Try.prog X I fuel true 0 false 3 (bodyOf Try.f3) [1, 1, 1, 1, 1, 1, 0, 1, 0] n s k
noncomputable abbrev k0  (fuel : Nat) : Kont := (kAt Try.prog X I fuel true 0 false 3 (bodyOf Try.f3) [1, 1, 1, 1, 1, 1, 0, 1, 0] [] (endK Try.prog Try.f3))
noncomputable def t0 (p0 : List Int) (x0q0 : Int) : St := ⟨[.dead, .dead, .dead, (.ptr 1000000000 0 0), (.ptr 1000000001 0 0), (.ptr 1000000002 0 0), .dead, .dead, .dead, (.imm (.int .i64 x0q0)), .dead, .dead, .dead, .dead, .dead, .dead, .dead, .dead, .dead, .dead, .dead, .dead, .dead, .dead, .dead, .dead, .dead, .dead, .dead, .dead, .dead, .dead, .dead, .dead, .dead, .dead, .dead, .dead, .dead, .dead, .dead, .dead, .dead, .dead, .dead, .dead, .dead, .dead, .dead, .dead, .dead, .dead, .dead, .dead, .dead, .dead, .dead, .dead, .dead, .dead, .dead, .dead, .dead, .dead, .dead, .dead, .dead, .dead, .dead, .dead, .dead, .dead, .dead, .dead, .dead, .dead, .dead, .dead, .dead, .dead, .dead, .dead, .dead, .dead, .dead, .dead, .dead, .dead, .dead, .dead, .dead, .dead, .dead, .dead, .dead, .dead, .dead, .dead, .dead, .dead, .dead, .dead, .dead, .dead, .dead, .dead, .dead, .dead, .dead, .dead, .dead, .dead, .dead, .dead, .dead, .dead, .dead, .dead, .dead, .dead, .dead], hOf [(1000000000, (.box [(.imm (.ints .i64 (mpS1 (cutC p0) 0))), (.imm (.ints .i64 (mpD1 (cutC p0) 0)))])), (1000000001, (.box [(.imm (.ints .i64 (mpS2 (cutC p0) 0))), (.imm (.ints .i64 (mpD2 (cutC p0) 0)))])), (1000000002, (.box [(.all 1000000003 1), (.all 1000000004 1)])), (1000000003, (.ints .i64 (inS 1 3 ((mpS1 (cutC p0) 0)) ((mpD1 (cutC p0) 0)) ((mpS2 (cutC p0) 0)) ((mpD2 (cutC p0) 0))))), (1000000004, (.ints .i64 (inD 1 3 ((mpS1 (cutC p0) 0)) ((mpD1 (cutC p0) 0)) ((mpS2 (cutC p0) 0)) ((mpD2 (cutC p0) 0)))))], [], []⟩
noncomputable abbrev L1 (fuel n : Nat) (s : St) (k : Kont) := lAt Try.prog X I fuel true 0 false 3 (bodyOf Try.f3) [1, 1, 1, 1, 1, 1, 1, 0, 1, 0] n s k
noncomputable abbrev k1  (fuel : Nat) : Kont := (kAt Try.prog X I fuel true 0 false 3 (bodyOf Try.f3) [1, 1, 1, 1, 1, 1, 1, 0, 1, 0] [] (endK Try.prog Try.f3))
noncomputable def t1 (p0 : List Int) (x1q0 : Int) : St := ⟨[.dead, .dead, .dead, (.ptr 1000000000 0 0), (.ptr 1000000001 0 0), (.ptr 1000000002 0 0), .dead, .dead, .dead, .dead, (.imm (.int .i64 x1q0)), .dead, .dead, .dead, .dead, .dead, .dead, .dead, .dead, .dead, .dead, .dead, .dead, .dead, .dead, .dead, .dead, .dead, .dead, .dead, .dead, .dead, .dead, .dead, .dead, .dead, .dead, .dead, .dead, .dead, .dead, .dead, .dead, .dead, .dead, .dead, .dead, .dead, .dead, .dead, .dead, .dead, .dead, .dead, .dead, .dead, .dead, .dead, .dead, .dead, .dead, .dead, .dead, .dead, .dead, .dead, .dead, .dead, .dead, .dead, .dead, .dead, .dead, .dead, .dead, .dead, .dead, .dead, .dead, .dead, .dead, .dead, .dead, .dead, .dead, .dead, .dead, .dead, .dead, .dead, .dead, .dead, .dead, .dead, .dead, .dead, .dead, .dead, .dead, .dead, .dead, .dead, .dead, .dead, .dead, .dead, .dead, .dead, .dead, .dead, .dead, .dead, .dead, .dead, .dead, .dead, .dead, .dead, .dead, .dead, .dead], hOf [(1000000000, (.box [(.imm (.ints .i64 (mpS1 (cutC p0) 0))), (.imm (.ints .i64 (mpD1 (cutC p0) 0)))])), (1000000001, (.box [(.imm (.ints .i64 (mpS2 (cutC p0) 0))), (.imm (.ints .i64 (mpD2 (cutC p0) 0)))])), (1000000002, (.box [(.all 1000000003 1), (.all 1000000004 1)])), (1000000003, (.ints .i64 (inS 1 3 ((mpS1 (cutC p0) 0)) ((mpD1 (cutC p0) 0)) ((mpS2 (cutC p0) 0)) ((mpD2 (cutC p0) 0))))), (1000000004, (.ints .i64 (inD 1 3 ((mpS1 (cutC p0) 0)) ((mpD1 (cutC p0) 0)) ((mpS2 (cutC p0) 0)) ((mpD2 (cutC p0) 0)))))], [], []⟩
theorem e (fuel : Nat) (p0 : List Int) : runF Try.prog X I 0 fuel 3 Try.f3 [.d (.ints .u8 p0)] =
  (bif (decide ((((p0.length : Nat) : Int) : Int) > 1048576)) then
  some ([.one ((.bool true), false)], [])
  else
  (bif bytesB p0 then
  (bif decide (((mpS1 (cutC p0) 0)).length < 9223372036854775808) && decide (((mpD1 (cutC p0) 0)).length < 9223372036854775808) && decide (((mpS2 (cutC p0) 0)).length < 9223372036854775808) && decide (((mpD2 (cutC p0) 0)).length < 9223372036854775808) then
  (bif decide (((mpS1 (cutC p0) 0)).length < 9223372036854775808) && decide (((mpD1 (cutC p0) 0)).length < 9223372036854775808) && decide (((mpS2 (cutC p0) 0)).length < 9223372036854775808) && decide (((mpD2 (cutC p0) 0)).length < 9223372036854775808) then
  (bif decide (((inS 1 3 ((mpS1 (cutC p0) 0)) ((mpD1 (cutC p0) 0)) ((mpS2 (cutC p0) 0)) ((mpD2 (cutC p0) 0)))).length < 9223372036854775808) && decide (((inD 1 3 ((mpS1 (cutC p0) 0)) ((mpD1 (cutC p0) 0)) ((mpS2 (cutC p0) 0)) ((mpD2 (cutC p0) 0)))).length < 9223372036854775808) && decide (((inS 1 3 ((mpS1 (cutC p0) 0)) ((mpD1 (cutC p0) 0)) ((mpS2 (cutC p0) 0)) ((mpD2 (cutC p0) 0)))).length < 9223372036854775808) && decide (((inD 1 3 ((mpS1 (cutC p0) 0)) ((mpD1 (cutC p0) 0)) ((mpS2 (cutC p0) 0)) ((mpD2 (cutC p0) 0)))).length < 9223372036854775808) then
  (bif (!(decide (((inS 1 3 ((mpS1 (cutC p0) 0)) ((mpD1 (cutC p0) 0)) ((mpS2 (cutC p0) 0)) ((mpD2 (cutC p0) 0)))) = ((inS 1 3 ((mpS1 (cutC p0) 0)) ((mpD1 (cutC p0) 0)) ((mpS2 (cutC p0) 0)) ((mpD2 (cutC p0) 0))))) && decide (((inD 1 3 ((mpS1 (cutC p0) 0)) ((mpD1 (cutC p0) 0)) ((mpS2 (cutC p0) 0)) ((mpD2 (cutC p0) 0)))) = ((inD 1 3 ((mpS1 (cutC p0) 0)) ((mpD1 (cutC p0) 0)) ((mpS2 (cutC p0) 0)) ((mpD2 (cutC p0) 0))))))) then
  (bif decide (((inS 1 3 ((mpS1 (cutC p0) 0)) ((mpD1 (cutC p0) 0)) ((mpS2 (cutC p0) 0)) ((mpD2 (cutC p0) 0)))).length < 9223372036854775808) && decide (((inD 1 3 ((mpS1 (cutC p0) 0)) ((mpD1 (cutC p0) 0)) ((mpS2 (cutC p0) 0)) ((mpD2 (cutC p0) 0)))).length < 9223372036854775808) && decide (((inS 1 3 ((mpS1 (cutC p0) 0)) ((mpD1 (cutC p0) 0)) ((mpS2 (cutC p0) 0)) ((mpD2 (cutC p0) 0)))).length < 9223372036854775808) && decide (((inD 1 3 ((mpS1 (cutC p0) 0)) ((mpD1 (cutC p0) 0)) ((mpS2 (cutC p0) 0)) ((mpD2 (cutC p0) 0)))).length < 9223372036854775808) then
  (bif (decide (((inS 1 3 ((mpS1 (cutC p0) 0)) ((mpD1 (cutC p0) 0)) ((mpS2 (cutC p0) 0)) ((mpD2 (cutC p0) 0)))) = ((inS 1 3 ((mpS1 (cutC p0) 0)) ((mpD1 (cutC p0) 0)) ((mpS2 (cutC p0) 0)) ((mpD2 (cutC p0) 0))))) && decide (((inD 1 3 ((mpS1 (cutC p0) 0)) ((mpD1 (cutC p0) 0)) ((mpS2 (cutC p0) 0)) ((mpD2 (cutC p0) 0)))) = ((inD 1 3 ((mpS1 (cutC p0) 0)) ((mpD1 (cutC p0) 0)) ((mpS2 (cutC p0) 0)) ((mpD2 (cutC p0) 0)))))) then
  some ([.one ((.bool ((inB 1 3 ((mpS1 (cutC p0) 0)) ((mpD1 (cutC p0) 0)) ((mpS2 (cutC p0) 0)) ((mpD2 (cutC p0) 0))) == (inB 1 3 ((mpS1 (cutC p0) 0)) ((mpD1 (cutC p0) 0)) ((mpS2 (cutC p0) 0)) ((mpD2 (cutC p0) 0))))), false)], [])
  else
  some ([.one ((.bool false), false)], []))
  else
  none)
  else
  (bif (!((inB 1 3 ((mpS1 (cutC p0) 0)) ((mpD1 (cutC p0) 0)) ((mpS2 (cutC p0) 0)) ((mpD2 (cutC p0) 0))) == (inB 1 3 ((mpS1 (cutC p0) 0)) ((mpD1 (cutC p0) 0)) ((mpS2 (cutC p0) 0)) ((mpD2 (cutC p0) 0))))) then
  (bif decide (((inS 1 3 ((mpS1 (cutC p0) 0)) ((mpD1 (cutC p0) 0)) ((mpS2 (cutC p0) 0)) ((mpD2 (cutC p0) 0)))).length < 9223372036854775808) && decide (((inD 1 3 ((mpS1 (cutC p0) 0)) ((mpD1 (cutC p0) 0)) ((mpS2 (cutC p0) 0)) ((mpD2 (cutC p0) 0)))).length < 9223372036854775808) && decide (((inS 1 3 ((mpS1 (cutC p0) 0)) ((mpD1 (cutC p0) 0)) ((mpS2 (cutC p0) 0)) ((mpD2 (cutC p0) 0)))).length < 9223372036854775808) && decide (((inD 1 3 ((mpS1 (cutC p0) 0)) ((mpD1 (cutC p0) 0)) ((mpS2 (cutC p0) 0)) ((mpD2 (cutC p0) 0)))).length < 9223372036854775808) then
  (bif (decide (((inS 1 3 ((mpS1 (cutC p0) 0)) ((mpD1 (cutC p0) 0)) ((mpS2 (cutC p0) 0)) ((mpD2 (cutC p0) 0)))) = ((inS 1 3 ((mpS1 (cutC p0) 0)) ((mpD1 (cutC p0) 0)) ((mpS2 (cutC p0) 0)) ((mpD2 (cutC p0) 0))))) && decide (((inD 1 3 ((mpS1 (cutC p0) 0)) ((mpD1 (cutC p0) 0)) ((mpS2 (cutC p0) 0)) ((mpD2 (cutC p0) 0)))) = ((inD 1 3 ((mpS1 (cutC p0) 0)) ((mpD1 (cutC p0) 0)) ((mpS2 (cutC p0) 0)) ((mpD2 (cutC p0) 0)))))) then
  some ([.one ((.bool ((inB 1 3 ((mpS1 (cutC p0) 0)) ((mpD1 (cutC p0) 0)) ((mpS2 (cutC p0) 0)) ((mpD2 (cutC p0) 0))) == (inB 1 3 ((mpS1 (cutC p0) 0)) ((mpD1 (cutC p0) 0)) ((mpS2 (cutC p0) 0)) ((mpD2 (cutC p0) 0))))), false)], [])
  else
  some ([.one ((.bool false), false)], []))
  else
  none)
  else
  (bif (!(inB 1 3 ((mpS1 (cutC p0) 0)) ((mpD1 (cutC p0) 0)) ((mpS2 (cutC p0) 0)) ((mpD2 (cutC p0) 0)))) then
  (bif decide (((inS 1 3 ((mpS1 (cutC p0) 0)) ((mpD1 (cutC p0) 0)) ((mpS2 (cutC p0) 0)) ((mpD2 (cutC p0) 0)))).length < 9223372036854775808) && decide (((inD 1 3 ((mpS1 (cutC p0) 0)) ((mpD1 (cutC p0) 0)) ((mpS2 (cutC p0) 0)) ((mpD2 (cutC p0) 0)))).length < 9223372036854775808) && decide (((inS 1 3 ((mpS1 (cutC p0) 0)) ((mpD1 (cutC p0) 0)) ((mpS2 (cutC p0) 0)) ((mpD2 (cutC p0) 0)))).length < 9223372036854775808) && decide (((inD 1 3 ((mpS1 (cutC p0) 0)) ((mpD1 (cutC p0) 0)) ((mpS2 (cutC p0) 0)) ((mpD2 (cutC p0) 0)))).length < 9223372036854775808) then
  (bif (decide (((inS 1 3 ((mpS1 (cutC p0) 0)) ((mpD1 (cutC p0) 0)) ((mpS2 (cutC p0) 0)) ((mpD2 (cutC p0) 0)))) = ((inS 1 3 ((mpS1 (cutC p0) 0)) ((mpD1 (cutC p0) 0)) ((mpS2 (cutC p0) 0)) ((mpD2 (cutC p0) 0))))) && decide (((inD 1 3 ((mpS1 (cutC p0) 0)) ((mpD1 (cutC p0) 0)) ((mpS2 (cutC p0) 0)) ((mpD2 (cutC p0) 0)))) = ((inD 1 3 ((mpS1 (cutC p0) 0)) ((mpD1 (cutC p0) 0)) ((mpS2 (cutC p0) 0)) ((mpD2 (cutC p0) 0)))))) then
  some ([.one ((.bool ((inB 1 3 ((mpS1 (cutC p0) 0)) ((mpD1 (cutC p0) 0)) ((mpS2 (cutC p0) 0)) ((mpD2 (cutC p0) 0))) == (inB 1 3 ((mpS1 (cutC p0) 0)) ((mpD1 (cutC p0) 0)) ((mpS2 (cutC p0) 0)) ((mpD2 (cutC p0) 0))))), false)], [])
  else
  some ([.one ((.bool false), false)], []))
  else
  none)
  else
  (bif decide (((mpS1 (cutC p0) 0)).length < 9223372036854775808) && decide (((mpD1 (cutC p0) 0)).length < 9223372036854775808) then
  (bif (((rankV ((mpS1 (cutC p0) 0)) ((mpD1 (cutC p0) 0))) : Int) != 2) then
  (bif decide (((inS 1 3 ((mpS1 (cutC p0) 0)) ((mpD1 (cutC p0) 0)) ((mpS2 (cutC p0) 0)) ((mpD2 (cutC p0) 0)))).length < 9223372036854775808) && decide (((inD 1 3 ((mpS1 (cutC p0) 0)) ((mpD1 (cutC p0) 0)) ((mpS2 (cutC p0) 0)) ((mpD2 (cutC p0) 0)))).length < 9223372036854775808) && decide (((inS 1 3 ((mpS1 (cutC p0) 0)) ((mpD1 (cutC p0) 0)) ((mpS2 (cutC p0) 0)) ((mpD2 (cutC p0) 0)))).length < 9223372036854775808) && decide (((inD 1 3 ((mpS1 (cutC p0) 0)) ((mpD1 (cutC p0) 0)) ((mpS2 (cutC p0) 0)) ((mpD2 (cutC p0) 0)))).length < 9223372036854775808) then
  (bif (decide (((inS 1 3 ((mpS1 (cutC p0) 0)) ((mpD1 (cutC p0) 0)) ((mpS2 (cutC p0) 0)) ((mpD2 (cutC p0) 0)))) = ((inS 1 3 ((mpS1 (cutC p0) 0)) ((mpD1 (cutC p0) 0)) ((mpS2 (cutC p0) 0)) ((mpD2 (cutC p0) 0))))) && decide (((inD 1 3 ((mpS1 (cutC p0) 0)) ((mpD1 (cutC p0) 0)) ((mpS2 (cutC p0) 0)) ((mpD2 (cutC p0) 0)))) = ((inD 1 3 ((mpS1 (cutC p0) 0)) ((mpD1 (cutC p0) 0)) ((mpS2 (cutC p0) 0)) ((mpD2 (cutC p0) 0)))))) then
  some ([.one ((.bool ((inB 1 3 ((mpS1 (cutC p0) 0)) ((mpD1 (cutC p0) 0)) ((mpS2 (cutC p0) 0)) ((mpD2 (cutC p0) 0))) == (inB 1 3 ((mpS1 (cutC p0) 0)) ((mpD1 (cutC p0) 0)) ((mpS2 (cutC p0) 0)) ((mpD2 (cutC p0) 0))))), false)], [])
  else
  some ([.one ((.bool false), false)], []))
  else
  none)
  else
  (bif decide (((mpS2 (cutC p0) 0)).length < 9223372036854775808) && decide (((mpD2 (cutC p0) 0)).length < 9223372036854775808) then
  (bif (((rankV ((mpS2 (cutC p0) 0)) ((mpD2 (cutC p0) 0))) : Int) != 2) then
  (bif decide (((inS 1 3 ((mpS1 (cutC p0) 0)) ((mpD1 (cutC p0) 0)) ((mpS2 (cutC p0) 0)) ((mpD2 (cutC p0) 0)))).length < 9223372036854775808) && decide (((inD 1 3 ((mpS1 (cutC p0) 0)) ((mpD1 (cutC p0) 0)) ((mpS2 (cutC p0) 0)) ((mpD2 (cutC p0) 0)))).length < 9223372036854775808) && decide (((inS 1 3 ((mpS1 (cutC p0) 0)) ((mpD1 (cutC p0) 0)) ((mpS2 (cutC p0) 0)) ((mpD2 (cutC p0) 0)))).length < 9223372036854775808) && decide (((inD 1 3 ((mpS1 (cutC p0) 0)) ((mpD1 (cutC p0) 0)) ((mpS2 (cutC p0) 0)) ((mpD2 (cutC p0) 0)))).length < 9223372036854775808) then
  (bif (decide (((inS 1 3 ((mpS1 (cutC p0) 0)) ((mpD1 (cutC p0) 0)) ((mpS2 (cutC p0) 0)) ((mpD2 (cutC p0) 0)))) = ((inS 1 3 ((mpS1 (cutC p0) 0)) ((mpD1 (cutC p0) 0)) ((mpS2 (cutC p0) 0)) ((mpD2 (cutC p0) 0))))) && decide (((inD 1 3 ((mpS1 (cutC p0) 0)) ((mpD1 (cutC p0) 0)) ((mpS2 (cutC p0) 0)) ((mpD2 (cutC p0) 0)))) = ((inD 1 3 ((mpS1 (cutC p0) 0)) ((mpD1 (cutC p0) 0)) ((mpS2 (cutC p0) 0)) ((mpD2 (cutC p0) 0)))))) then
  some ([.one ((.bool ((inB 1 3 ((mpS1 (cutC p0) 0)) ((mpD1 (cutC p0) 0)) ((mpS2 (cutC p0) 0)) ((mpD2 (cutC p0) 0))) == (inB 1 3 ((mpS1 (cutC p0) 0)) ((mpD1 (cutC p0) 0)) ((mpS2 (cutC p0) 0)) ((mpD2 (cutC p0) 0))))), false)], [])
  else
  some ([.one ((.bool false), false)], []))
  else
  none)
  else
  L0 fuel fuel (t0 p0 0) (k0  fuel))
  else
  none))
  else
  none))))
  else
  none)
  else
  none)
  else
  none)
  else
  none)) := by kernel_rfl
theorem s0 (fuel n0 : Nat) (p0 : List Int) (x0q0 : Int) : L0 fuel (n0 + 1) (t0 p0 x0q0) (k0  fuel) =
  (bif (decide ((x0q0 : Int) < (((mpD1 (cutC p0) 0).length : Nat) : Int))) then
  (idx x0q0 (mpD1 (cutC p0) 0).length).bind fun j29 =>
  ((mpD1 (cutC p0) 0)[j29]?).bind fun v30 =>
  (bif (decide ((v30 : Int) > 1000)) then
  some ([.one ((.bool true), false)], [])
  else
  (idx x0q0 (mpD1 (cutC p0) 0).length).bind fun j31 =>
  ((mpD1 (cutC p0) 0)[j31]?).bind fun v32 =>
  (bif (decide ((v32 : Int) < (-1000))) then
  some ([.one ((.bool true), false)], [])
  else
  L0 fuel n0 (t0 p0 ((IntKind.wrap .i64 (x0q0 + 1)))) (k0  fuel)))
  else
  L1 fuel fuel (t1 p0 0) (k1  fuel)) := by kernel_rfl
theorem s1 (fuel n1 : Nat) (p0 : List Int) (x1q0 : Int) : L1 fuel (n1 + 1) (t1 p0 x1q0) (k1  fuel) =
  (bif (decide ((x1q0 : Int) < (((mpD2 (cutC p0) 0).length : Nat) : Int))) then
  (idx x1q0 (mpD2 (cutC p0) 0).length).bind fun j37 =>
  ((mpD2 (cutC p0) 0)[j37]?).bind fun v38 =>
  (bif (decide ((v38 : Int) > 100)) then
  some ([.one ((.bool true), false)], [])
  else
  (idx x1q0 (mpD2 (cutC p0) 0).length).bind fun j39 =>
  ((mpD2 (cutC p0) 0)[j39]?).bind fun v40 =>
  (bif (decide ((v40 : Int) < (-100))) then
  some ([.one ((.bool true), false)], [])
  else
  L1 fuel n1 (t1 p0 ((IntKind.wrap .i64 (x1q0 + 1)))) (k1  fuel)))
  else
  (bif decide (((mpS2 (cutC p0) 0)).length < 9223372036854775808) && decide (((mpD2 (cutC p0) 0)).length < 9223372036854775808) then
  (bif decide (((mpS1 (cutC p0) 0)).length < 9223372036854775808) && decide (((mpD1 (cutC p0) 0)).length < 9223372036854775808) then
  (bif decide (((trS ((mpS2 (cutC p0) 0)) ((mpD2 (cutC p0) 0)))).length < 9223372036854775808) && decide (((trD ((mpS2 (cutC p0) 0)) ((mpD2 (cutC p0) 0)))).length < 9223372036854775808) && decide (((trS ((mpS1 (cutC p0) 0)) ((mpD1 (cutC p0) 0)))).length < 9223372036854775808) && decide (((trD ((mpS1 (cutC p0) 0)) ((mpD1 (cutC p0) 0)))).length < 9223372036854775808) then
  (bif (inB 1 3 ((trS ((mpS2 (cutC p0) 0)) ((mpD2 (cutC p0) 0)))) ((trD ((mpS2 (cutC p0) 0)) ((mpD2 (cutC p0) 0)))) ((trS ((mpS1 (cutC p0) 0)) ((mpD1 (cutC p0) 0)))) ((trD ((mpS1 (cutC p0) 0)) ((mpD1 (cutC p0) 0))))) then
  (bif decide (((inS 1 3 ((mpS1 (cutC p0) 0)) ((mpD1 (cutC p0) 0)) ((mpS2 (cutC p0) 0)) ((mpD2 (cutC p0) 0)))).length < 9223372036854775808) && decide (((inD 1 3 ((mpS1 (cutC p0) 0)) ((mpD1 (cutC p0) 0)) ((mpS2 (cutC p0) 0)) ((mpD2 (cutC p0) 0)))).length < 9223372036854775808) then
  (bif decide (((inS 1 3 ((trS ((mpS2 (cutC p0) 0)) ((mpD2 (cutC p0) 0)))) ((trD ((mpS2 (cutC p0) 0)) ((mpD2 (cutC p0) 0)))) ((trS ((mpS1 (cutC p0) 0)) ((mpD1 (cutC p0) 0)))) ((trD ((mpS1 (cutC p0) 0)) ((mpD1 (cutC p0) 0)))))).length < 9223372036854775808) && decide (((inD 1 3 ((trS ((mpS2 (cutC p0) 0)) ((mpD2 (cutC p0) 0)))) ((trD ((mpS2 (cutC p0) 0)) ((mpD2 (cutC p0) 0)))) ((trS ((mpS1 (cutC p0) 0)) ((mpD1 (cutC p0) 0)))) ((trD ((mpS1 (cutC p0) 0)) ((mpD1 (cutC p0) 0)))))).length < 9223372036854775808) && decide (((trS ((inS 1 3 ((mpS1 (cutC p0) 0)) ((mpD1 (cutC p0) 0)) ((mpS2 (cutC p0) 0)) ((mpD2 (cutC p0) 0)))) ((inD 1 3 ((mpS1 (cutC p0) 0)) ((mpD1 (cutC p0) 0)) ((mpS2 (cutC p0) 0)) ((mpD2 (cutC p0) 0)))))).length < 9223372036854775808) && decide (((trD ((inS 1 3 ((mpS1 (cutC p0) 0)) ((mpD1 (cutC p0) 0)) ((mpS2 (cutC p0) 0)) ((mpD2 (cutC p0) 0)))) ((inD 1 3 ((mpS1 (cutC p0) 0)) ((mpD1 (cutC p0) 0)) ((mpS2 (cutC p0) 0)) ((mpD2 (cutC p0) 0)))))).length < 9223372036854775808) then
  some ([.one ((.bool (decide (((inS 1 3 ((trS ((mpS2 (cutC p0) 0)) ((mpD2 (cutC p0) 0)))) ((trD ((mpS2 (cutC p0) 0)) ((mpD2 (cutC p0) 0)))) ((trS ((mpS1 (cutC p0) 0)) ((mpD1 (cutC p0) 0)))) ((trD ((mpS1 (cutC p0) 0)) ((mpD1 (cutC p0) 0)))))) = ((trS ((inS 1 3 ((mpS1 (cutC p0) 0)) ((mpD1 (cutC p0) 0)) ((mpS2 (cutC p0) 0)) ((mpD2 (cutC p0) 0)))) ((inD 1 3 ((mpS1 (cutC p0) 0)) ((mpD1 (cutC p0) 0)) ((mpS2 (cutC p0) 0)) ((mpD2 (cutC p0) 0))))))) && decide (((inD 1 3 ((trS ((mpS2 (cutC p0) 0)) ((mpD2 (cutC p0) 0)))) ((trD ((mpS2 (cutC p0) 0)) ((mpD2 (cutC p0) 0)))) ((trS ((mpS1 (cutC p0) 0)) ((mpD1 (cutC p0) 0)))) ((trD ((mpS1 (cutC p0) 0)) ((mpD1 (cutC p0) 0)))))) = ((trD ((inS 1 3 ((mpS1 (cutC p0) 0)) ((mpD1 (cutC p0) 0)) ((mpS2 (cutC p0) 0)) ((mpD2 (cutC p0) 0)))) ((inD 1 3 ((mpS1 (cutC p0) 0)) ((mpD1 (cutC p0) 0)) ((mpS2 (cutC p0) 0)) ((mpD2 (cutC p0) 0))))))))), false)], [])
  else
  none)
  else
  none)
  else
  some ([.one ((.bool false), false)], []))
  else
  none)
  else
  none)
  else
  none)) := by kernel_rfl
end laws_FnSumProductTurn
theorem laws_FnSumProductTurn.ok_of (hX : ∀ E ∈ laws_FnSumProductTurn.X, CallSpec Try.prog E) (h : ∀ (bs : List Int), (bytesB bs) = true → ∃ fuel, runF Try.prog laws_FnSumProductTurn.X laws_FnSumProductTurn.I 0 fuel 3 Try.f3 [.d (.ints .u8 bs)] = some ([.one ((.bool true), false)], [])) : CallSpec Try.prog laws_FnSumProductTurn.E :=
  callSpec_of (d := 0) hX (by kernel_rfl) laws_FnSumProductTurn.I_ok (by kernel_rfl) (by kernel_rfl) (by kernel_rfl) (fun _ _ _ _ h => by dsimp only [laws_FnSumProductTurn.E] at h; cases h) (fun xs hp => by
    dsimp only [laws_FnSumProductTurn.E] at hp ⊢
    split at hp
    · exact h _ hp
    · cases hp)
theorem laws_FnSumProductTurn.ok : CallSpec Try.prog laws_FnSumProductTurn.E := laws_FnSumProductTurn.ok_of (by simp [laws_FnSumProductTurn.X, spec_DrawSumProduct.ok, impl_SumProduct.ok, spec_SumProduct.ok, laws_equalArray.ok, impl_RankOf.ok, impl_Transpose.ok]) fun bs h => by
  obtain ⟨F, hF⟩ : ∃ F : Nat, 4000 < F := ⟨4001, by omega⟩
  refine ⟨F, ?_⟩
  rw [laws_FnSumProductTurn.e]
  by_cases hl : ((bs.length : Nat) : Int) > 1048576
  · rw [decide_eq_true hl]; rfl
  rw [decide_eq_false hl, cond_false, h, cond_true]
  have r0 := cut_ok h (p := 0) (by omega) (by omega)
  obtain ⟨a1, a2, a3, a4⟩ := mp_bd r0 (by omega)
  obtain ⟨s1, hs1⟩ : ∃ x, mpS1 (cutC bs) 0 = x := ⟨_, rfl⟩
  obtain ⟨d1, hd1⟩ : ∃ x, mpD1 (cutC bs) 0 = x := ⟨_, rfl⟩
  obtain ⟨s2, hs2⟩ : ∃ x, mpS2 (cutC bs) 0 = x := ⟨_, rfl⟩
  obtain ⟨d2, hd2⟩ : ∃ x, mpD2 (cutC bs) 0 = x := ⟨_, rfl⟩
  rw [hs1] at a1
  rw [hd1] at a2
  rw [hs2] at a3
  rw [hd2] at a4
  have g1 := lt_of (xs := s1) (by omega)
  have g2 := lt_of (xs := d1) (by omega)
  have g3 := lt_of (xs := s2) (by omega)
  have g4 := lt_of (xs := d2) (by omega)
  have il := in_len 1 3 s1 d1 s2 d2
  have g5 := lt_of (xs := inS 1 3 s1 d1 s2 d2) (by omega)
  have g6 := lt_of (xs := inD 1 3 s1 d1 s2 d2) (by omega)
  simp only [hs1, hd1, hs2, hd2]
  cases hb : inB 1 3 s1 d1 s2 d2 with
  | false => simp only [Bool.and_self, Bool.and_true, Bool.true_and, cond_true, cond_false, Bool.not_true, Bool.not_false, bne_self_eq_false, beq_self_eq_true, decide_true, eq_self, g1, g2, g3, g4, g5, g6, hb]
  | true =>
    have hb' := hb
    simp only [inB, Bool.and_eq_true, decide_eq_true_eq] at hb'
    obtain ⟨⟨⟨⟨⟨h1, h2⟩, h3⟩, h4⟩, h5⟩, h6⟩ := hb'
    obtain ⟨_, _, _, v1, _, _, _⟩ := axB_inv h3
    obtain ⟨_, _, _, v2, _, _, _⟩ := axB_inv h4
    have k1 : rankV s1 d1 = ((s1.length : Nat) : Int) := by simp only [rankV, v1, cond_true]
    have k2 : rankV s2 d2 = ((s2.length : Nat) : Int) := by simp only [rankV, v2, cond_true]
    by_cases r1 : s1.length = 2
    case neg =>
      have x1 : (((s1.length : Nat) : Int) != 2) = true := bne_iff_ne.2 (by omega)
      simp only [Bool.and_self, Bool.and_true, Bool.true_and, cond_true, cond_false, Bool.not_true, Bool.not_false, bne_self_eq_false, beq_self_eq_true, decide_true, eq_self, g1, g2, g3, g4, g5, g6, hb, k1, x1]
    have x1 : (((s1.length : Nat) : Int) != 2) = false := by rw [r1]; rfl
    by_cases r2 : s2.length = 2
    case neg =>
      have x2 : (((s2.length : Nat) : Int) != 2) = true := bne_iff_ne.2 (by omega)
      simp only [Bool.and_self, Bool.and_true, Bool.true_and, cond_true, cond_false, Bool.not_true, Bool.not_false, bne_self_eq_false, beq_self_eq_true, decide_true, eq_self, g1, g2, g3, g4, g5, g6, hb, k1, k2, x1, x2]
    have x2 : (((s2.length : Nat) : Int) != 2) = false := by rw [r2]; rfl
    simp only [Bool.and_self, Bool.and_true, Bool.true_and, cond_true, cond_false, Bool.not_true, Bool.not_false, bne_self_eq_false, beq_self_eq_true, decide_true, eq_self, g1, g2, g3, g4, g5, g6, hb, k1, k2, x1, x2]
    have key : inB 1 3 (trS s2 d2) (trD s2 d2) (trS s1 d1) (trD s1 d1) = true ∧ inS 1 3 (trS s2 d2) (trD s2 d2) (trS s1 d1) (trD s1 d1) = trS (inS 1 3 s1 d1 s2 d2) (inD 1 3 s1 d1 s2 d2) ∧ inD 1 3 (trS s2 d2) (trD s2 d2) (trS s1 d1) (trD s1 d1) = trD (inS 1 3 s1 d1 s2 d2) (inD 1 3 s1 d1 s2 d2) := by
      rcases validS_cases (validA_inv v1).1 with rfl | ⟨a, rfl, _⟩ | ⟨a, k, rfl, p0, p1, p2, p3, _⟩ | ⟨a, b, c, rfl, _⟩
      · simp at r1
      · simp at r1
      · rcases validS_cases (validA_inv v2).1 with rfl | ⟨a', rfl, _⟩ | ⟨k', b, rfl, q0, q1, q2, q3, _⟩ | ⟨a', b, c, rfl, _⟩
        · simp at r2
        · simp at r2
        · obtain ⟨A, rfl⟩ : ∃ n : Nat, a = n := ⟨a.toNat, by omega⟩
          obtain ⟨B, rfl⟩ : ∃ n : Nat, b = n := ⟨b.toNat, by omega⟩
          obtain ⟨K, rfl⟩ : ∃ n : Nat, k = n := ⟨k.toNat, by omega⟩
          obtain ⟨K', rfl⟩ : ∃ n : Nat, k' = n := ⟨k'.toNat, by omega⟩
          have e : K = K' := by simpa [lenN] using h5
          subst e
          exact in_turn hb
        · simp at r2
      · simp at r1
    obtain ⟨t1, t2, t3⟩ := key
    have l1 := tr_len s1 d1
    have l2 := tr_len s2 d2
    have l3 := tr_len (inS 1 3 s1 d1 s2 d2) (inD 1 3 s1 d1 s2 d2)
    have g7 := lt_of (xs := trS s1 d1) (by omega)
    have g8 := lt_of (xs := trD s1 d1) (by omega)
    have g9 := lt_of (xs := trS s2 d2) (by omega)
    have g10 := lt_of (xs := trD s2 d2) (by omega)
    have g11 := lt_of (xs := trS (inS 1 3 s1 d1 s2 d2) (inD 1 3 s1 d1 s2 d2)) (by omega)
    have g12 := lt_of (xs := trD (inS 1 3 s1 d1 s2 d2) (inD 1 3 s1 d1 s2 d2)) (by omega)
    have hend : ∀ n j, j ≤ d2.length → d2.length - j < n → laws_FnSumProductTurn.L1 F n (laws_FnSumProductTurn.t1 bs ((j : Nat) : Int)) (laws_FnSumProductTurn.k1 F) = some ([.one ((.bool true), false)], []) := by
      intro n
      induction n with
      | zero => intro j _ h; omega
      | succ n ih =>
        intro j hj hn
        rw [laws_FnSumProductTurn.s1]
        simp only [hs1, hd1, hs2, hd2]
        by_cases hjl : j < d2.length
        · rw [dlt hjl, cond_true, idx_nat hjl, w1 (by omega)]
          simp only [Option.bind_some, getD_get hjl]
          by_cases c1 : d2.getD j 0 > 100
          · rw [decide_eq_true c1]; rfl
          by_cases c2 : d2.getD j 0 < -100
          · rw [decide_eq_false c1, decide_eq_true c2]; rfl
          rw [decide_eq_false c1, decide_eq_false c2]
          exact ih (j + 1) (by omega) (by omega)
        · rw [dge hjl]
          simp only [Bool.and_self, Bool.and_true, Bool.true_and, cond_true, cond_false, Bool.not_true, Bool.not_false, bne_self_eq_false, beq_self_eq_true, decide_true, eq_self, g1, g2, g3, g4, g5, g6, g7, g8, g9, g10, g11, g12, t1, t2, t3]
    have hall : ∀ n j, j ≤ d1.length → d1.length - j < n → laws_FnSumProductTurn.L0 F n (laws_FnSumProductTurn.t0 bs ((j : Nat) : Int)) (laws_FnSumProductTurn.k0 F) = some ([.one ((.bool true), false)], []) := by
      intro n
      induction n with
      | zero => intro j _ h; omega
      | succ n ih =>
        intro j hj hn
        rw [laws_FnSumProductTurn.s0]
        simp only [hs1, hd1, hs2, hd2]
        by_cases hjl : j < d1.length
        · rw [dlt hjl, cond_true, idx_nat hjl, w1 (by omega)]
          simp only [Option.bind_some, getD_get hjl]
          by_cases c1 : d1.getD j 0 > 1000
          · rw [decide_eq_true c1]; rfl
          by_cases c2 : d1.getD j 0 < -1000
          · rw [decide_eq_false c1, decide_eq_true c2]; rfl
          rw [decide_eq_false c1, decide_eq_false c2]
          exact ih (j + 1) (by omega) (by omega)
        · rw [dge hjl]
          exact hend F 0 (by omega) (by omega)
    exact hall F 0 (by omega) (by omega)

end Go.Ab
