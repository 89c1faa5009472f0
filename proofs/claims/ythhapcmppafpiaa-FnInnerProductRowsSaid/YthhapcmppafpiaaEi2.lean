import Derived.Test.YthhapcmppafpiaaEi1
import Derived.Test.YthhapcmppafpiaaProg
import Derived.Test.YthhapcmppafpiaaChecked
open Go Go.Ab Go.Proofs
set_option maxRecDepth 100000
set_option linter.unusedVariables false
set_option linter.unusedSimpArgs false
namespace Go.Ab
namespace spec_fold
noncomputable def E : Entry := ⟨77, true, false, fun | [.d (.int .i64 op), .d (.ints .i64 xs)] => opOk op && decide (xs.length < 9223372036854775808) | _ => false, fun | [.d (.int .i64 op), .d (.ints .i64 xs)] => ([.one ((.int .i64 (redF op xs)), false)], []) | _ => ([], []), fun _ => [], false, fun _ => none⟩
end spec_fold
namespace spec_fold
noncomputable def X : List Entry := [spec_neutral.E, spec_operate.E]
noncomputable def I : List Inl := [⟨77, Try.f77, ⟨[], [(1000005, [2, 3, 4, 7, 8, 9, 10, 11, 12, 13, 14, 15, 16, 17, 18, 19, 20, 21, 22, 23, 24, 25, 26, 27, 28, 29, 30, 31, 32])], [], [], [], []⟩⟩]
theorem I_ok : ∀ i ∈ I, Try.prog.funcs[i.f]? = some i.fn ∧ (i.fn.name == "runtime.NumGoroutine") = false := by
  intro i hi
  simp only [I, List.mem_cons, List.not_mem_nil, or_false] at hi
  subst hi
  exact ⟨by kernel_rfl, by kernel_rfl⟩
noncomputable abbrev L0 (fuel n : Nat) (s : St) (k : Kont) := lAt Try.prog X I fuel true 0 false 77 (bodyOf Try.f77) [1, 1, 1, 0, 1, 0] n s k
noncomputable abbrev k0  (fuel : Nat) : Kont := (kAt Try.prog X I fuel true 0 false 77 (bodyOf Try.f77) [1, 1, 1, 0, 1, 0] [] (endK Try.prog Try.f77))
noncomputable def t0 (p0 : Int) (p1 : List Int) (x0q2 : Int) (x0q3 : Int) : St := ⟨[(.imm (.int .i64 p0)), (.imm (.ints .i64 p1)), .dead, .dead, .dead, (.imm (.int .i64 x0q2)), (.imm (.int .i64 x0q3)), .dead, .dead, .dead, .dead, .dead, .dead, .dead, .dead, .dead, .dead, .dead, .dead, .dead, .dead, .dead, .dead, .dead, .dead, .dead, .dead, .dead, .dead, .dead, .dead, .dead, .dead], hOf [], [], []⟩
theorem e (fuel : Nat) (p0 : Int) (p1 : List Int) : runF Try.prog X I 0 fuel 77 Try.f77 [.d (.int .i64 p0), .d (.ints .i64 p1)] =
  (bif ((((p1.length : Nat) : Int) : Int) == 0) then
  (bif opOk p0 then
  some ([.one ((.int .i64 (neuF p0)), false)], [])
  else
  none)
  else
  (idx (IntKind.wrap .i64 (((p1.length : Nat) : Int) - 1)) p1.length).bind fun j1 =>
  (p1[j1]?).bind fun v2 =>
  L0 fuel fuel (t0 p0 p1 v2 ((IntKind.wrap .i64 (((p1.length : Nat) : Int) - 2)))) (k0  fuel)) := by kernel_rfl
theorem s0 (fuel n0 : Nat) (p0 : Int) (p1 : List Int) (x0q2 : Int) (x0q3 : Int) : L0 fuel (n0 + 1) (t0 p0 p1 x0q2 x0q3) (k0  fuel) =
  (bif (decide ((x0q3 : Int) ≥ 0)) then
  (idx x0q3 p1.length).bind fun j7 =>
  (p1[j7]?).bind fun v8 =>
  L0 fuel n0 (t0 p0 p1 ((operF p0 v8 x0q2)) ((IntKind.wrap .i64 (x0q3 - 1)))) (k0  fuel)
  else
  some ([.one ((.int .i64 x0q2), false)], [])) := by kernel_rfl
end spec_fold
theorem spec_fold.ok_of (hX : ∀ E ∈ spec_fold.X, CallSpec Try.prog E) (h : ∀ (op : Int) (xs : List Int), (opOk op && decide (xs.length < 9223372036854775808)) = true → ∃ fuel, runF Try.prog spec_fold.X spec_fold.I 0 fuel 77 Try.f77 [.d (.int .i64 op), .d (.ints .i64 xs)] = some ([.one ((.int .i64 (redF op xs)), false)], [])) : CallSpec Try.prog spec_fold.E :=
  callSpec_of (d := 0) hX (by kernel_rfl) spec_fold.I_ok (by kernel_rfl) (by kernel_rfl) (by kernel_rfl) (fun _ _ _ _ h => by dsimp only [spec_fold.E] at h; cases h) (fun xs hp => by
    dsimp only [spec_fold.E] at hp ⊢
    split at hp
    · exact h _ _ hp
    · cases hp)
theorem spec_fold.ok : CallSpec Try.prog spec_fold.E := spec_fold.ok_of (by simp [spec_fold.X, spec_neutral.ok, spec_operate.ok]) fun op xs h => ⟨xs.length + 1, by
  simp only [Bool.and_eq_true, decide_eq_true_eq] at h
  rw [spec_fold.e, len0]
  by_cases h0 : xs.length = 0
  · have h0' := List.length_eq_zero_iff.mp h0
    subst h0'
    rw [decide_eq_true h0, h.1]
    simp only [cond_true, redF, neuV, h.1]
  · obtain ⟨k, hk⟩ : ∃ k, xs.length = k + 1 := ⟨xs.length - 1, by omega⟩
    have e1 : ((xs.length : Nat) : Int) - 1 = (k : Int) := by omega
    have hkl : k < xs.length := by omega
    rw [decide_eq_false h0, cond_false, wS (by omega) (by omega), wS (by omega) (by omega), e1, idx_nat hkl]
    simp only [Option.bind_some, getD_get hkl]
    rw [show ((xs.length : Nat) : Int) - 2 = (k : Int) - 1 - ((0 : Nat) : Int) by omega]
    refine run_loop (N := k) (fun n j acc => spec_fold.L0 (xs.length + 1) n (spec_fold.t0 op xs acc ((k : Int) - 1 - (j : Int))) (spec_fold.k0 (xs.length + 1))) (fun j acc => acc = redF op (xs.drop (k - j))) ?_ ?_ (xs.length + 1) 0 _ (by omega) (by omega) (by rw [Nat.sub_zero, redF_last (by omega)])
    · intro n acc ho
      rw [spec_fold.s0, decide_eq_false (by omega), ho, Nat.sub_self, List.drop_zero]
      rfl
    · intro n j acc hj ho
      obtain ⟨i, hi⟩ : ∃ i, k - j = i + 1 := ⟨k - j - 1, by omega⟩
      have hil : i < xs.length := by omega
      have e1 : (k : Int) - 1 - (j : Int) = (i : Int) := by omega
      rw [e1, spec_fold.s0, decide_eq_true (by omega), idx_nat hil, wS (by omega) (by omega)]
      simp only [cond_true, Option.bind_some, getD_get hil]
      refine ⟨_, ?_, by rw [show (k : Int) - 1 - ((j + 1 : Nat) : Int) = (i : Int) - 1 by omega]⟩
      rw [ho, hi, show k - (j + 1) = i by omega]
      exact (redF_drop (by omega)).symm⟩

namespace spec_InnerProduct
noncomputable def E : Entry := ⟨29, false, false, fun | [.d (.int .i64 f), .d (.int .i64 g), .d (.agg [(.ints .i64 sa), (.ints .i64 da)]), .d (.agg [(.ints .i64 sb), (.ints .i64 db)])] => decide (sa.length < 9223372036854775808) && decide (da.length < 9223372036854775808) && decide (sb.length < 9223372036854775808) && decide (db.length < 9223372036854775808) | _ => false, fun | [.d (.int .i64 f), .d (.int .i64 g), .d (.agg [(.ints .i64 sa), (.ints .i64 da)]), .d (.agg [(.ints .i64 sb), (.ints .i64 db)])] => ([.agg [((.ints .i64 (inS f g sa da sb db)), true), ((.ints .i64 (inD f g sa da sb db)), true)], .one ((.bool (inB f g sa da sb db)), false)], []) | _ => ([], []), fun _ => [], true, fun _ => none⟩
end spec_InnerProduct
namespace spec_InnerProduct
noncomputable def X : List Entry := [spec_validOp.E, spec_valid.E, spec_validShape.E, spec_volume.E, spec_lane.E, spec_vector.E, spec_combine.E, spec_fold.E, spec_make1.E]
noncomputable def I : List Inl := [⟨29, Try.f29, ⟨[102, 105, 110, 112, 113, 120], [(1000009, [2, 3, 4, 5, 9, 14, 15, 16, 17, 18, 19, 20, 21, 22, 23, 24, 25, 26, 27, 28, 29, 30, 31, 32, 33, 34, 35, 36, 37, 38, 39, 40, 41, 42, 43, 44, 45, 46, 47, 48, 49, 50, 51, 52, 53, 54, 55, 56, 57, 58, 59, 60, 61, 62, 63, 64, 65, 66, 67, 68, 69, 70, 71, 72, 73, 74, 75, 76, 77, 78, 79, 80, 81, 82, 83, 84, 85, 86, 87, 88, 89, 90, 91, 92, 93, 94, 95, 96, 97, 98, 99, 100, 101, 102, 103, 104, 105, 106, 107, 108, 109, 110, 111, 112, 113, 114, 115, 116, 117, 118, 119, 120]), (1000012, [2, 3, 4, 5, 9, 15, 16, 17, 18, 19, 20, 21, 22, 23, 24, 25, 26, 27, 28, 29, 30, 31, 32, 33, 34, 35, 36, 37, 38, 39, 40, 41, 42, 43, 44, 45, 46, 47, 48, 49, 50, 51, 52, 53, 54, 55, 56, 57, 58, 59, 60, 61, 62, 63, 64, 65, 66, 67, 68, 69, 70, 71, 72, 73, 74, 75, 76, 77, 78, 79, 80, 81, 82, 83, 84, 85, 86, 87, 88, 89, 90, 91, 92, 93, 94, 95, 96, 97, 98, 99, 100, 101, 102, 103, 104, 105, 106, 107, 108, 109, 110, 111, 112, 113, 114, 115, 116, 117, 118, 119, 120])], [(4, [7])], [(1, [0, 1, 2, 3, 4, 5, 6, 7, 8, 9, 10, 11, 12, 13, 14, 15, 16, 17, 18, 19, 20, 21, 22, 23, 24, 25, 26, 27, 28, 29, 30, 31, 33, 39, 32, 34, 35, 36, 37, 38, 40, 41, 42, 43, 44]), (4, [1, 3, 6, 7, 8, 2, 4, 0, 5, 9, 10])], [74, 75], []⟩⟩]
theorem I_ok : ∀ i ∈ I, Try.prog.funcs[i.f]? = some i.fn ∧ (i.fn.name == "runtime.NumGoroutine") = false := by
  intro i hi
  simp only [I, List.mem_cons, List.not_mem_nil, or_false] at hi
  subst hi
  exact ⟨by kernel_rfl, by kernel_rfl⟩
noncomputable abbrev L0 (fuel n : Nat) (s : St) (k : Kont) := lAt Try.prog X I fuel true 0 false 29 (bodyOf Try.f29) [1, 1, 1, 1, 1, 1, 0, 1, 0] n s k
noncomputable abbrev k0  (fuel : Nat) : Kont := (kAt Try.prog X I fuel true 0 false 29 (bodyOf Try.f29) [1, 1, 1, 1, 1, 1, 0, 1, 0] [] (endK Try.prog Try.f29))
noncomputable def t0 (p0 : Int) (p1 : Int) (p3q0 : List Int) (p3q1 : List Int) (p2q0 : List Int) (p2q1 : List Int) (cq6 : Nat × Nat) (cq5 : Nat × Nat) (x0q5 : Int) (x0q9 : List Int) : St := ⟨[(.imm (.int .i64 p0)), (.imm (.int .i64 p1)), .dead, .dead, .dead, .dead, (.ptr 1000000000 0 0), (.dptr [(.ints .i64 p3q0), (.ints .i64 p3q1)] 0), (.ptr 1000000001 0 0), .dead, (.imm (.int .i64 (IntKind.wrap .i64 (((p2q0.length : Nat) : Int) - 1)))), (.all 1000000002 1), (.all 1000000003 1), (.imm (.int .i64 x0q5)), .dead, .dead, .dead, .dead, .dead, .dead, .dead, .dead, .dead, .dead, .dead, .dead, .dead, .dead, .dead, .dead, .dead, .dead, .dead, .dead, .dead, .dead, .dead, .dead, .dead, .dead, .dead, .dead, .dead, .dead, .dead, .dead, .dead, .dead, .dead, .dead, .dead, .dead, .dead, .dead, .dead, .dead, .dead, .dead, .dead, .dead, .dead, .dead, .dead, .dead, .dead, .dead, .dead, .dead, .dead, .dead, .dead, .dead, .dead, .dead, .dead, .dead, .dead, .dead, .dead, .dead, .dead, .dead, .dead, .dead, .dead, .dead, .dead, .dead, .dead, .dead, .dead, .dead, .dead, .dead, .dead, .dead, .dead, .dead, .dead, .dead, .dead, .dead, .dead, .dead, .dead, .dead, .dead, .dead, .dead, .dead, .dead, .dead, .dead, .dead, .dead, .dead, .dead, .dead, .dead, .dead, .dead], hOf [(1000000000, (.box [(.imm (.ints .i64 p2q0)), (.imm (.ints .i64 p2q1))])), (1000000001, (.box [(.imm .nils), (.imm .nils)])), (1000000002, (.ints .i64 ((([] : List Int) ++ ((p2q0.drop cq6.1).take (cq6.2 - cq6.1))) ++ ((p3q0.drop cq5.1).take (cq5.2 - cq5.1))))), (1000000003, (.ints .i64 x0q9))], [], []⟩
noncomputable abbrev L1 (fuel n : Nat) (s : St) (k : Kont) := lAt Try.prog X I fuel true 0 false 29 (bodyOf Try.f29) [1, 1, 1, 1, 1, 1, 0, 1, 0, 0, 1, 0, 0, 1, 0] n s k
noncomputable abbrev k1 (n0 : Nat) (fuel : Nat) : Kont := (kAt Try.prog X I fuel true 0 false 29 (bodyOf Try.f29) [1, 1, 1, 1, 1, 1, 0, 1, 0, 0, 1, 0, 0, 1, 0] [n0] (endK Try.prog Try.f29))
noncomputable def t1 (p0 : Int) (p1 : Int) (p3q0 : List Int) (p3q1 : List Int) (p2q0 : List Int) (x0q5 : Int) (p2q1 : List Int) (cq6 : Nat × Nat) (cq5 : Nat × Nat) (x1q6 : Int) (x1q10 : List Int) : St := ⟨[(.imm (.int .i64 p0)), (.imm (.int .i64 p1)), .dead, .dead, .dead, .dead, (.ptr 1000000000 0 0), (.dptr [(.ints .i64 p3q0), (.ints .i64 p3q1)] 0), (.ptr 1000000001 0 0), .dead, (.imm (.int .i64 (IntKind.wrap .i64 (((p2q0.length : Nat) : Int) - 1)))), (.all 1000000002 1), (.all 1000000003 1), (.imm (.int .i64 x0q5)), (.imm (.int .i64 x1q6)), .dead, .dead, .dead, .dead, .dead, .dead, .dead, .dead, .dead, .dead, .dead, .dead, .dead, .dead, .dead, .dead, .dead, .dead, .dead, .dead, .dead, .dead, .dead, .dead, .dead, .dead, .dead, .dead, .dead, .dead, .dead, .dead, .dead, .dead, .dead, .dead, .dead, .dead, .dead, .dead, .dead, .dead, .dead, .dead, .dead, .dead, .dead, .dead, .dead, .dead, .dead, .dead, .dead, .dead, .dead, .dead, .dead, .dead, .dead, .dead, .dead, .dead, .dead, .dead, .dead, .dead, .dead, .dead, .dead, .dead, .dead, .dead, .dead, .dead, .dead, .dead, .dead, .dead, .dead, .dead, .dead, .dead, .dead, .dead, .dead, .dead, .dead, .dead, .dead, .dead, .dead, .dead, .dead, .dead, .dead, .dead, .dead, .dead, .dead, .dead, .dead, .dead, .dead, .dead, .dead, .dead], hOf [(1000000000, (.box [(.imm (.ints .i64 p2q0)), (.imm (.ints .i64 p2q1))])), (1000000001, (.box [(.imm .nils), (.imm .nils)])), (1000000002, (.ints .i64 ((([] : List Int) ++ ((p2q0.drop cq6.1).take (cq6.2 - cq6.1))) ++ ((p3q0.drop cq5.1).take (cq5.2 - cq5.1))))), (1000000003, (.ints .i64 x1q10))], [], []⟩
theorem e (fuel : Nat) (p0 : Int) (p1 : Int) (p2q0 : List Int) (p2q1 : List Int) (p3q0 : List Int) (p3q1 : List Int) : runF Try.prog X I 0 fuel 29 Try.f29 [.d (.int .i64 p0), .d (.int .i64 p1), .d (.agg [(.ints .i64 p2q0), (.ints .i64 p2q1)]), .d (.agg [(.ints .i64 p3q0), (.ints .i64 p3q1)])] =
  (bif (!(opOk p0)) then
  some ([.agg [((.ints .i64 []), true), ((.ints .i64 []), true)], .one ((.bool false), false)], [])
  else
  (bif (!(opOk p1)) then
  some ([.agg [((.ints .i64 []), true), ((.ints .i64 []), true)], .one ((.bool false), false)], [])
  else
  (bif decide (p2q0.length < 9223372036854775808) && decide (p2q1.length < 9223372036854775808) then
  (bif (!(validA p2q0 p2q1)) then
  some ([.agg [((.ints .i64 []), true), ((.ints .i64 []), true)], .one ((.bool false), false)], [])
  else
  (bif decide (p3q0.length < 9223372036854775808) && decide (p3q1.length < 9223372036854775808) then
  (bif (!(validA p3q0 p3q1)) then
  some ([.agg [((.ints .i64 []), true), ((.ints .i64 []), true)], .one ((.bool false), false)], [])
  else
  (bif ((((p2q0.length : Nat) : Int) : Int) == 0) then
  some ([.agg [((.ints .i64 []), true), ((.ints .i64 []), true)], .one ((.bool false), false)], [])
  else
  (bif ((((p3q0.length : Nat) : Int) : Int) == 0) then
  some ([.agg [((.ints .i64 []), true), ((.ints .i64 []), true)], .one ((.bool false), false)], [])
  else
  (idx (IntKind.wrap .i64 (((p2q0.length : Nat) : Int) - 1)) p2q0.length).bind fun j1 =>
  (p2q0[j1]?).bind fun v2 =>
  (idx 0 p3q0.length).bind fun j3 =>
  (p3q0[j3]?).bind fun v4 =>
  (bif ((v2 : Int) != v4) then
  some ([.agg [((.ints .i64 []), true), ((.ints .i64 []), true)], .one ((.bool false), false)], [])
  else
  (cutEnds p3q0.length (some (.imm (.int .i64 1))) (none)).bind fun cq5 =>
  (cutEnds p2q0.length (none) (some (.imm (.int .i64 (IntKind.wrap .i64 (((p2q0.length : Nat) : Int) - 1)))))).bind fun cq6 =>
  (bif fits (([] : List Int).length + ((p2q0.drop cq6.1).take (cq6.2 - cq6.1)).length) 8 then
  (bif fits ((([] : List Int) ++ ((p2q0.drop cq6.1).take (cq6.2 - cq6.1))).length + ((p3q0.drop cq5.1).take (cq5.2 - cq5.1)).length) 8 then
  (bif decide ((((([] : List Int) ++ ((p2q0.drop cq6.1).take (cq6.2 - cq6.1))) ++ ((p3q0.drop cq5.1).take (cq5.2 - cq5.1)))).length < 9223372036854775808) then
  (bif (!(validS (((([] : List Int) ++ ((p2q0.drop cq6.1).take (cq6.2 - cq6.1))) ++ ((p3q0.drop cq5.1).take (cq5.2 - cq5.1)))))) then
  some ([.agg [((.ints .i64 []), true), ((.ints .i64 []), true)], .one ((.bool false), false)], [])
  else
  L0 fuel fuel (t0 p0 p1 p3q0 p3q1 p2q0 p2q1 cq6 cq5 0 ([])) (k0  fuel))
  else
  none)
  else
  none)
  else
  none)))))
  else
  none))
  else
  none))) := by kernel_rfl
theorem s0 (fuel n0 : Nat) (p0 : Int) (p1 : Int) (p3q0 : List Int) (p3q1 : List Int) (p2q0 : List Int) (p2q1 : List Int) (cq6 : Nat × Nat) (cq5 : Nat × Nat) (x0q5 : Int) (x0q9 : List Int) : L0 fuel (n0 + 1) (t0 p0 p1 p3q0 p3q1 p2q0 p2q1 cq6 cq5 x0q5 x0q9) (k0  fuel) =
  (cutEnds p2q0.length (none) (some (.imm (.int .i64 (IntKind.wrap .i64 (((p2q0.length : Nat) : Int) - 1)))))).bind fun cq14 =>
  (bif decide ((((p2q0.drop cq14.1).take (cq14.2 - cq14.1))).length < 9223372036854775808) then
  (bif (decide ((x0q5 : Int) < (volW (((p2q0.drop cq14.1).take (cq14.2 - cq14.1)))))) then
  L1 fuel fuel (t1 p0 p1 p3q0 p3q1 p2q0 x0q5 p2q1 cq6 cq5 0 x0q9) (k1 n0 fuel)
  else
  (bif szB (((([] : List Int) ++ ((p2q0.drop cq6.1).take (cq6.2 - cq6.1))) ++ ((p3q0.drop cq5.1).take (cq5.2 - cq5.1)))) && szB x0q9 then
  some ([.agg [((.ints .i64 (((([] : List Int) ++ ((p2q0.drop cq6.1).take (cq6.2 - cq6.1))) ++ ((p3q0.drop cq5.1).take (cq5.2 - cq5.1))))), true), ((.ints .i64 x0q9), true)], .one ((.bool true), false)], [])
  else
  none))
  else
  none) := by kernel_rfl
theorem s1 (fuel n0 n1 : Nat) (p0 : Int) (p1 : Int) (p3q0 : List Int) (p3q1 : List Int) (p2q0 : List Int) (x0q5 : Int) (p2q1 : List Int) (cq6 : Nat × Nat) (cq5 : Nat × Nat) (x1q6 : Int) (x1q10 : List Int) : L1 fuel (n1 + 1) (t1 p0 p1 p3q0 p3q1 p2q0 x0q5 p2q1 cq6 cq5 x1q6 x1q10) (k1 n0 fuel) =
  (cutEnds p3q0.length (some (.imm (.int .i64 1))) (none)).bind fun cq16 =>
  (bif decide ((((p3q0.drop cq16.1).take (cq16.2 - cq16.1))).length < 9223372036854775808) then
  (bif (decide ((x1q6 : Int) < (volW (((p3q0.drop cq16.1).take (cq16.2 - cq16.1)))))) then
  (bif axB p2q0 p2q1 ((IntKind.wrap .i64 (((p2q0.length : Nat) : Int) - 1))) && laneB p2q0 ((IntKind.wrap .i64 (((p2q0.length : Nat) : Int) - 1))) x0q5 0 then
  (bif axB p3q0 p3q1 0 && laneB p3q0 0 0 x1q6 then
  (bif szB ((lnK p2q0 p2q1 ((IntKind.wrap .i64 (((p2q0.length : Nat) : Int) - 1))) (Int.toNat x0q5) (Int.toNat 0))) then
  (bif szB ((lnK p3q0 p3q1 0 (Int.toNat 0) (Int.toNat x1q6))) then
  (bif validA ([((((lnK p2q0 p2q1 ((IntKind.wrap .i64 (((p2q0.length : Nat) : Int) - 1))) (Int.toNat x0q5) (Int.toNat 0))).length : Nat) : Int)]) (((lnK p2q0 p2q1 ((IntKind.wrap .i64 (((p2q0.length : Nat) : Int) - 1))) (Int.toNat x0q5) (Int.toNat 0)))) && validA ([((((lnK p3q0 p3q1 0 (Int.toNat 0) (Int.toNat x1q6))).length : Nat) : Int)]) (((lnK p3q0 p3q1 0 (Int.toNat 0) (Int.toNat x1q6)))) && fitB ([((((lnK p2q0 p2q1 ((IntKind.wrap .i64 (((p2q0.length : Nat) : Int) - 1))) (Int.toNat x0q5) (Int.toNat 0))).length : Nat) : Int)]) ([((((lnK p3q0 p3q1 0 (Int.toNat 0) (Int.toNat x1q6))).length : Nat) : Int)]) then
  (bif opOk p0 && decide (((cD p1 ([((((lnK p2q0 p2q1 ((IntKind.wrap .i64 (((p2q0.length : Nat) : Int) - 1))) (Int.toNat x0q5) (Int.toNat 0))).length : Nat) : Int)]) (((lnK p2q0 p2q1 ((IntKind.wrap .i64 (((p2q0.length : Nat) : Int) - 1))) (Int.toNat x0q5) (Int.toNat 0)))) ([((((lnK p3q0 p3q1 0 (Int.toNat 0) (Int.toNat x1q6))).length : Nat) : Int)]) (((lnK p3q0 p3q1 0 (Int.toNat 0) (Int.toNat x1q6)))))).length < 9223372036854775808) then
  (bif fits (x1q10.length + ([(redF p0 ((cD p1 ([((((lnK p2q0 p2q1 ((IntKind.wrap .i64 (((p2q0.length : Nat) : Int) - 1))) (Int.toNat x0q5) (Int.toNat 0))).length : Nat) : Int)]) (((lnK p2q0 p2q1 ((IntKind.wrap .i64 (((p2q0.length : Nat) : Int) - 1))) (Int.toNat x0q5) (Int.toNat 0)))) ([((((lnK p3q0 p3q1 0 (Int.toNat 0) (Int.toNat x1q6))).length : Nat) : Int)]) (((lnK p3q0 p3q1 0 (Int.toNat 0) (Int.toNat x1q6)))))))] : List Int).length) 8 then
  L1 fuel n1 (t1 p0 p1 p3q0 p3q1 p2q0 x0q5 p2q1 cq6 cq5 ((IntKind.wrap .i64 (x1q6 + 1))) ((x1q10 ++ [(redF p0 ((cD p1 ([((((lnK p2q0 p2q1 ((IntKind.wrap .i64 (((p2q0.length : Nat) : Int) - 1))) (Int.toNat x0q5) (Int.toNat 0))).length : Nat) : Int)]) (((lnK p2q0 p2q1 ((IntKind.wrap .i64 (((p2q0.length : Nat) : Int) - 1))) (Int.toNat x0q5) (Int.toNat 0)))) ([((((lnK p3q0 p3q1 0 (Int.toNat 0) (Int.toNat x1q6))).length : Nat) : Int)]) (((lnK p3q0 p3q1 0 (Int.toNat 0) (Int.toNat x1q6)))))))]))) (k1 n0 fuel)
  else
  none)
  else
  none)
  else
  none)
  else
  none)
  else
  none)
  else
  none)
  else
  none)
  else
  L0 fuel n0 (t0 p0 p1 p3q0 p3q1 p2q0 p2q1 cq6 cq5 ((IntKind.wrap .i64 (x0q5 + 1))) x1q10) (k0  fuel))
  else
  none) := by kernel_rfl
end spec_InnerProduct
theorem spec_InnerProduct.ok_of (hX : ∀ E ∈ spec_InnerProduct.X, CallSpec Try.prog E) (h : ∀ (f : Int) (g : Int) (sa : List Int) (da : List Int) (sb : List Int) (db : List Int), (decide (sa.length < 9223372036854775808) && decide (da.length < 9223372036854775808) && decide (sb.length < 9223372036854775808) && decide (db.length < 9223372036854775808)) = true → ∃ fuel, runF Try.prog spec_InnerProduct.X spec_InnerProduct.I 0 fuel 29 Try.f29 [.d (.int .i64 f), .d (.int .i64 g), .d (.agg [(.ints .i64 sa), (.ints .i64 da)]), .d (.agg [(.ints .i64 sb), (.ints .i64 db)])] = some ([.agg [((.ints .i64 (inS f g sa da sb db)), true), ((.ints .i64 (inD f g sa da sb db)), true)], .one ((.bool (inB f g sa da sb db)), false)], [])) : CallSpec Try.prog spec_InnerProduct.E :=
  callSpec_of (d := 0) hX (by kernel_rfl) spec_InnerProduct.I_ok (by kernel_rfl) (by kernel_rfl) (by kernel_rfl) (fun _ _ _ _ h => by dsimp only [spec_InnerProduct.E] at h; cases h) (fun xs hp => by
    dsimp only [spec_InnerProduct.E] at hp ⊢
    split at hp
    · exact h _ _ _ _ _ _ hp
    · cases hp)
theorem spec_InnerProduct.inner (fuel n0 : Nat) (f g : Int) (sa da sb db : List Int) (hb : inB f g sa da sb db = true) (hf : 3600 < fuel) (c6 c5 : Nat × Nat) (i : Nat) (hi : i < befN sa (sa.length - 1)) :
    spec_InnerProduct.L1 fuel fuel (spec_InnerProduct.t1 f g sb db sa (i : Int) da c6 c5 0 ((inN f g sa da sb db).take (i * behN sb 0))) (spec_InnerProduct.k1 n0 fuel) = spec_InnerProduct.L0 fuel n0 (spec_InnerProduct.t0 f g sb db sa da c6 c5 ((IntKind.wrap .i64 ((i : Int) + 1))) ((inN f g sa da sb db).take ((i + 1) * behN sb 0))) (spec_InnerProduct.k0 fuel) := by
  obtain ⟨hA, hvs, hvol, h60⟩ := inB_A hb
  obtain ⟨a1, a2, a3, a4, a5, a6, a7⟩ := inA_inv hA
  simp only [inB, Bool.and_eq_true] at hb
  obtain ⟨ja, hja, hja2, hva, axa, hda, _⟩ := axB_inv a1
  obtain ⟨jb, hjb, hjb2, hvb, axb, hdb, _⟩ := axB_inv a2
  have hja3 : ja = sa.length - 1 := by omega
  have hjb3 : jb = 0 := by omega
  subst hja3
  subst hjb3
  have hr := axa.rank
  have hrb := axb.rank
  have hM := axb.beh_le
  have hLa := axa.len_le
  have hlN : (inN f g sa da sb db).length = befN sa (sa.length - 1) * behN sb 0 := by simp only [inN, tab_length, inSh_prod]
  have hprod := inSh_prod (sa := sa) (sb := sb)
  have hK : IntKind.wrap .i64 (((sa.length : Nat) : Int) - 1) = inK sa := by unfold inK; rw [wS (by omega) (by omega)]
  have c2 := cut_one (n := sb.length) (by omega)
  have hdr : (sb.drop 1).take (sb.length - 1) = sb.drop 1 := drop_take
  have hvd := axb.beh
  refine run_loop (N := behN sb 0) (fun n m out => spec_InnerProduct.L1 fuel n (spec_InnerProduct.t1 f g sb db sa (i : Int) da c6 c5 (m : Int) out) (spec_InnerProduct.k1 n0 fuel)) (fun m out => out = (inN f g sa da sb db).take (i * behN sb 0 + m)) ?_ ?_ fuel 0 _ (by omega) (by omega) rfl
  · intro n out ho
    rw [spec_InnerProduct.s1, c2]
    simp only [Option.bind_some, hdr]
    rw [lt_of (by simp only [List.length_drop]; omega), cond_true, hvd, dge (by omega), cond_false, ho, Nat.add_mul, Nat.one_mul]
  · intro n m out hm ho
    obtain ⟨e1, e2, e3⟩ := enc2 hi hm
    have hol : out.length = i * behN sb 0 + m := by rw [ho, take_len (by omega)]
    have hx : lnK sa da (inK sa) i 0 = inX sa da sb (i * behN sb 0 + m) := by rw [inX, e2]
    have hy : lnK sb db 0 0 m = inY sb db (i * behN sb 0 + m) := by rw [inY, e3]
    have l1 := inX_length (sa := sa) (da := da) (sb := sb) (n := i * behN sb 0 + m) a5
    have l2 := inY_length (sb := sb) (db := db) (n := i * behN sb 0 + m)
    have hl1 : laneB sa (inK sa) (i : Int) 0 = true := by
      simp only [laneB, a6, Int.toNat_natCast, a7, Bool.and_eq_true, decide_eq_true_eq]
      refine ⟨⟨⟨by omega, by omega⟩, by omega⟩, by omega⟩
    have hl2 : laneB sb 0 0 (m : Int) = true := by
      simp only [laneB, show (0 : Int).toNat = 0 from rfl, show befN sb 0 = 1 from rfl, Bool.and_eq_true, decide_eq_true_eq]
      refine ⟨⟨⟨by omega, by omega⟩, by omega⟩, by omega⟩
    obtain ⟨x1, x2, x3, x4, x5⟩ := inX_eq hA (n := i * behN sb 0 + m) (by omega)
    have v1 := lnD_valid hva hja2 (i := i) (m := 0) hi (by omega)
    have v2 := lnD_valid hvb hjb2 (i := 0) (m := m) (by rw [x5]; omega) hm
    rw [e2] at x1
    rw [e3] at x2
    rw [← x1] at v1
    rw [← x2] at v2
    have v1' : validA [(((inX sa da sb (i * behN sb 0 + m)).length : Nat) : Int)] (inX sa da sb (i * behN sb 0 + m)) = true := by rw [l1]; exact v1
    have v2' : validA [(((inY sb db (i * behN sb 0 + m)).length : Nat) : Int)] (inY sb db (i * behN sb 0 + m)) = true := by rw [l2]; exact v2
    have hfit : fitB [(((inX sa da sb (i * behN sb 0 + m)).length : Nat) : Int)] [(((inY sb db (i * behN sb 0 + m)).length : Nat) : Int)] = true := by
      rw [l1, l2, a3]
      simp [fitB]
    have hcd := cD_vec g (ys := inY sb db (i * behN sb 0 + m)) v1' (by omega)
    rw [spec_InnerProduct.s1, c2]
    simp only [Option.bind_some, hdr, hK, Int.toNat_natCast, show Int.toNat 0 = 0 from rfl]
    rw [lt_of (by simp only [List.length_drop]; omega), cond_true, hvd, dlt hm, cond_true, a1, a2, hl1, hl2, hx, hy, szB_of (by omega), szB_of (by omega), v1', v2', hfit, hcd, hb.1.1.1.1.1, lt_of (by rw [pwD_q2, tab_length]; omega), w1 (by omega)]
    simp only [Bool.and_self, cond_true]
    rw [fitsOk (by simp only [List.length_cons, List.length_nil]; omega), cond_true]
    refine ⟨_, ?_, rfl⟩
    rw [ho]
    refine take_push (by omega) ?_
    simp only [inN]
    rw [tab_getD (by omega)]
    rfl
theorem spec_InnerProduct.loop (fuel : Nat) (f g : Int) (sa da sb db : List Int) (hb : inB f g sa da sb db = true) (hf : 3600 < fuel) :
    spec_InnerProduct.L0 fuel fuel (spec_InnerProduct.t0 f g sb db sa da (0, sa.length - 1) (1, sb.length) 0 []) (spec_InnerProduct.k0 fuel) = some ([.agg [((.ints .i64 (inSh sa sb)), true), ((.ints .i64 (inN f g sa da sb db)), true)], .one ((.bool true), false)], []) := by
  obtain ⟨hA, hvs, hvol, h60⟩ := inB_A hb
  obtain ⟨a1, a2, a3, a4, a5, a6, a7⟩ := inA_inv hA
  obtain ⟨ja, hja, hja2, hva, axa, hda, _⟩ := axB_inv a1
  obtain ⟨jb, hjb, hjb2, hvb, axb, hdb, _⟩ := axB_inv a2
  have hja3 : ja = sa.length - 1 := by omega
  subst hja3
  have hr := axa.rank
  have hrb := axb.rank
  have hM := axa.bef_le
  have hK : IntKind.wrap .i64 (((sa.length : Nat) : Int) - 1) = ((sa.length - 1 : Nat) : Int) := by rw [wS (by omega) (by omega)]; omega
  have c1 : cutEnds sa.length none (some (.imm (.int .i64 ((sa.length - 1 : Nat) : Int)))) = some (0, sa.length - 1) := cut_hi (by omega)
  have hlN : (inN f g sa da sb db).length = befN sa (sa.length - 1) * behN sb 0 := by simp only [inN, tab_length, inSh_prod]
  have hprod := inSh_prod (sa := sa) (sb := sb)
  have htk : (sa.drop 0).take (sa.length - 1 - 0) = sa.take (sa.length - 1) := by rw [List.drop_zero, Nat.sub_zero]
  have hvt := axa.bef
  refine run_loop (N := befN sa (sa.length - 1)) (fun n i out => spec_InnerProduct.L0 fuel n (spec_InnerProduct.t0 f g sb db sa da (0, sa.length - 1) (1, sb.length) (i : Int) out) (spec_InnerProduct.k0 fuel)) (fun i out => out = (inN f g sa da sb db).take (i * behN sb 0)) ?_ ?_ fuel 0 _ (by omega) (by omega) (by simp)
  · intro n out ho
    rw [← hlN, List.take_length] at ho
    rw [spec_InnerProduct.s0, hK, c1]
    simp only [Option.bind_some, htk]
    rw [lt_of (by simp only [List.length_take]; omega), cond_true, hvt, dge (by omega), cond_false, List.nil_append, ← htk, in_parts, szB_of (by simp only [inSh, List.length_append, List.length_take, List.length_drop]; omega), szB_of (by rw [ho]; omega), ho]
    rfl
  · intro n i out hi ho
    rw [spec_InnerProduct.s0, hK, c1]
    simp only [Option.bind_some, htk]
    rw [lt_of (by simp only [List.length_take]; omega), cond_true, hvt, dlt hi, cond_true, ho, spec_InnerProduct.inner fuel n f g sa da sb db hb hf _ _ i hi, w1 (by omega)]
    exact ⟨_, rfl, rfl⟩
theorem spec_InnerProduct.ok : CallSpec Try.prog spec_InnerProduct.E := spec_InnerProduct.ok_of (by simp [spec_InnerProduct.X, spec_validOp.ok, spec_valid.ok, spec_validShape.ok, spec_volume.ok, spec_lane.ok, spec_vector.ok, spec_combine.ok, spec_fold.ok, spec_make1.ok]) fun f g sa da sb db h => by
  obtain ⟨F, hF⟩ : ∃ F : Nat, 3600 < F := ⟨3601, by omega⟩
  refine ⟨F, ?_⟩
  simp only [Bool.and_eq_true] at h
  rw [spec_InnerProduct.e, h.1.1.1, h.1.1.2, h.1.2, h.2]
  unfold inS inD
  cases h1 : opOk f with
  | false => simp only [inB, h1]; rfl
  | true =>
    cases h2 : opOk g with
    | false => simp only [inB, h1, h2]; rfl
    | true =>
      cases h3 : validA sa da with
      | false => simp only [inB, h1, h2, axB, h3]; rfl
      | true =>
        cases h4 : validA sb db with
        | false => simp only [inB, h1, h2, axB, h3, h4, Bool.false_and, Bool.and_false]; rfl
        | true =>
          have hr := (validS_inv (validA_inv h3).1).1
          have hrb := (validS_inv (validA_inv h4).1).1
          by_cases h5 : sa.length = 0
          · have : inB f g sa da sb db = false := by
              have : axOk sa (inK sa) = false := by simp only [axOk, inK]; simp; omega
              simp only [inB, axB, this, Bool.and_false, Bool.false_and]
            rw [this, h5]; rfl
          · have q5 : (((sa.length : Nat) : Int) == 0) = false := by rw [beq_eq_false_iff_ne]; omega
            by_cases h6 : sb.length = 0
            · have : inB f g sa da sb db = false := by
                have : axOk sb 0 = false := by rw [axOk, decide_eq_false (p := (0 : Int) < ((sb.length : Nat) : Int)) (by omega), Bool.and_false]
                simp only [inB, axB, this, Bool.and_false, Bool.false_and]
              rw [this, h6, q5]; rfl
            · have q6 : (((sb.length : Nat) : Int) == 0) = false := by rw [beq_eq_false_iff_ne]; omega
              have a1 : axB sa da (inK sa) = true := by
                rw [show inK sa = ((sa.length - 1 : Nat) : Int) by unfold inK; omega]; exact axB_of h3 (by omega)
              have a2 : axB sb db 0 = true := axB_of (k := 0) h4 (by omega)
              have axa := ax_of (validA_inv h3).1 (k := sa.length - 1) (by omega)
              have axb := ax_of (validA_inv h4).1 (k := 0) (by omega)
              have hK : IntKind.wrap .i64 (((sa.length : Nat) : Int) - 1) = ((sa.length - 1 : Nat) : Int) := by rw [wS (by omega) (by omega)]; omega
              have i0 : idx 0 sb.length = some 0 := idx_nat (j := 0) (by omega)
              have c1 : cutEnds sa.length none (some (.imm (.int .i64 ((sa.length - 1 : Nat) : Int)))) = some (0, sa.length - 1) := cut_hi (by omega)
              have c2 := cut_one (n := sb.length) (by omega)
              have g1 := getD_get (A := sa) (n := sa.length - 1) (by omega)
              have g2 := getD_get (A := sb) (n := 0) (by omega)
              rw [axa.len] at g1
              rw [axb.len] at g2
              rw [q5, q6, hK, idx_nat (j := sa.length - 1) (by omega), i0]
              simp only [Option.bind_some, g1, g2, c1, c2]
              by_cases h7 : lenN sa (sa.length - 1) = lenN sb 0
              · have hne : (((lenN sb 0 : Nat) : Int) != ((lenN sb 0 : Nat) : Int)) = false := by simp
                rw [h7, hne, fitsOk (by simp only [List.length_nil, List.length_take, List.length_drop]; omega), fitsOk (by simp only [List.length_nil, List.nil_append, List.length_take, List.length_drop]; omega), List.nil_append, in_parts, lt_of (by simp only [inSh, List.length_append, List.length_take, List.length_drop]; omega)]
                cases h8 : validS (inSh sa sb) with
                | false =>
                  have : inB f g sa da sb db = false := by simp only [inB, h8, Bool.and_false]
                  rw [this]; rfl
                | true =>
                  have hb : inB f g sa da sb db = true := by simp only [inB, h1, h2, a1, a2, h7, h8, decide_true, Bool.and_self]
                  rw [hb]
                  exact spec_InnerProduct.loop F f g sa da sb db hb hF
              · have hne : (((lenN sa (sa.length - 1) : Nat) : Int) != ((lenN sb 0 : Nat) : Int)) = true := by simp; omega
                have : inB f g sa da sb db = false := by simp only [inB, decide_eq_false h7, Bool.and_false, Bool.false_and]
                rw [hne, this]; rfl

namespace laws_equalInts
noncomputable def E : Entry := ⟨14, true, false, fun | [.d (.ints .i64 xs), .d (.ints .i64 ys)] => decide (xs.length < 9223372036854775808) && decide (ys.length < 9223372036854775808) | _ => false, fun | [.d (.ints .i64 xs), .d (.ints .i64 ys)] => ([.one ((.bool (decide (xs = ys))), false)], []) | _ => ([], []), fun _ => [], false, fun _ => none⟩
end laws_equalInts
namespace laws_equalInts
noncomputable def X : List Entry := []
noncomputable def I : List Inl := [⟨14, Try.f14, ⟨[], [(1000004, [2, 3, 4, 6, 7, 8, 9, 10, 11, 12, 13, 14, 15, 16, 17, 18, 19, 20, 21, 22, 23, 24, 25])], [], [(6, [0, 1, 4, 5, 2, 3, 6, 7, 8])], [], []⟩⟩]
theorem I_ok : ∀ i ∈ I, Try.prog.funcs[i.f]? = some i.fn ∧ (i.fn.name == "runtime.NumGoroutine") = false := by
  intro i hi
  simp only [I, List.mem_cons, List.not_mem_nil, or_false] at hi
  subst hi
  exact ⟨by kernel_rfl, by kernel_rfl⟩
noncomputable abbrev L0 (fuel n : Nat) (s : St) (k : Kont) := lAt Try.prog X I fuel true 0 false 14 (bodyOf Try.f14) [1, 1, 0, 1, 0] n s k
noncomputable abbrev k0  (fuel : Nat) : Kont := (kAt Try.prog X I fuel true 0 false 14 (bodyOf Try.f14) [1, 1, 0, 1, 0] [] (endK Try.prog Try.f14))
noncomputable def t0 (p0 : List Int) (p1 : List Int) (x0q2 : Int) : St := ⟨[(.imm (.ints .i64 p0)), (.imm (.ints .i64 p1)), .dead, .dead, .dead, (.imm (.int .i64 x0q2)), .dead, .dead, .dead, .dead, .dead, .dead, .dead, .dead, .dead, .dead, .dead, .dead, .dead, .dead, .dead, .dead, .dead, .dead, .dead, .dead], hOf [], [], []⟩
theorem e (fuel : Nat) (p0 : List Int) (p1 : List Int) : runF Try.prog X I 0 fuel 14 Try.f14 [.d (.ints .i64 p0), .d (.ints .i64 p1)] =
  (bif ((((p0.length : Nat) : Int) : Int) != ((p1.length : Nat) : Int)) then
  some ([.one ((.bool false), false)], [])
  else
  L0 fuel fuel (t0 p0 p1 0) (k0  fuel)) := by kernel_rfl
theorem s0 (fuel n0 : Nat) (p0 : List Int) (p1 : List Int) (x0q2 : Int) : L0 fuel (n0 + 1) (t0 p0 p1 x0q2) (k0  fuel) =
  (bif (decide ((x0q2 : Int) < ((p0.length : Nat) : Int))) then
  (idx x0q2 p0.length).bind fun j9 =>
  (p0[j9]?).bind fun v10 =>
  (idx x0q2 p1.length).bind fun j11 =>
  (p1[j11]?).bind fun v12 =>
  (bif ((v10 : Int) != v12) then
  some ([.one ((.bool false), false)], [])
  else
  L0 fuel n0 (t0 p0 p1 ((IntKind.wrap .i64 (x0q2 + 1)))) (k0  fuel))
  else
  some ([.one ((.bool true), false)], [])) := by kernel_rfl
end laws_equalInts
theorem laws_equalInts.ok_of (hX : ∀ E ∈ laws_equalInts.X, CallSpec Try.prog E) (h : ∀ (xs : List Int) (ys : List Int), (decide (xs.length < 9223372036854775808) && decide (ys.length < 9223372036854775808)) = true → ∃ fuel, runF Try.prog laws_equalInts.X laws_equalInts.I 0 fuel 14 Try.f14 [.d (.ints .i64 xs), .d (.ints .i64 ys)] = some ([.one ((.bool (decide (xs = ys))), false)], [])) : CallSpec Try.prog laws_equalInts.E :=
  callSpec_of (d := 0) hX (by kernel_rfl) laws_equalInts.I_ok (by kernel_rfl) (by kernel_rfl) (by kernel_rfl) (fun _ _ _ _ h => by dsimp only [laws_equalInts.E] at h; cases h) (fun xs hp => by
    dsimp only [laws_equalInts.E] at hp ⊢
    split at hp
    · exact h _ _ hp
    · cases hp)
theorem laws_equalInts.loop (fuel : Nat) (xs ys : List Int) (hl : xs.length = ys.length) (hx : xs.length < 9223372036854775808) : ∀ (m n j : Nat), xs.length - j = m → m < n → j ≤ xs.length →
    laws_equalInts.L0 fuel n (laws_equalInts.t0 xs ys (j : Int)) (laws_equalInts.k0 fuel) = some ([.one (.bool (decide (xs.drop j = ys.drop j)), false)], []) := by
  intro m
  induction m with
  | zero =>
    intro n j h1 h2 h3
    obtain ⟨n, rfl⟩ : ∃ n', n = n' + 1 := ⟨n - 1, by omega⟩
    have hj : ¬ j < xs.length := by omega
    rw [laws_equalInts.s0, dge hj, dropE hj, dropE (xs := ys) (by omega)]
    rfl
  | succ m ih =>
    intro n j h1 h2 h3
    obtain ⟨n, rfl⟩ : ∃ n', n = n' + 1 := ⟨n - 1, by omega⟩
    have hj : j < xs.length := by omega
    have hj2 : j < ys.length := by omega
    rw [laws_equalInts.s0, dlt hj, idx_nat hj, idx_nat hj2, w1 (by omega), dropS hj, dropS hj2]
    simp only [cond_true, Option.bind_some, getS hj, getS hj2]
    rw [ih n (j + 1) (by omega) (by omega) (by omega)]
    by_cases hv : xs[j] = ys[j]
    · rw [hv]
      simp only [bne_self_eq_false, cond_false, List.cons.injEq, true_and]
    · have : (xs[j] != ys[j]) = true := by simp [hv]
      rw [this]
      simp only [cond_true, List.cons.injEq, hv, false_and, decide_false]

theorem laws_equalInts.ok : CallSpec Try.prog laws_equalInts.E := laws_equalInts.ok_of (by simp [laws_equalInts.X]) fun xs ys h => by
  simp only [Bool.and_eq_true, decide_eq_true_eq] at h
  refine ⟨xs.length + 1, ?_⟩
  rw [laws_equalInts.e]
  by_cases hl : xs.length = ys.length
  · have := laws_equalInts.loop (xs.length + 1) xs ys hl h.1 xs.length (xs.length + 1) 0 (by omega) (by omega) (by omega)
    simp only [List.drop_zero] at this
    simp only [hl, bne_self_eq_false, cond_false]
    rw [← hl]
    exact this
  · have hne : xs ≠ ys := fun e => hl (e ▸ rfl)
    have : (((xs.length : Nat) : Int) != ((ys.length : Nat) : Int)) = true := by simp; omega
    rw [this]
    simp [hne]

namespace laws_equalArray
noncomputable def E : Entry := ⟨12, true, false, fun | [.d (.agg [(.ints .i64 sa), (.ints .i64 da)]), .d (.agg [(.ints .i64 sb), (.ints .i64 db)])] => decide (sa.length < 9223372036854775808) && decide (da.length < 9223372036854775808) && decide (sb.length < 9223372036854775808) && decide (db.length < 9223372036854775808) | _ => false, fun | [.d (.agg [(.ints .i64 sa), (.ints .i64 da)]), .d (.agg [(.ints .i64 sb), (.ints .i64 db)])] => ([.one ((.bool (decide (sa = sb) && decide (da = db))), false)], []) | _ => ([], []), fun _ => [], false, fun _ => none⟩
end laws_equalArray
namespace laws_equalArray
noncomputable def X : List Entry := [laws_equalInts.E]
noncomputable def I : List Inl := [⟨12, Try.f12, ⟨[], [], [], [], [], []⟩⟩]
theorem I_ok : ∀ i ∈ I, Try.prog.funcs[i.f]? = some i.fn ∧ (i.fn.name == "runtime.NumGoroutine") = false := by
  intro i hi
  simp only [I, List.mem_cons, List.not_mem_nil, or_false] at hi
  subst hi
  exact ⟨by kernel_rfl, by kernel_rfl⟩
theorem e (fuel : Nat) (p0q0 : List Int) (p0q1 : List Int) (p1q0 : List Int) (p1q1 : List Int) : runF Try.prog X I 0 fuel 12 Try.f12 [.d (.agg [(.ints .i64 p0q0), (.ints .i64 p0q1)]), .d (.agg [(.ints .i64 p1q0), (.ints .i64 p1q1)])] =
  (bif decide (p0q0.length < 9223372036854775808) && decide (p1q0.length < 9223372036854775808) then
  (bif (decide (p0q0 = p1q0)) then
  (bif decide (p0q1.length < 9223372036854775808) && decide (p1q1.length < 9223372036854775808) then
  some ([.one ((.bool (decide (p0q1 = p1q1))), false)], [])
  else
  none)
  else
  some ([.one ((.bool false), false)], []))
  else
  none) := by kernel_rfl
end laws_equalArray
theorem laws_equalArray.ok_of (hX : ∀ E ∈ laws_equalArray.X, CallSpec Try.prog E) (h : ∀ (sa : List Int) (da : List Int) (sb : List Int) (db : List Int), (decide (sa.length < 9223372036854775808) && decide (da.length < 9223372036854775808) && decide (sb.length < 9223372036854775808) && decide (db.length < 9223372036854775808)) = true → ∃ fuel, runF Try.prog laws_equalArray.X laws_equalArray.I 0 fuel 12 Try.f12 [.d (.agg [(.ints .i64 sa), (.ints .i64 da)]), .d (.agg [(.ints .i64 sb), (.ints .i64 db)])] = some ([.one ((.bool (decide (sa = sb) && decide (da = db))), false)], [])) : CallSpec Try.prog laws_equalArray.E :=
  callSpec_of (d := 0) hX (by kernel_rfl) laws_equalArray.I_ok (by kernel_rfl) (by kernel_rfl) (by kernel_rfl) (fun _ _ _ _ h => by dsimp only [laws_equalArray.E] at h; cases h) (fun xs hp => by
    dsimp only [laws_equalArray.E] at hp ⊢
    split at hp
    · exact h _ _ _ _ hp
    · cases hp)
theorem laws_equalArray.ok : CallSpec Try.prog laws_equalArray.E := laws_equalArray.ok_of (by simp [laws_equalArray.X, laws_equalInts.ok]) fun sa da sb db h => ⟨0, by
  simp only [Bool.and_eq_true, decide_eq_true_eq] at h
  obtain ⟨⟨⟨h1, h2⟩, h3⟩, h4⟩ := h
  rw [laws_equalArray.e]
  simp only [h1, h2, h3, h4, decide_true, Bool.and_self, cond_true]
  cases decide (sa = sb) <;> cases decide (da = db) <;> rfl⟩

namespace impl_RankOf
noncomputable def E : Entry := ⟨30, true, false, fun | [.d (.agg [(.ints .i64 sh), (.ints .i64 da)])] => decide (sh.length < 9223372036854775808) && decide (da.length < 9223372036854775808) | _ => false, fun | [.d (.agg [(.ints .i64 sh), (.ints .i64 da)])] => ([.one ((.int .i64 (rankV sh da)), false)], []) | _ => ([], []), fun _ => [], false, fun _ => none⟩
end impl_RankOf
namespace impl_RankOf
noncomputable def X : List Entry := [impl_ValidArray.E]
noncomputable def I : List Inl := [⟨30, Try.f30, ⟨[], [], [], [], [], []⟩⟩]
theorem I_ok : ∀ i ∈ I, Try.prog.funcs[i.f]? = some i.fn ∧ (i.fn.name == "runtime.NumGoroutine") = false := by
  intro i hi
  simp only [I, List.mem_cons, List.not_mem_nil, or_false] at hi
  subst hi
  exact ⟨by kernel_rfl, by kernel_rfl⟩
theorem e (fuel : Nat) (p0q0 : List Int) (p0q1 : List Int) : runF Try.prog X I 0 fuel 30 Try.f30 [.d (.agg [(.ints .i64 p0q0), (.ints .i64 p0q1)])] =
  (bif decide (p0q0.length < 9223372036854775808) && decide (p0q1.length < 9223372036854775808) then
  (bif (!(validA p0q0 p0q1)) then
  some ([.one ((.int .i64 (-1)), false)], [])
  else
  some ([.one ((.int .i64 ((p0q0.length : Nat) : Int)), false)], []))
  else
  none) := by kernel_rfl
end impl_RankOf
theorem impl_RankOf.ok_of (hX : ∀ E ∈ impl_RankOf.X, CallSpec Try.prog E) (h : ∀ (sh : List Int) (da : List Int), (decide (sh.length < 9223372036854775808) && decide (da.length < 9223372036854775808)) = true → ∃ fuel, runF Try.prog impl_RankOf.X impl_RankOf.I 0 fuel 30 Try.f30 [.d (.agg [(.ints .i64 sh), (.ints .i64 da)])] = some ([.one ((.int .i64 (rankV sh da)), false)], [])) : CallSpec Try.prog impl_RankOf.E :=
  callSpec_of (d := 0) hX (by kernel_rfl) impl_RankOf.I_ok (by kernel_rfl) (by kernel_rfl) (by kernel_rfl) (fun _ _ _ _ h => by dsimp only [impl_RankOf.E] at h; cases h) (fun xs hp => by
    dsimp only [impl_RankOf.E] at hp ⊢
    split at hp
    · exact h _ _ hp
    · cases hp)
theorem impl_RankOf.ok : CallSpec Try.prog impl_RankOf.E := impl_RankOf.ok_of (by simp [impl_RankOf.X, impl_ValidArray.ok]) fun sh da h => ⟨0, by
  rw [impl_RankOf.e, h]
  unfold rankV
  cases validA sh da <;> rfl⟩

namespace impl_copyList
noncomputable def E : Entry := ⟨38, false, false, fun | [.d (.ints .i64 xs)] => szB xs | _ => false, fun | [.d (.ints .i64 xs)] => ([.one ((.ints .i64 xs), true)], []) | _ => ([], []), fun _ => [], true, fun _ => none⟩
end impl_copyList
namespace impl_copyList
noncomputable def X : List Entry := []
noncomputable def I : List Inl := [⟨38, Try.f38, ⟨[], [], [], [], [], []⟩⟩]
theorem I_ok : ∀ i ∈ I, Try.prog.funcs[i.f]? = some i.fn ∧ (i.fn.name == "runtime.NumGoroutine") = false := by
  intro i hi
  simp only [I, List.mem_cons, List.not_mem_nil, or_false] at hi
  subst hi
  exact ⟨by kernel_rfl, by kernel_rfl⟩
theorem e (fuel : Nat) (p0 : List Int) : runF Try.prog X I 0 fuel 38 Try.f38 [.d (.ints .i64 p0)] =
  (bif decide (0 ≤ (((p0.length : Nat) : Int) : Int)) && decide ((((p0.length : Nat) : Int) : Int) ≤ ((p0.length : Nat) : Int)) && decide ((((p0.length : Nat) : Int) : Int) ≤ 1152921504606846976) && decide (((8 : Nat) : Int) * ((p0.length : Nat) : Int) ≤ 281474976710656) then
  some ([.one ((.ints .i64 (copyL (List.replicate (((p0.length : Nat) : Int)).toNat (0 : Int)) 0 (List.replicate (((p0.length : Nat) : Int)).toNat (0 : Int)).length p0)), true)], [])
  else
  none) := by kernel_rfl
end impl_copyList
theorem impl_copyList.ok_of (hX : ∀ E ∈ impl_copyList.X, CallSpec Try.prog E) (h : ∀ (xs : List Int), (szB xs) = true → ∃ fuel, runF Try.prog impl_copyList.X impl_copyList.I 0 fuel 38 Try.f38 [.d (.ints .i64 xs)] = some ([.one ((.ints .i64 xs), true)], [])) : CallSpec Try.prog impl_copyList.E :=
  callSpec_of (d := 0) hX (by kernel_rfl) impl_copyList.I_ok (by kernel_rfl) (by kernel_rfl) (by kernel_rfl) (fun _ _ _ _ h => by dsimp only [impl_copyList.E] at h; cases h) (fun xs hp => by
    dsimp only [impl_copyList.E] at hp ⊢
    split at hp
    · exact h _ hp
    · cases hp)
theorem impl_copyList.ok : CallSpec Try.prog impl_copyList.E := impl_copyList.ok_of (by simp [impl_copyList.X]) fun xs h => ⟨0, by
  have hx := szB_le h
  rw [impl_copyList.e, mkOk (by omega) (by omega)]
  simp only [cond_true, Int.toNat_natCast, copyL_all]⟩

namespace impl_CellOf
noncomputable def E : Entry := ⟨10, false, false, fun | [.d (.agg [(.ints .i64 sh), (.ints .i64 da)]), .d (.int .i64 n)] => decide (sh.length < 9223372036854775808) && decide (da.length < 9223372036854775808) | _ => false, fun | [.d (.agg [(.ints .i64 sh), (.ints .i64 da)]), .d (.int .i64 n)] => ([.agg [((.ints .i64 (ceS sh da n)), true), ((.ints .i64 (ceD sh da n)), true)], .one ((.bool (ceB sh da n)), false)], []) | _ => ([], []), fun _ => [], true, fun _ => none⟩
end impl_CellOf
namespace impl_CellOf
noncomputable def X : List Entry := [impl_axisLength.E, impl_copyList.E]
noncomputable def I : List Inl := [⟨10, Try.f10, ⟨[34, 45], [], [], [(5, [0, 4, 6, 7, 8, 9, 10, 11, 12, 1, 2, 5, 13, 3, 14, 15, 16, 17])], [], []⟩⟩]
theorem I_ok : ∀ i ∈ I, Try.prog.funcs[i.f]? = some i.fn ∧ (i.fn.name == "runtime.NumGoroutine") = false := by
  intro i hi
  simp only [I, List.mem_cons, List.not_mem_nil, or_false] at hi
  subst hi
  exact ⟨by kernel_rfl, by kernel_rfl⟩
theorem e (fuel : Nat) (p0q0 : List Int) (p0q1 : List Int) (p1 : Int) : runF Try.prog X I 0 fuel 10 Try.f10 [.d (.agg [(.ints .i64 p0q0), (.ints .i64 p0q1)]), .d (.int .i64 p1)] =
  (bif decide (p0q0.length < 9223372036854775808) && decide (p0q1.length < 9223372036854775808) then
  (bif (!(axB p0q0 p0q1 0)) then
  some ([.agg [((.ints .i64 []), true), ((.ints .i64 []), true)], .one ((.bool false), false)], [])
  else
  (bif (decide ((p1 : Int) < 0)) then
  some ([.agg [((.ints .i64 []), true), ((.ints .i64 []), true)], .one ((.bool false), false)], [])
  else
  (bif (decide ((p1 : Int) ≥ (axL p0q0 p0q1 0))) then
  some ([.agg [((.ints .i64 []), true), ((.ints .i64 []), true)], .one ((.bool false), false)], [])
  else
  (bif decide (((axL p0q0 p0q1 0) : Int) = 0) then
  none
  else
  (cutEnds p0q0.length (some (.imm (.int .i64 1))) (none)).bind fun cq1 =>
  (cutEnds p0q1.length (some (.imm (.int .i64 (IntKind.wrap .i64 (p1 * (IntKind.wrap .i64 (Int.tdiv ((p0q1.length : Nat) : Int) (axL p0q0 p0q1 0)))))))) (some (.imm (.int .i64 (IntKind.wrap .i64 ((IntKind.wrap .i64 (p1 + 1)) * (IntKind.wrap .i64 (Int.tdiv ((p0q1.length : Nat) : Int) (axL p0q0 p0q1 0))))))))).bind fun cq2 =>
  (bif szB (((p0q0.drop cq1.1).take (cq1.2 - cq1.1))) then
  (bif szB (((p0q1.drop cq2.1).take (cq2.2 - cq2.1))) then
  some ([.agg [((.ints .i64 (((p0q0.drop cq1.1).take (cq1.2 - cq1.1)))), true), ((.ints .i64 (((p0q1.drop cq2.1).take (cq2.2 - cq2.1)))), true)], .one ((.bool true), false)], [])
  else
  none)
  else
  none)))))
  else
  none) := by kernel_rfl
end impl_CellOf
theorem impl_CellOf.ok_of (hX : ∀ E ∈ impl_CellOf.X, CallSpec Try.prog E) (h : ∀ (sh : List Int) (da : List Int) (n : Int), (decide (sh.length < 9223372036854775808) && decide (da.length < 9223372036854775808)) = true → ∃ fuel, runF Try.prog impl_CellOf.X impl_CellOf.I 0 fuel 10 Try.f10 [.d (.agg [(.ints .i64 sh), (.ints .i64 da)]), .d (.int .i64 n)] = some ([.agg [((.ints .i64 (ceS sh da n)), true), ((.ints .i64 (ceD sh da n)), true)], .one ((.bool (ceB sh da n)), false)], [])) : CallSpec Try.prog impl_CellOf.E :=
  callSpec_of (d := 0) hX (by kernel_rfl) impl_CellOf.I_ok (by kernel_rfl) (by kernel_rfl) (by kernel_rfl) (fun _ _ _ _ h => by dsimp only [impl_CellOf.E] at h; cases h) (fun xs hp => by
    dsimp only [impl_CellOf.E] at hp ⊢
    split at hp
    · exact h _ _ _ hp
    · cases hp)
theorem impl_CellOf.ok : CallSpec Try.prog impl_CellOf.E := impl_CellOf.ok_of (by simp [impl_CellOf.X, impl_axisLength.ok, impl_copyList.ok]) fun sh da n h => ⟨0, by
  rw [impl_CellOf.e, h]
  unfold ceS ceD
  cases hb : axB sh da 0 with
  | false =>
    have : ceB sh da n = false := by simp only [ceB, hb, Bool.false_and]
    rw [this]; rfl
  | true =>
    obtain ⟨hj, hv, ax, hd, hl⟩ := axB_zero hb
    have hr := ax.rank
    have hL := ax.len_le
    have hM := ax.le
    rw [hl]
    simp only [cond_true, Bool.not_true, cond_false]
    cases hc : ceB sh da n with
    | false =>
      simp only [ceB, hb, Bool.true_and] at hc
      by_cases h0 : 0 ≤ n
      · rw [decide_eq_true h0, Bool.true_and, decide_eq_false_iff_not] at hc
        rw [decide_eq_false (p := n < 0) (by omega), decide_eq_true (p := n ≥ ((lenN sh 0 : Nat) : Int)) (by omega)]; rfl
      · rw [decide_eq_true (p := n < 0) (by omega)]; rfl
    | true =>
      obtain ⟨j, rfl, hj2, _, hle⟩ := ceB_inv hc
      have hle2 : j * behN sh 0 ≤ (j + 1) * behN sh 0 := Nat.mul_le_mul_right _ (by omega)
      have hlen := validA_len hv
      have e1 : IntKind.wrap .i64 ((j : Int) + 1) = ((j + 1 : Nat) : Int) := w1 (by omega)
      have e2 : da.length / lenN sh 0 = behN sh 0 := by rw [hd, Nat.mul_comm]; exact Nat.mul_div_cancel _ (by omega)
      have e3 : behN sh 0 ≤ da.length := by rw [← e2]; exact Nat.div_le_self _ _
      rw [decide_eq_false (p := (j : Int) < 0) (by omega), decide_eq_false (p := (j : Int) ≥ ((lenN sh 0 : Nat) : Int)) (by omega), decide_eq_false (p := ((lenN sh 0 : Nat) : Int) = 0) (by omega)]
      simp only [cond_false]
      rw [cut_one hj, tdivN, e2, wN (n := behN sh 0) (by omega), e1, wMul (by omega), wMul (by omega), cut_both hle2 (by omega)]
      simp only [Option.bind_some, drop_take, ce_cut]
      rw [szB_of (by simp; omega), szB_of (by simp; omega)]
      rfl⟩

namespace laws_FnInnerProductRows
noncomputable def E : Entry := ⟨7, true, false, fun | [.d (.ints .u8 bs)] => bytesB bs | _ => false, fun | [.d (.ints .u8 bs)] => ([.one ((.bool true), false)], []) | _ => ([], []), fun _ => [], false, fun _ => none⟩
end laws_FnInnerProductRows
namespace laws_FnInnerProductRows
noncomputable def X : List Entry := [spec_DrawInnerProduct.E, impl_InnerProduct.E, spec_InnerProduct.E, laws_equalArray.E, impl_RankOf.E, impl_CellOf.E]
noncomputable def I : List Inl := [⟨7, Try.f7, ⟨[23, 33, 41, 81, 89, 95], [(1000009, [0, 1, 2, 8, 9, 10, 12, 13, 14, 15, 16, 17, 18, 19, 20, 21, 22, 23, 24, 25, 26, 27, 28, 29, 30, 31, 32, 33, 34, 35, 36, 37, 38, 39, 40, 41, 42, 43, 44, 45, 46, 47, 48, 49, 50, 51, 52, 53, 54, 55, 56, 57, 58, 59, 60, 61, 62, 63, 64, 65, 66, 67, 68, 69, 70, 71, 72, 73, 74, 75, 76, 77, 78, 79, 80, 81, 82, 83, 84, 85, 86, 87, 88, 89, 90, 91, 92, 93, 94, 95, 96, 97, 98, 99, 100, 101, 102, 103, 104, 105, 106, 107, 108, 109, 110, 111, 112, 113])], [], [], [], []⟩⟩]
theorem I_ok : ∀ i ∈ I, Try.prog.funcs[i.f]? = some i.fn ∧ (i.fn.name == "runtime.NumGoroutine") = false := by
  intro i hi
  simp only [I, List.mem_cons, List.not_mem_nil, or_false] at hi
  subst hi
  exact ⟨by kernel_rfl, by kernel_rfl⟩
noncomputable abbrev L0 (fuel n : Nat) (s : St) (k : Kont) := lAt Try.prog X I fuel true 0 false 7 (bodyOf Try.f7) [1, 1, 1, 1, 1, 1, 0, 1, 0] n s k
noncomputable abbrev k0  (fuel : Nat) : Kont := (kAt Try.prog X I fuel true 0 false 7 (bodyOf Try.f7) [1, 1, 1, 1, 1, 1, 0, 1, 0] [] (endK Try.prog Try.f7))
noncomputable def t0 (p0 : List Int) (x0q2 : Int) : St := ⟨[.dead, .dead, .dead, (.imm (.int .i64 (anyOpV (cutC p0) 0))), (.imm (.int .i64 (anyOpV (cutC p0) 2))), (.ptr 1000000000 0 0), (.ptr 1000000001 0 0), (.ptr 1000000002 0 0), .dead, .dead, .dead, (.imm (.int .i64 x0q2)), .dead, .dead, .dead, .dead, .dead, .dead, .dead, .dead, .dead, .dead, .dead, .dead, .dead, .dead, .dead, .dead, .dead, .dead, .dead, .dead, .dead, .dead, .dead, .dead, .dead, .dead, .dead, .dead, .dead, .dead, .dead, .dead, .dead, .dead, .dead, .dead, .dead, .dead, .dead, .dead, .dead, .dead, .dead, .dead, .dead, .dead, .dead, .dead, .dead, .dead, .dead, .dead, .dead, .dead, .dead, .dead, .dead, .dead, .dead, .dead, .dead, .dead, .dead, .dead, .dead, .dead, .dead, .dead, .dead, .dead, .dead, .dead, .dead, .dead, .dead, .dead, .dead, .dead, .dead, .dead, .dead, .dead, .dead, .dead, .dead, .dead, .dead, .dead, .dead, .dead, .dead, .dead, .dead, .dead, .dead, .dead, .dead, .dead, .dead, .dead, .dead, .dead], hOf [(1000000000, (.box [(.imm (.ints .i64 (mpS1 (cutC p0) 4))), (.imm (.ints .i64 (mpD1 (cutC p0) 4)))])), (1000000001, (.box [(.imm (.ints .i64 (mpS2 (cutC p0) 4))), (.imm (.ints .i64 (mpD2 (cutC p0) 4)))])), (1000000002, (.box [(.all 1000000003 1), (.all 1000000004 1)])), (1000000003, (.ints .i64 (inS ((anyOpV (cutC p0) 0)) ((anyOpV (cutC p0) 2)) ((mpS1 (cutC p0) 4)) ((mpD1 (cutC p0) 4)) ((mpS2 (cutC p0) 4)) ((mpD2 (cutC p0) 4))))), (1000000004, (.ints .i64 (inD ((anyOpV (cutC p0) 0)) ((anyOpV (cutC p0) 2)) ((mpS1 (cutC p0) 4)) ((mpD1 (cutC p0) 4)) ((mpS2 (cutC p0) 4)) ((mpD2 (cutC p0) 4)))))], [], []⟩
theorem e (fuel : Nat) (p0 : List Int) : runF Try.prog X I 0 fuel 7 Try.f7 [.d (.ints .u8 p0)] =
  (bif (decide ((((p0.length : Nat) : Int) : Int) > 1048576)) then
  some ([.one ((.bool true), false)], [])
  else
  (bif bytesB p0 then
  (bif decide (((mpS1 (cutC p0) 4)).length < 9223372036854775808) && decide (((mpD1 (cutC p0) 4)).length < 9223372036854775808) && decide (((mpS2 (cutC p0) 4)).length < 9223372036854775808) && decide (((mpD2 (cutC p0) 4)).length < 9223372036854775808) then
  (bif decide (((mpS1 (cutC p0) 4)).length < 9223372036854775808) && decide (((mpD1 (cutC p0) 4)).length < 9223372036854775808) && decide (((mpS2 (cutC p0) 4)).length < 9223372036854775808) && decide (((mpD2 (cutC p0) 4)).length < 9223372036854775808) then
  (bif decide (((inS ((anyOpV (cutC p0) 0)) ((anyOpV (cutC p0) 2)) ((mpS1 (cutC p0) 4)) ((mpD1 (cutC p0) 4)) ((mpS2 (cutC p0) 4)) ((mpD2 (cutC p0) 4)))).length < 9223372036854775808) && decide (((inD ((anyOpV (cutC p0) 0)) ((anyOpV (cutC p0) 2)) ((mpS1 (cutC p0) 4)) ((mpD1 (cutC p0) 4)) ((mpS2 (cutC p0) 4)) ((mpD2 (cutC p0) 4)))).length < 9223372036854775808) && decide (((inS ((anyOpV (cutC p0) 0)) ((anyOpV (cutC p0) 2)) ((mpS1 (cutC p0) 4)) ((mpD1 (cutC p0) 4)) ((mpS2 (cutC p0) 4)) ((mpD2 (cutC p0) 4)))).length < 9223372036854775808) && decide (((inD ((anyOpV (cutC p0) 0)) ((anyOpV (cutC p0) 2)) ((mpS1 (cutC p0) 4)) ((mpD1 (cutC p0) 4)) ((mpS2 (cutC p0) 4)) ((mpD2 (cutC p0) 4)))).length < 9223372036854775808) then
  (bif (!(decide (((inS ((anyOpV (cutC p0) 0)) ((anyOpV (cutC p0) 2)) ((mpS1 (cutC p0) 4)) ((mpD1 (cutC p0) 4)) ((mpS2 (cutC p0) 4)) ((mpD2 (cutC p0) 4)))) = ((inS ((anyOpV (cutC p0) 0)) ((anyOpV (cutC p0) 2)) ((mpS1 (cutC p0) 4)) ((mpD1 (cutC p0) 4)) ((mpS2 (cutC p0) 4)) ((mpD2 (cutC p0) 4))))) && decide (((inD ((anyOpV (cutC p0) 0)) ((anyOpV (cutC p0) 2)) ((mpS1 (cutC p0) 4)) ((mpD1 (cutC p0) 4)) ((mpS2 (cutC p0) 4)) ((mpD2 (cutC p0) 4)))) = ((inD ((anyOpV (cutC p0) 0)) ((anyOpV (cutC p0) 2)) ((mpS1 (cutC p0) 4)) ((mpD1 (cutC p0) 4)) ((mpS2 (cutC p0) 4)) ((mpD2 (cutC p0) 4))))))) then
  (bif decide (((inS ((anyOpV (cutC p0) 0)) ((anyOpV (cutC p0) 2)) ((mpS1 (cutC p0) 4)) ((mpD1 (cutC p0) 4)) ((mpS2 (cutC p0) 4)) ((mpD2 (cutC p0) 4)))).length < 9223372036854775808) && decide (((inD ((anyOpV (cutC p0) 0)) ((anyOpV (cutC p0) 2)) ((mpS1 (cutC p0) 4)) ((mpD1 (cutC p0) 4)) ((mpS2 (cutC p0) 4)) ((mpD2 (cutC p0) 4)))).length < 9223372036854775808) && decide (((inS ((anyOpV (cutC p0) 0)) ((anyOpV (cutC p0) 2)) ((mpS1 (cutC p0) 4)) ((mpD1 (cutC p0) 4)) ((mpS2 (cutC p0) 4)) ((mpD2 (cutC p0) 4)))).length < 9223372036854775808) && decide (((inD ((anyOpV (cutC p0) 0)) ((anyOpV (cutC p0) 2)) ((mpS1 (cutC p0) 4)) ((mpD1 (cutC p0) 4)) ((mpS2 (cutC p0) 4)) ((mpD2 (cutC p0) 4)))).length < 9223372036854775808) then
  (bif (decide (((inS ((anyOpV (cutC p0) 0)) ((anyOpV (cutC p0) 2)) ((mpS1 (cutC p0) 4)) ((mpD1 (cutC p0) 4)) ((mpS2 (cutC p0) 4)) ((mpD2 (cutC p0) 4)))) = ((inS ((anyOpV (cutC p0) 0)) ((anyOpV (cutC p0) 2)) ((mpS1 (cutC p0) 4)) ((mpD1 (cutC p0) 4)) ((mpS2 (cutC p0) 4)) ((mpD2 (cutC p0) 4))))) && decide (((inD ((anyOpV (cutC p0) 0)) ((anyOpV (cutC p0) 2)) ((mpS1 (cutC p0) 4)) ((mpD1 (cutC p0) 4)) ((mpS2 (cutC p0) 4)) ((mpD2 (cutC p0) 4)))) = ((inD ((anyOpV (cutC p0) 0)) ((anyOpV (cutC p0) 2)) ((mpS1 (cutC p0) 4)) ((mpD1 (cutC p0) 4)) ((mpS2 (cutC p0) 4)) ((mpD2 (cutC p0) 4)))))) then
  some ([.one ((.bool ((inB ((anyOpV (cutC p0) 0)) ((anyOpV (cutC p0) 2)) ((mpS1 (cutC p0) 4)) ((mpD1 (cutC p0) 4)) ((mpS2 (cutC p0) 4)) ((mpD2 (cutC p0) 4))) == (inB ((anyOpV (cutC p0) 0)) ((anyOpV (cutC p0) 2)) ((mpS1 (cutC p0) 4)) ((mpD1 (cutC p0) 4)) ((mpS2 (cutC p0) 4)) ((mpD2 (cutC p0) 4))))), false)], [])
  else
  some ([.one ((.bool false), false)], []))
  else
  none)
  else
  (bif (!((inB ((anyOpV (cutC p0) 0)) ((anyOpV (cutC p0) 2)) ((mpS1 (cutC p0) 4)) ((mpD1 (cutC p0) 4)) ((mpS2 (cutC p0) 4)) ((mpD2 (cutC p0) 4))) == (inB ((anyOpV (cutC p0) 0)) ((anyOpV (cutC p0) 2)) ((mpS1 (cutC p0) 4)) ((mpD1 (cutC p0) 4)) ((mpS2 (cutC p0) 4)) ((mpD2 (cutC p0) 4))))) then
  (bif decide (((inS ((anyOpV (cutC p0) 0)) ((anyOpV (cutC p0) 2)) ((mpS1 (cutC p0) 4)) ((mpD1 (cutC p0) 4)) ((mpS2 (cutC p0) 4)) ((mpD2 (cutC p0) 4)))).length < 9223372036854775808) && decide (((inD ((anyOpV (cutC p0) 0)) ((anyOpV (cutC p0) 2)) ((mpS1 (cutC p0) 4)) ((mpD1 (cutC p0) 4)) ((mpS2 (cutC p0) 4)) ((mpD2 (cutC p0) 4)))).length < 9223372036854775808) && decide (((inS ((anyOpV (cutC p0) 0)) ((anyOpV (cutC p0) 2)) ((mpS1 (cutC p0) 4)) ((mpD1 (cutC p0) 4)) ((mpS2 (cutC p0) 4)) ((mpD2 (cutC p0) 4)))).length < 9223372036854775808) && decide (((inD ((anyOpV (cutC p0) 0)) ((anyOpV (cutC p0) 2)) ((mpS1 (cutC p0) 4)) ((mpD1 (cutC p0) 4)) ((mpS2 (cutC p0) 4)) ((mpD2 (cutC p0) 4)))).length < 9223372036854775808) then
  (bif (decide (((inS ((anyOpV (cutC p0) 0)) ((anyOpV (cutC p0) 2)) ((mpS1 (cutC p0) 4)) ((mpD1 (cutC p0) 4)) ((mpS2 (cutC p0) 4)) ((mpD2 (cutC p0) 4)))) = ((inS ((anyOpV (cutC p0) 0)) ((anyOpV (cutC p0) 2)) ((mpS1 (cutC p0) 4)) ((mpD1 (cutC p0) 4)) ((mpS2 (cutC p0) 4)) ((mpD2 (cutC p0) 4))))) && decide (((inD ((anyOpV (cutC p0) 0)) ((anyOpV (cutC p0) 2)) ((mpS1 (cutC p0) 4)) ((mpD1 (cutC p0) 4)) ((mpS2 (cutC p0) 4)) ((mpD2 (cutC p0) 4)))) = ((inD ((anyOpV (cutC p0) 0)) ((anyOpV (cutC p0) 2)) ((mpS1 (cutC p0) 4)) ((mpD1 (cutC p0) 4)) ((mpS2 (cutC p0) 4)) ((mpD2 (cutC p0) 4)))))) then
  some ([.one ((.bool ((inB ((anyOpV (cutC p0) 0)) ((anyOpV (cutC p0) 2)) ((mpS1 (cutC p0) 4)) ((mpD1 (cutC p0) 4)) ((mpS2 (cutC p0) 4)) ((mpD2 (cutC p0) 4))) == (inB ((anyOpV (cutC p0) 0)) ((anyOpV (cutC p0) 2)) ((mpS1 (cutC p0) 4)) ((mpD1 (cutC p0) 4)) ((mpS2 (cutC p0) 4)) ((mpD2 (cutC p0) 4))))), false)], [])
  else
  some ([.one ((.bool false), false)], []))
  else
  none)
  else
  (bif (!(inB ((anyOpV (cutC p0) 0)) ((anyOpV (cutC p0) 2)) ((mpS1 (cutC p0) 4)) ((mpD1 (cutC p0) 4)) ((mpS2 (cutC p0) 4)) ((mpD2 (cutC p0) 4)))) then
  (bif decide (((inS ((anyOpV (cutC p0) 0)) ((anyOpV (cutC p0) 2)) ((mpS1 (cutC p0) 4)) ((mpD1 (cutC p0) 4)) ((mpS2 (cutC p0) 4)) ((mpD2 (cutC p0) 4)))).length < 9223372036854775808) && decide (((inD ((anyOpV (cutC p0) 0)) ((anyOpV (cutC p0) 2)) ((mpS1 (cutC p0) 4)) ((mpD1 (cutC p0) 4)) ((mpS2 (cutC p0) 4)) ((mpD2 (cutC p0) 4)))).length < 9223372036854775808) && decide (((inS ((anyOpV (cutC p0) 0)) ((anyOpV (cutC p0) 2)) ((mpS1 (cutC p0) 4)) ((mpD1 (cutC p0) 4)) ((mpS2 (cutC p0) 4)) ((mpD2 (cutC p0) 4)))).length < 9223372036854775808) && decide (((inD ((anyOpV (cutC p0) 0)) ((anyOpV (cutC p0) 2)) ((mpS1 (cutC p0) 4)) ((mpD1 (cutC p0) 4)) ((mpS2 (cutC p0) 4)) ((mpD2 (cutC p0) 4)))).length < 9223372036854775808) then
  (bif (decide (((inS ((anyOpV (cutC p0) 0)) ((anyOpV (cutC p0) 2)) ((mpS1 (cutC p0) 4)) ((mpD1 (cutC p0) 4)) ((mpS2 (cutC p0) 4)) ((mpD2 (cutC p0) 4)))) = ((inS ((anyOpV (cutC p0) 0)) ((anyOpV (cutC p0) 2)) ((mpS1 (cutC p0) 4)) ((mpD1 (cutC p0) 4)) ((mpS2 (cutC p0) 4)) ((mpD2 (cutC p0) 4))))) && decide (((inD ((anyOpV (cutC p0) 0)) ((anyOpV (cutC p0) 2)) ((mpS1 (cutC p0) 4)) ((mpD1 (cutC p0) 4)) ((mpS2 (cutC p0) 4)) ((mpD2 (cutC p0) 4)))) = ((inD ((anyOpV (cutC p0) 0)) ((anyOpV (cutC p0) 2)) ((mpS1 (cutC p0) 4)) ((mpD1 (cutC p0) 4)) ((mpS2 (cutC p0) 4)) ((mpD2 (cutC p0) 4)))))) then
  some ([.one ((.bool ((inB ((anyOpV (cutC p0) 0)) ((anyOpV (cutC p0) 2)) ((mpS1 (cutC p0) 4)) ((mpD1 (cutC p0) 4)) ((mpS2 (cutC p0) 4)) ((mpD2 (cutC p0) 4))) == (inB ((anyOpV (cutC p0) 0)) ((anyOpV (cutC p0) 2)) ((mpS1 (cutC p0) 4)) ((mpD1 (cutC p0) 4)) ((mpS2 (cutC p0) 4)) ((mpD2 (cutC p0) 4))))), false)], [])
  else
  some ([.one ((.bool false), false)], []))
  else
  none)
  else
  (bif decide (((mpS1 (cutC p0) 4)).length < 9223372036854775808) && decide (((mpD1 (cutC p0) 4)).length < 9223372036854775808) then
  (bif (((rankV ((mpS1 (cutC p0) 4)) ((mpD1 (cutC p0) 4))) : Int) != 2) then
  (bif decide (((inS ((anyOpV (cutC p0) 0)) ((anyOpV (cutC p0) 2)) ((mpS1 (cutC p0) 4)) ((mpD1 (cutC p0) 4)) ((mpS2 (cutC p0) 4)) ((mpD2 (cutC p0) 4)))).length < 9223372036854775808) && decide (((inD ((anyOpV (cutC p0) 0)) ((anyOpV (cutC p0) 2)) ((mpS1 (cutC p0) 4)) ((mpD1 (cutC p0) 4)) ((mpS2 (cutC p0) 4)) ((mpD2 (cutC p0) 4)))).length < 9223372036854775808) && decide (((inS ((anyOpV (cutC p0) 0)) ((anyOpV (cutC p0) 2)) ((mpS1 (cutC p0) 4)) ((mpD1 (cutC p0) 4)) ((mpS2 (cutC p0) 4)) ((mpD2 (cutC p0) 4)))).length < 9223372036854775808) && decide (((inD ((anyOpV (cutC p0) 0)) ((anyOpV (cutC p0) 2)) ((mpS1 (cutC p0) 4)) ((mpD1 (cutC p0) 4)) ((mpS2 (cutC p0) 4)) ((mpD2 (cutC p0) 4)))).length < 9223372036854775808) then
  (bif (decide (((inS ((anyOpV (cutC p0) 0)) ((anyOpV (cutC p0) 2)) ((mpS1 (cutC p0) 4)) ((mpD1 (cutC p0) 4)) ((mpS2 (cutC p0) 4)) ((mpD2 (cutC p0) 4)))) = ((inS ((anyOpV (cutC p0) 0)) ((anyOpV (cutC p0) 2)) ((mpS1 (cutC p0) 4)) ((mpD1 (cutC p0) 4)) ((mpS2 (cutC p0) 4)) ((mpD2 (cutC p0) 4))))) && decide (((inD ((anyOpV (cutC p0) 0)) ((anyOpV (cutC p0) 2)) ((mpS1 (cutC p0) 4)) ((mpD1 (cutC p0) 4)) ((mpS2 (cutC p0) 4)) ((mpD2 (cutC p0) 4)))) = ((inD ((anyOpV (cutC p0) 0)) ((anyOpV (cutC p0) 2)) ((mpS1 (cutC p0) 4)) ((mpD1 (cutC p0) 4)) ((mpS2 (cutC p0) 4)) ((mpD2 (cutC p0) 4)))))) then
  some ([.one ((.bool ((inB ((anyOpV (cutC p0) 0)) ((anyOpV (cutC p0) 2)) ((mpS1 (cutC p0) 4)) ((mpD1 (cutC p0) 4)) ((mpS2 (cutC p0) 4)) ((mpD2 (cutC p0) 4))) == (inB ((anyOpV (cutC p0) 0)) ((anyOpV (cutC p0) 2)) ((mpS1 (cutC p0) 4)) ((mpD1 (cutC p0) 4)) ((mpS2 (cutC p0) 4)) ((mpD2 (cutC p0) 4))))), false)], [])
  else
  some ([.one ((.bool false), false)], []))
  else
  none)
  else
  L0 fuel fuel (t0 p0 0) (k0  fuel))
  else
  none))))
  else
  none)
  else
  none)
  else
  none)
  else
  none)) := by kernel_rfl
theorem s0 (fuel n0 : Nat) (p0 : List Int) (x0q2 : Int) : L0 fuel (n0 + 1) (t0 p0 x0q2) (k0  fuel) =
  (idx 0 (mpS1 (cutC p0) 4).length).bind fun j5 =>
  ((mpS1 (cutC p0) 4)[j5]?).bind fun v6 =>
  (bif (decide ((x0q2 : Int) < v6)) then
  (bif decide (((mpS1 (cutC p0) 4)).length < 9223372036854775808) && decide (((mpD1 (cutC p0) 4)).length < 9223372036854775808) then
  (bif decide (((ceS ((mpS1 (cutC p0) 4)) ((mpD1 (cutC p0) 4)) x0q2)).length < 9223372036854775808) && decide (((ceD ((mpS1 (cutC p0) 4)) ((mpD1 (cutC p0) 4)) x0q2)).length < 9223372036854775808) && decide (((mpS2 (cutC p0) 4)).length < 9223372036854775808) && decide (((mpD2 (cutC p0) 4)).length < 9223372036854775808) then
  (bif decide (((inS ((anyOpV (cutC p0) 0)) ((anyOpV (cutC p0) 2)) ((mpS1 (cutC p0) 4)) ((mpD1 (cutC p0) 4)) ((mpS2 (cutC p0) 4)) ((mpD2 (cutC p0) 4)))).length < 9223372036854775808) && decide (((inD ((anyOpV (cutC p0) 0)) ((anyOpV (cutC p0) 2)) ((mpS1 (cutC p0) 4)) ((mpD1 (cutC p0) 4)) ((mpS2 (cutC p0) 4)) ((mpD2 (cutC p0) 4)))).length < 9223372036854775808) then
  (bif (!(ceB ((mpS1 (cutC p0) 4)) ((mpD1 (cutC p0) 4)) x0q2)) then
  some ([.one ((.bool false), false)], [])
  else
  (bif (!(inB ((anyOpV (cutC p0) 0)) ((anyOpV (cutC p0) 2)) ((ceS ((mpS1 (cutC p0) 4)) ((mpD1 (cutC p0) 4)) x0q2)) ((ceD ((mpS1 (cutC p0) 4)) ((mpD1 (cutC p0) 4)) x0q2)) ((mpS2 (cutC p0) 4)) ((mpD2 (cutC p0) 4)))) then
  some ([.one ((.bool false), false)], [])
  else
  (bif (!(ceB ((inS ((anyOpV (cutC p0) 0)) ((anyOpV (cutC p0) 2)) ((mpS1 (cutC p0) 4)) ((mpD1 (cutC p0) 4)) ((mpS2 (cutC p0) 4)) ((mpD2 (cutC p0) 4)))) ((inD ((anyOpV (cutC p0) 0)) ((anyOpV (cutC p0) 2)) ((mpS1 (cutC p0) 4)) ((mpD1 (cutC p0) 4)) ((mpS2 (cutC p0) 4)) ((mpD2 (cutC p0) 4)))) x0q2)) then
  some ([.one ((.bool false), false)], [])
  else
  (bif decide (((inS ((anyOpV (cutC p0) 0)) ((anyOpV (cutC p0) 2)) ((ceS ((mpS1 (cutC p0) 4)) ((mpD1 (cutC p0) 4)) x0q2)) ((ceD ((mpS1 (cutC p0) 4)) ((mpD1 (cutC p0) 4)) x0q2)) ((mpS2 (cutC p0) 4)) ((mpD2 (cutC p0) 4)))).length < 9223372036854775808) && decide (((inD ((anyOpV (cutC p0) 0)) ((anyOpV (cutC p0) 2)) ((ceS ((mpS1 (cutC p0) 4)) ((mpD1 (cutC p0) 4)) x0q2)) ((ceD ((mpS1 (cutC p0) 4)) ((mpD1 (cutC p0) 4)) x0q2)) ((mpS2 (cutC p0) 4)) ((mpD2 (cutC p0) 4)))).length < 9223372036854775808) && decide (((ceS ((inS ((anyOpV (cutC p0) 0)) ((anyOpV (cutC p0) 2)) ((mpS1 (cutC p0) 4)) ((mpD1 (cutC p0) 4)) ((mpS2 (cutC p0) 4)) ((mpD2 (cutC p0) 4)))) ((inD ((anyOpV (cutC p0) 0)) ((anyOpV (cutC p0) 2)) ((mpS1 (cutC p0) 4)) ((mpD1 (cutC p0) 4)) ((mpS2 (cutC p0) 4)) ((mpD2 (cutC p0) 4)))) x0q2)).length < 9223372036854775808) && decide (((ceD ((inS ((anyOpV (cutC p0) 0)) ((anyOpV (cutC p0) 2)) ((mpS1 (cutC p0) 4)) ((mpD1 (cutC p0) 4)) ((mpS2 (cutC p0) 4)) ((mpD2 (cutC p0) 4)))) ((inD ((anyOpV (cutC p0) 0)) ((anyOpV (cutC p0) 2)) ((mpS1 (cutC p0) 4)) ((mpD1 (cutC p0) 4)) ((mpS2 (cutC p0) 4)) ((mpD2 (cutC p0) 4)))) x0q2)).length < 9223372036854775808) then
  (bif (!(decide (((inS ((anyOpV (cutC p0) 0)) ((anyOpV (cutC p0) 2)) ((ceS ((mpS1 (cutC p0) 4)) ((mpD1 (cutC p0) 4)) x0q2)) ((ceD ((mpS1 (cutC p0) 4)) ((mpD1 (cutC p0) 4)) x0q2)) ((mpS2 (cutC p0) 4)) ((mpD2 (cutC p0) 4)))) = ((ceS ((inS ((anyOpV (cutC p0) 0)) ((anyOpV (cutC p0) 2)) ((mpS1 (cutC p0) 4)) ((mpD1 (cutC p0) 4)) ((mpS2 (cutC p0) 4)) ((mpD2 (cutC p0) 4)))) ((inD ((anyOpV (cutC p0) 0)) ((anyOpV (cutC p0) 2)) ((mpS1 (cutC p0) 4)) ((mpD1 (cutC p0) 4)) ((mpS2 (cutC p0) 4)) ((mpD2 (cutC p0) 4)))) x0q2))) && decide (((inD ((anyOpV (cutC p0) 0)) ((anyOpV (cutC p0) 2)) ((ceS ((mpS1 (cutC p0) 4)) ((mpD1 (cutC p0) 4)) x0q2)) ((ceD ((mpS1 (cutC p0) 4)) ((mpD1 (cutC p0) 4)) x0q2)) ((mpS2 (cutC p0) 4)) ((mpD2 (cutC p0) 4)))) = ((ceD ((inS ((anyOpV (cutC p0) 0)) ((anyOpV (cutC p0) 2)) ((mpS1 (cutC p0) 4)) ((mpD1 (cutC p0) 4)) ((mpS2 (cutC p0) 4)) ((mpD2 (cutC p0) 4)))) ((inD ((anyOpV (cutC p0) 0)) ((anyOpV (cutC p0) 2)) ((mpS1 (cutC p0) 4)) ((mpD1 (cutC p0) 4)) ((mpS2 (cutC p0) 4)) ((mpD2 (cutC p0) 4)))) x0q2))))) then
  some ([.one ((.bool false), false)], [])
  else
  L0 fuel n0 (t0 p0 ((IntKind.wrap .i64 (x0q2 + 1)))) (k0  fuel))
  else
  none))))
  else
  none)
  else
  none)
  else
  none)
  else
  some ([.one ((.bool true), false)], [])) := by kernel_rfl
end laws_FnInnerProductRows
theorem laws_FnInnerProductRows.ok_of (hX : ∀ E ∈ laws_FnInnerProductRows.X, CallSpec Try.prog E) (h : ∀ (bs : List Int), (bytesB bs) = true → ∃ fuel, runF Try.prog laws_FnInnerProductRows.X laws_FnInnerProductRows.I 0 fuel 7 Try.f7 [.d (.ints .u8 bs)] = some ([.one ((.bool true), false)], [])) : CallSpec Try.prog laws_FnInnerProductRows.E :=
  callSpec_of (d := 0) hX (by kernel_rfl) laws_FnInnerProductRows.I_ok (by kernel_rfl) (by kernel_rfl) (by kernel_rfl) (fun _ _ _ _ h => by dsimp only [laws_FnInnerProductRows.E] at h; cases h) (fun xs hp => by
    dsimp only [laws_FnInnerProductRows.E] at hp ⊢
    split at hp
    · exact h _ hp
    · cases hp)
theorem laws_FnInnerProductRows.ok : CallSpec Try.prog laws_FnInnerProductRows.E := laws_FnInnerProductRows.ok_of (by simp [laws_FnInnerProductRows.X, spec_DrawInnerProduct.ok, impl_InnerProduct.ok, spec_InnerProduct.ok, laws_equalArray.ok, impl_RankOf.ok, impl_CellOf.ok]) fun bs h => by
  obtain ⟨F, hF⟩ : ∃ F : Nat, 4000 < F := ⟨4001, by omega⟩
  refine ⟨F, ?_⟩
  rw [laws_FnInnerProductRows.e]
  by_cases hl : ((bs.length : Nat) : Int) > 1048576
  · rw [decide_eq_true hl]; rfl
  rw [decide_eq_false hl, cond_false, h, cond_true]
  have r0 := cut_ok h (p := 0) (by omega) (by omega)
  have r4 := rd_le (q := 4) r0 (by omega) (by omega)
  obtain ⟨a1, a2, a3, a4⟩ := mp_bd r4 (by omega)
  obtain ⟨f, hf⟩ : ∃ x, anyOpV (cutC bs) 0 = x := ⟨_, rfl⟩
  obtain ⟨g, hg⟩ : ∃ x, anyOpV (cutC bs) 2 = x := ⟨_, rfl⟩
  obtain ⟨s1, hs1⟩ : ∃ x, mpS1 (cutC bs) 4 = x := ⟨_, rfl⟩
  obtain ⟨d1, hd1⟩ : ∃ x, mpD1 (cutC bs) 4 = x := ⟨_, rfl⟩
  obtain ⟨s2, hs2⟩ : ∃ x, mpS2 (cutC bs) 4 = x := ⟨_, rfl⟩
  obtain ⟨d2, hd2⟩ : ∃ x, mpD2 (cutC bs) 4 = x := ⟨_, rfl⟩
  rw [hs1] at a1
  rw [hd1] at a2
  rw [hs2] at a3
  rw [hd2] at a4
  have g1 := lt_of (xs := s1) (by omega)
  have g2 := lt_of (xs := d1) (by omega)
  have g3 := lt_of (xs := s2) (by omega)
  have g4 := lt_of (xs := d2) (by omega)
  have il := in_len f g s1 d1 s2 d2
  have g5 := lt_of (xs := inS f g s1 d1 s2 d2) (by omega)
  have g6 := lt_of (xs := inD f g s1 d1 s2 d2) (by omega)
  simp only [hf, hg, hs1, hd1, hs2, hd2]
  cases hb : inB f g s1 d1 s2 d2 with
  | false => simp only [Bool.and_self, Bool.and_true, Bool.true_and, cond_true, cond_false, Bool.not_true, Bool.not_false, bne_self_eq_false, beq_self_eq_true, decide_true, eq_self, g1, g2, g3, g4, g5, g6, hb]
  | true =>
    have hb' := hb
    simp only [inB, Bool.and_eq_true, decide_eq_true_eq] at hb'
    obtain ⟨⟨⟨⟨⟨h1, h2⟩, h3⟩, h4⟩, h5⟩, h6⟩ := hb'
    obtain ⟨_, _, _, v1, _, _, _⟩ := axB_inv h3
    obtain ⟨_, _, _, v2, _, _, _⟩ := axB_inv h4
    have k1 : rankV s1 d1 = ((s1.length : Nat) : Int) := by simp only [rankV, v1, cond_true]
    have k2 : rankV s2 d2 = ((s2.length : Nat) : Int) := by simp only [rankV, v2, cond_true]
    by_cases r1 : s1.length = 2
    case neg =>
      have x1 : (((s1.length : Nat) : Int) != 2) = true := bne_iff_ne.2 (by omega)
      simp only [Bool.and_self, Bool.and_true, Bool.true_and, cond_true, cond_false, Bool.not_true, Bool.not_false, bne_self_eq_false, beq_self_eq_true, decide_true, eq_self, g1, g2, g3, g4, g5, g6, hb, k1, x1]
    have x1 : (((s1.length : Nat) : Int) != 2) = false := by rw [r1]; rfl
    simp only [Bool.and_self, Bool.and_true, Bool.true_and, cond_true, cond_false, Bool.not_true, Bool.not_false, bne_self_eq_false, beq_self_eq_true, decide_true, eq_self, g1, g2, g3, g4, g5, g6, hb, k1, x1]
    obtain ⟨a, k, rfl⟩ : ∃ a k, s1 = [a, k] := by
      match s1, r1 with
      | [a, k], _ => exact ⟨a, k, rfl⟩
    have ha := allB_iff.1 (validS_inv (validA_inv v1).1).2.1 a (by simp)
    have qi : idx (0 : Int) ([a, k] : List Int).length = some 0 := rfl
    have qa : ([a, k] : List Int)[0]? = some a := rfl
    obtain ⟨A, rfl⟩ : ∃ n : Nat, a = n := ⟨a.toNat, by omega⟩
    refine run_loop (N := A) (fun m i (_ : Unit) => laws_FnInnerProductRows.L0 F m (laws_FnInnerProductRows.t0 bs (i : Int)) (laws_FnInnerProductRows.k0 F)) (fun _ _ => True) ?_ ?_ F 0 () (by omega) (by omega) trivial
    · intro m _ _
      rw [laws_FnInnerProductRows.s0]
      simp only [hf, hg, hs1, hd1, hs2, hd2, qi, qa, Option.bind_some]
      rw [dge (by omega)]
      rfl
    · intro m i _ hi _
      refine ⟨(), trivial, ?_⟩
      obtain ⟨c1, c2, c3, c4, c5⟩ := in_row hb (i := i) (by omega)
      have l1 := ce_len [(A : Int), k] d1 (i : Int)
      have l2 := ce_len (inS f g [(A : Int), k] d1 s2 d2) (inD f g [(A : Int), k] d1 s2 d2) (i : Int)
      have g7 := lt_of (xs := ceS [(A : Int), k] d1 (i : Int)) (by omega)
      have g8 := lt_of (xs := ceD [(A : Int), k] d1 (i : Int)) (by omega)
      have g9 := lt_of (xs := ceS (inS f g [(A : Int), k] d1 s2 d2) (inD f g [(A : Int), k] d1 s2 d2) (i : Int)) (by omega)
      have g10 := lt_of (xs := ceD (inS f g [(A : Int), k] d1 s2 d2) (inD f g [(A : Int), k] d1 s2 d2) (i : Int)) (by omega)
      rw [laws_FnInnerProductRows.s0]
      simp only [hf, hg, hs1, hd1, hs2, hd2, qi, qa, Option.bind_some]
      rw [dlt hi, w1 (by omega)]
      simp only [Bool.and_self, Bool.and_true, Bool.true_and, cond_true, cond_false, Bool.not_true, Bool.not_false, bne_self_eq_false, beq_self_eq_true, decide_true, eq_self, g1, g2, g3, g4, g5, g6, g7, g8, g9, g10, c1, c2, c3, c4, c5]

end Go.Ab
