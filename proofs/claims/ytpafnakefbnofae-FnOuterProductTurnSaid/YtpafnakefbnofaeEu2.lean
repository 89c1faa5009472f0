import Derived.Test.YtpafnakefbnofaeEu1
import Derived.Test.YtpafnakefbnofaeProg
import Derived.Test.YtpafnakefbnofaeChecked
open Go Go.Ab Go.Proofs
set_option maxRecDepth 100000
set_option linter.unusedVariables false
set_option linter.unusedSimpArgs false
namespace Go.Ab
namespace impl_MoveAxes
noncomputable def E : Entry := ⟨62, false, false, fun | [.d (.agg [(.ints .i64 sh), (.ints .i64 da)]), .d (.ints .i64 order)] => decide (sh.length < 9223372036854775808) && decide (da.length < 9223372036854775808) && decide (order.length < 9223372036854775808) | _ => false, fun | [.d (.agg [(.ints .i64 sh), (.ints .i64 da)]), .d (.ints .i64 order)] => ([.agg [((.ints .i64 (mvS sh da order)), true), ((.ints .i64 (mvD sh da order)), true)], .one ((.bool (mvB sh da order)), false)], []) | _ => ([], []), fun _ => [], true, fun _ => none⟩
end impl_MoveAxes
namespace impl_MoveAxes
noncomputable def X : List Entry := [impl_OrderBack.E, impl_ValidArray.E, impl_layoutOf_j.E, impl_PlaceOf.E]
noncomputable def I : List Inl := [⟨62, Try.f62, ⟨[16, 38, 72], [(11, [0, 1, 3, 5, 6, 7, 8, 9, 12, 13, 14, 15, 16, 17, 18, 19, 20, 21, 22, 23, 24, 25, 26, 27, 28, 29, 30, 31, 32, 33, 34, 35, 36, 37, 38, 39, 40, 41, 42, 43, 44, 45, 46, 47, 48, 49, 50, 51, 52, 53, 54, 55, 56, 57, 58, 59, 60, 61, 62, 63, 64, 65, 66, 67, 68, 69, 70, 71, 72, 73, 74]), (1000007, [0, 1, 3, 5, 6, 7, 9, 12, 13, 14, 15, 16, 17, 18, 19, 20, 21, 22, 23, 24, 25, 26, 27, 28, 29, 30, 31, 32, 33, 34, 35, 36, 37, 38, 39, 40, 41, 42, 43, 44, 45, 46, 50, 51, 52, 53, 54, 55, 56, 57, 58, 59, 60, 61, 62, 63, 64, 65, 66, 67, 68, 69, 70, 71, 72, 73, 74])], [(6, [8]), (5000056, [67])], [(5, [0, 1, 2, 6, 7, 8, 3, 4, 5, 9]), (9, [0, 1, 4, 5, 6, 7, 8, 13, 2, 3, 9, 10, 11, 12, 14, 15, 16])], [45, 65, 66], []⟩⟩, ⟨39, Try.f39, ⟨[12], [(1000006, [2, 3, 5, 6, 7, 9, 10, 11, 12, 13, 14, 15, 16, 17, 18, 19, 20, 21, 24, 25, 26, 27, 28, 29, 30, 31, 32, 33, 34, 35])], [], [], [], []⟩⟩, ⟨91, Try.f91, ⟨[14], [(1000004, [0, 1, 4, 5, 6, 7, 9, 10, 11, 12, 13, 14, 15, 16, 20, 21, 22, 23, 24, 25, 26, 27, 28, 29, 30, 31, 32, 33, 34, 35, 36, 37])], [], [], [], []⟩⟩]
theorem I_ok : ∀ i ∈ I, Try.prog.funcs[i.f]? = some i.fn ∧ (i.fn.name == "runtime.NumGoroutine") = false := by
  intro i hi
  simp only [I, List.mem_cons, List.not_mem_nil, or_false] at hi
  rcases hi with rfl | rfl | rfl
  all_goals exact ⟨by kernel_rfl, by kernel_rfl⟩
noncomputable abbrev L0 (fuel n : Nat) (s : St) (k : Kont) := lAt Try.prog X I fuel true 4 false 62 (bodyOf Try.f62) [1, 1, 1, 1, 1, 0, 1, 0] n s k
noncomputable abbrev k0  (fuel : Nat) : Kont := (kAt Try.prog X I fuel true 4 false 62 (bodyOf Try.f62) [1, 1, 1, 1, 1, 0, 1, 0] [] (endK Try.prog Try.f62))
noncomputable def t0 (p1 : List Int) (p0q0 : List Int) (p0q1 : List Int) (x0q0 : Int) (x0q1 : Int) (x0q2 : Int) (x0q3 : Int) (x0q6 : Int) (x0q9 : List Int) (x0q10 : List Int) : St := ⟨[.dead, .dead, (.ptr 1000000000 0 0), .dead, (.ptr 1000000001 0 0), .dead, .dead, .dead, (.dptr [.junk, (.int .i64 x0q0), (.int .i64 x0q1), (.int .i64 x0q2), (.int .i64 x0q3)] 0), .dead, (.ptr 1000000002 0 0), (.ptr 1000000003 0 0), .dead, .dead, .dead, .dead, .dead, .dead, .dead, .dead, .dead, .dead, .dead, .dead, .dead, .dead, .dead, .dead, .dead, .dead, .dead, .dead, .dead, .dead, .dead, .dead, .dead, .dead, .dead, .dead, .dead, .dead, .dead, .dead, .dead, .dead, .dead, (.imm (.ints .i64 p1)), (.imm (.int .i64 ((p1.length : Nat) : Int))), (.imm (.int .i64 x0q6)), .dead, .dead, .dead, .dead, .dead, .dead, .dead, .dead, .dead, .dead, .dead, .dead, .dead, .dead, .dead, .dead, .dead, .dead, .dead, .dead, .dead, .dead, .dead, .dead, .dead], hOf [(1000000000, (.box [(.imm (.ints .i64 p0q0)), (.imm (.ints .i64 p0q1))])), (1000000001, (.box [(.imm .nils), (.imm .nils)])), (1000000002, (.box [(.all 1000000004 1)])), (1000000003, (.box [(.all 1000000005 1)])), (1000000004, (.ints .i64 x0q9)), (1000000005, (.ints .i64 x0q10))], [], []⟩
noncomputable abbrev L1 (fuel n : Nat) (s : St) (k : Kont) := lAt Try.prog X I fuel true 3 false 39 (bodyOf Try.f39) [1, 1, 1, 1, 0, 1, 0] n s k
noncomputable abbrev k1  (fuel : Nat) : Kont := (kAt Try.prog X I fuel true 3 false 39 (bodyOf Try.f39) [1, 1, 1, 1, 0, 1, 0] [] (endFn Try.prog Try.f39 75 (kOp Try.prog X I fuel true 4 62 (cAt (bodyOf Try.f62) [1, 1, 1, 1, 1, 1, 0]) 2 (kAt Try.prog X I fuel true 4 false 62 (bodyOf Try.f62) [1, 1, 1, 1, 1, 1, 0] [] (endK Try.prog Try.f62)))))
noncomputable def t1 (x0q9 : List Int) (p0q0 : List Int) (p0q1 : List Int) (x0q10 : List Int) (x1q1 : Int) (x1q4 : List Int) : St := ⟨[(.all 1000000006 1), (.clo 91 [(.ptr 1000000001 0 0), (.ptr 1000000002 0 0), (.ptr 1000000003 0 0)]), .dead, .dead, (.ptr 1000000004 0 0), .dead, .dead, .dead, (.all 1000000005 1), .dead, .dead, .dead, .dead, .dead, .dead, .dead, .dead, .dead, .dead, .dead, .dead, .dead, (.imm (.int .i64 (((List.replicate ((volW x0q9)).toNat (0 : Int)).length : Nat) : Int))), (.imm (.int .i64 x1q1)), .dead, .dead, .dead, .dead, .dead, .dead, .dead, .dead, .dead, .dead, .dead, .dead], hOf [(1000000000, (.box [(.imm .nils), (.imm .nils)])), (1000000001, (.box [(.all 1000000006 1)])), (1000000002, (.box [(.all 1000000007 1)])), (1000000003, (.box [(.imm (.ints .i64 p0q0)), (.imm (.ints .i64 p0q1))])), (1000000004, (.box [(.imm .nils), (.imm .nils)])), (1000000005, (.ints .i64 x1q4)), (1000000006, (.ints .i64 x0q9)), (1000000007, (.ints .i64 x0q10))], [.dead, .dead, (.ptr 1000000003 0 0), .dead, (.ptr 1000000000 0 0), .dead, .dead, .dead, .dead, .dead, (.ptr 1000000001 0 0), (.ptr 1000000002 0 0), .dead, .dead, .dead, .dead, .dead, .dead, .dead, .dead, .dead, .dead, .dead, .dead, .dead, .dead, .dead, .dead, .dead, .dead, .dead, .dead, .dead, .dead, .dead, .dead, .dead, .dead, .dead, .dead, .dead, .dead, .dead, .dead, .dead, .dead, .dead, .dead, .dead, .dead, .dead, .dead, .dead, .dead, .dead, .dead, .dead, .dead, .dead, .dead, .dead, .dead, .dead, .dead, .dead, .dead, .dead, .dead, .dead, .dead, (.all 1000000006 1), (.clo 91 [(.ptr 1000000001 0 0), (.ptr 1000000002 0 0), (.ptr 1000000003 0 0)]), .dead, .dead, .dead, (.tup [])], []⟩
noncomputable abbrev L2 (fuel n : Nat) (s : St) (k : Kont) := lAt Try.prog X I fuel true 2 false 91 (bodyOf Try.f91) [1, 1, 1, 0, 1, 0] n s k
noncomputable abbrev k2 (n1 : Nat) (fuel : Nat) : Kont := (kAt Try.prog X I fuel true 2 false 91 (bodyOf Try.f91) [1, 1, 1, 0, 1, 0] [] (endFn Try.prog Try.f91 36 (kOp Try.prog X I fuel true 3 39 (cAt (bodyOf Try.f39) [1, 1, 1, 1, 0, 1, 0, 0, 1, 1, 0, 0, 1]) 4 (kAt Try.prog X I fuel true 3 false 39 (bodyOf Try.f39) [1, 1, 1, 1, 0, 1, 0, 0, 1, 1, 0, 0, 1] [n1] (endFn Try.prog Try.f39 75 (kOp Try.prog X I fuel true 4 62 (cAt (bodyOf Try.f62) [1, 1, 1, 1, 1, 1, 0]) 2 (kAt Try.prog X I fuel true 4 false 62 (bodyOf Try.f62) [1, 1, 1, 1, 1, 1, 0] [] (endK Try.prog Try.f62))))))))
noncomputable def t2 (x0q9 : List Int) (x1q1 : Int) (x1q4 : List Int) (p0q0 : List Int) (p0q1 : List Int) (x0q10 : List Int) (x2q0 : Int) (x2q2 : Int) : St := ⟨[.dead, .dead, (.ptr 1000000004 0 0), (.ptr 1000000005 0 0), .dead, .dead, .dead, .dead, (.imm (.int .i64 x2q0)), .dead, .dead, .dead, .dead, .dead, .dead, .dead, .dead, (.all 1000000006 1), (.imm (.int .i64 (((plD x0q9 x1q1).length : Nat) : Int))), (.imm (.int .i64 x2q2)), .dead, .dead, .dead, .dead, .dead, .dead, .dead, .dead, .dead, .dead, .dead, .dead, .dead, .dead, .dead, .dead, .dead, .dead], hOf [(1000000000, (.box [(.imm .nils), (.imm .nils)])), (1000000001, (.ints .i64 x1q4)), (1000000002, (.box [(.imm .nils), (.imm .nils)])), (1000000003, (.box [(.all 1000000007 1)])), (1000000004, (.box [(.all 1000000008 1)])), (1000000005, (.box [(.imm (.ints .i64 p0q0)), (.imm (.ints .i64 p0q1))])), (1000000006, (.ints .i64 (plD x0q9 x1q1))), (1000000007, (.ints .i64 x0q9)), (1000000008, (.ints .i64 x0q10))], [(.all 1000000007 1), (.clo 91 [(.ptr 1000000003 0 0), (.ptr 1000000004 0 0), (.ptr 1000000005 0 0)]), .dead, .dead, (.ptr 1000000000 0 0), .dead, .dead, .dead, (.all 1000000001 1), (.imm (.int .i64 x1q1)), .dead, .dead, .dead, .dead, .dead, .dead, .dead, .dead, .dead, .dead, .dead, .dead, (.imm (.int .i64 (((List.replicate ((volW x0q9)).toNat (0 : Int)).length : Nat) : Int))), (.imm (.int .i64 x1q1)), (.imm (.bool true)), (.imm (.int .i64 x1q1)), (.all 1000000001 1), (.imm (.int .i64 x1q1)), (.clo 91 [(.ptr 1000000003 0 0), (.ptr 1000000004 0 0), (.ptr 1000000005 0 0)]), (.imm (.int .i64 x1q1)), .dead, .dead, .dead, .dead, .dead, .dead, (.tup []), .dead, .dead, (.ptr 1000000005 0 0), .dead, (.ptr 1000000002 0 0), .dead, .dead, .dead, .dead, .dead, (.ptr 1000000003 0 0), (.ptr 1000000004 0 0), .dead, .dead, .dead, .dead, .dead, .dead, .dead, .dead, .dead, .dead, .dead, .dead, .dead, .dead, .dead, .dead, .dead, .dead, .dead, .dead, .dead, .dead, .dead, .dead, .dead, .dead, .dead, .dead, .dead, .dead, .dead, .dead, .dead, .dead, .dead, .dead, .dead, .dead, .dead, .dead, .dead, .dead, .dead, .dead, .dead, .dead, .dead, .dead, .dead, .dead, .dead, .dead, .dead, .dead, .dead, .dead, .dead, .dead, (.all 1000000007 1), (.clo 91 [(.ptr 1000000003 0 0), (.ptr 1000000004 0 0), (.ptr 1000000005 0 0)]), .dead, .dead, .dead, (.tup [])], []⟩
theorem e (fuel : Nat) (p0q0 : List Int) (p0q1 : List Int) (p1 : List Int) : runF Try.prog X I 4 fuel 62 Try.f62 [.d (.agg [(.ints .i64 p0q0), (.ints .i64 p0q1)]), .d (.ints .i64 p1)] =
  (bif decide (p1.length < 9223372036854775808) then
  (bif (!(obB p1)) then
  some ([.agg [((.ints .i64 []), true), ((.ints .i64 []), true)], .one ((.bool false), false)], [])
  else
  (bif decide (p0q0.length < 9223372036854775808) && decide (p0q1.length < 9223372036854775808) then
  (bif (!(validA p0q0 p0q1)) then
  some ([.agg [((.ints .i64 []), true), ((.ints .i64 []), true)], .one ((.bool false), false)], [])
  else
  (bif ((((p1.length : Nat) : Int) : Int) != ((p0q0.length : Nat) : Int)) then
  some ([.agg [((.ints .i64 []), true), ((.ints .i64 []), true)], .one ((.bool false), false)], [])
  else
  (bif decide (p0q0.length < 9223372036854775808) then
  (bif validS p0q0 then
  (bif decide (0 ≤ (((p1.length : Nat) : Int) : Int)) && decide ((((p1.length : Nat) : Int) : Int) ≤ ((p1.length : Nat) : Int)) && decide ((((p1.length : Nat) : Int) : Int) ≤ 1152921504606846976) && decide (((8 : Nat) : Int) * ((p1.length : Nat) : Int) ≤ 281474976710656) then
  (bif decide (0 ≤ (((p1.length : Nat) : Int) : Int)) && decide ((((p1.length : Nat) : Int) : Int) ≤ ((p1.length : Nat) : Int)) && decide ((((p1.length : Nat) : Int) : Int) ≤ 1152921504606846976) && decide (((8 : Nat) : Int) * ((p1.length : Nat) : Int) ≤ 281474976710656) then
  L0 fuel fuel (t0 p1 p0q0 p0q1 ((strd p0q0 0)) ((strd p0q0 1)) ((strd p0q0 2)) ((volW p0q0)) 0 ((List.replicate (((p1.length : Nat) : Int)).toNat (0 : Int))) ((List.replicate (((p1.length : Nat) : Int)).toNat (0 : Int)))) (k0  fuel)
  else
  none)
  else
  none)
  else
  (bif decide (0 ≤ (((p1.length : Nat) : Int) : Int)) && decide ((((p1.length : Nat) : Int) : Int) ≤ ((p1.length : Nat) : Int)) && decide ((((p1.length : Nat) : Int) : Int) ≤ 1152921504606846976) && decide (((8 : Nat) : Int) * ((p1.length : Nat) : Int) ≤ 281474976710656) then
  (bif decide (0 ≤ (((p1.length : Nat) : Int) : Int)) && decide ((((p1.length : Nat) : Int) : Int) ≤ ((p1.length : Nat) : Int)) && decide ((((p1.length : Nat) : Int) : Int) ≤ 1152921504606846976) && decide (((8 : Nat) : Int) * ((p1.length : Nat) : Int) ≤ 281474976710656) then
  L0 fuel fuel (t0 p1 p0q0 p0q1 0 0 0 0 0 ((List.replicate (((p1.length : Nat) : Int)).toNat (0 : Int))) ((List.replicate (((p1.length : Nat) : Int)).toNat (0 : Int)))) (k0  fuel)
  else
  none)
  else
  none))
  else
  none)))
  else
  none))
  else
  none) := by kernel_rfl
theorem s0 (fuel n0 : Nat) (p1 : List Int) (p0q0 : List Int) (p0q1 : List Int) (x0q0 : Int) (x0q1 : Int) (x0q2 : Int) (x0q3 : Int) (x0q6 : Int) (x0q9 : List Int) (x0q10 : List Int) : L0 fuel (n0 + 1) (t0 p1 p0q0 p0q1 x0q0 x0q1 x0q2 x0q3 x0q6 x0q9 x0q10) (k0  fuel) =
  (bif (decide ((x0q6 : Int) < ((p1.length : Nat) : Int))) then
  (idx x0q6 p1.length).bind fun j37 =>
  (p1[j37]?).bind fun v38 =>
  (idx v38 p0q0.length).bind fun j39 =>
  (p0q0[j39]?).bind fun v40 =>
  (idx x0q6 x0q9.length).bind fun j41 =>
  (bif decide (v38 = ((0 : Nat) : Int)) then
  (bif decide (j41 < x0q9.length) then
  (idx x0q6 x0q10.length).bind fun j44 =>
  (bif decide (j44 < x0q10.length) then
  L0 fuel n0 (t0 p1 p0q0 p0q1 x0q0 x0q1 x0q2 x0q3 ((IntKind.wrap .i64 (x0q6 + 1))) ((x0q9.set j41 v40)) ((x0q10.set j44 x0q0))) (k0  fuel)
  else
  none)
  else
  none)
  else
  (bif decide (v38 = ((1 : Nat) : Int)) then
  (bif decide (j41 < x0q9.length) then
  (idx x0q6 x0q10.length).bind fun j43 =>
  (bif decide (j43 < x0q10.length) then
  L0 fuel n0 (t0 p1 p0q0 p0q1 x0q0 x0q1 x0q2 x0q3 ((IntKind.wrap .i64 (x0q6 + 1))) ((x0q9.set j41 v40)) ((x0q10.set j43 x0q1))) (k0  fuel)
  else
  none)
  else
  none)
  else
  (bif decide (v38 = ((2 : Nat) : Int)) then
  (bif decide (j41 < x0q9.length) then
  (idx x0q6 x0q10.length).bind fun j42 =>
  (bif decide (j42 < x0q10.length) then
  L0 fuel n0 (t0 p1 p0q0 p0q1 x0q0 x0q1 x0q2 x0q3 ((IntKind.wrap .i64 (x0q6 + 1))) ((x0q9.set j41 v40)) ((x0q10.set j42 x0q2))) (k0  fuel)
  else
  none)
  else
  none)
  else
  none)))
  else
  (bif decide (x0q9.length < 9223372036854775808) then
  (bif validS x0q9 then
  (bif decide (0 ≤ ((volW x0q9) : Int)) && decide (((volW x0q9) : Int) ≤ (volW x0q9)) && decide (((volW x0q9) : Int) ≤ 1152921504606846976) && decide (((8 : Nat) : Int) * (volW x0q9) ≤ 281474976710656) then
  L1 fuel fuel (t1 x0q9 p0q0 p0q1 x0q10 0 ((List.replicate ((volW x0q9)).toNat (0 : Int)))) (k1  fuel)
  else
  none)
  else
  some ([.agg [((.ints .i64 []), true), ((.ints .i64 []), true)], .one ((.bool false), false)], []))
  else
  none)) := by kernel_rfl
theorem s1 (fuel n1 : Nat) (x0q9 : List Int) (p0q0 : List Int) (p0q1 : List Int) (x0q10 : List Int) (x1q1 : Int) (x1q4 : List Int) : L1 fuel (n1 + 1) (t1 x0q9 p0q0 p0q1 x0q10 x1q1 x1q4) (k1  fuel) =
  (bif (decide ((x1q1 : Int) < (((List.replicate ((volW x0q9)).toNat (0 : Int)).length : Nat) : Int))) then
  (bif decide (x0q9.length < 9223372036854775808) then
  L2 fuel fuel (t2 x0q9 x1q1 x1q4 p0q0 p0q1 x0q10 0 0) (k2 n1 fuel)
  else
  none)
  else
  some ([.agg [((.ints .i64 x0q9), true), ((.ints .i64 x1q4), true)], .one ((.bool true), false)], [])) := by kernel_rfl
theorem s2 (fuel n1 n2 : Nat) (x0q9 : List Int) (x1q1 : Int) (x1q4 : List Int) (p0q0 : List Int) (p0q1 : List Int) (x0q10 : List Int) (x2q0 : Int) (x2q2 : Int) : L2 fuel (n2 + 1) (t2 x0q9 x1q1 x1q4 p0q0 p0q1 x0q10 x2q0 x2q2) (k2 n1 fuel) =
  (bif (decide ((x2q2 : Int) < (((plD x0q9 x1q1).length : Nat) : Int))) then
  (idx x2q2 (plD x0q9 x1q1).length).bind fun j66 =>
  ((plD x0q9 x1q1)[j66]?).bind fun v67 =>
  (idx x2q2 x0q10.length).bind fun j68 =>
  (x0q10[j68]?).bind fun v69 =>
  L2 fuel n2 (t2 x0q9 x1q1 x1q4 p0q0 p0q1 x0q10 ((IntKind.wrap .i64 (x2q0 + (IntKind.wrap .i64 (v67 * v69))))) ((IntKind.wrap .i64 (x2q2 + 1)))) (k2 n1 fuel)
  else
  (idx x2q0 p0q1.length).bind fun j70 =>
  (p0q1[j70]?).bind fun v71 =>
  (idx x1q1 x1q4.length).bind fun j72 =>
  (bif decide (j72 < x1q4.length) then
  L1 fuel n1 (t1 x0q9 p0q0 p0q1 x0q10 ((IntKind.wrap .i64 (x1q1 + 1))) ((x1q4.set j72 v71))) (k1  fuel)
  else
  none)) := by kernel_rfl
end impl_MoveAxes
theorem impl_MoveAxes.ok_of (hX : ∀ E ∈ impl_MoveAxes.X, CallSpec Try.prog E) (h : ∀ (sh : List Int) (da : List Int) (order : List Int), (decide (sh.length < 9223372036854775808) && decide (da.length < 9223372036854775808) && decide (order.length < 9223372036854775808)) = true → ∃ fuel, runF Try.prog impl_MoveAxes.X impl_MoveAxes.I 4 fuel 62 Try.f62 [.d (.agg [(.ints .i64 sh), (.ints .i64 da)]), .d (.ints .i64 order)] = some ([.agg [((.ints .i64 (mvS sh da order)), true), ((.ints .i64 (mvD sh da order)), true)], .one ((.bool (mvB sh da order)), false)], [])) : CallSpec Try.prog impl_MoveAxes.E :=
  callSpec_of (d := 4) hX (by kernel_rfl) impl_MoveAxes.I_ok (by kernel_rfl) (by kernel_rfl) (by kernel_rfl) (fun _ _ _ _ h => by dsimp only [impl_MoveAxes.E] at h; cases h) (fun xs hp => by
    dsimp only [impl_MoveAxes.E] at hp ⊢
    split at hp
    · exact h _ _ _ hp
    · cases hp)
theorem impl_MoveAxes.inner (fuel n : Nat) (sh da order : List Int) (hm : mvB sh da order = true) (j : Nat) (hj : j < da.length) (out : List Int) (hol : out.length = da.length) (hf : 60 < fuel) :
    impl_MoveAxes.L2 fuel fuel (impl_MoveAxes.t2 (mvSh sh order) (j : Int) out sh da (mvSt sh order) 0 0) (impl_MoveAxes.k2 n fuel) =
    impl_MoveAxes.L1 fuel n (impl_MoveAxes.t1 (mvSh sh order) sh da (mvSt sh order) ((IntKind.wrap .i64 ((j : Int) + 1))) (out.set j ((mvN sh da order).getD j 0))) (impl_MoveAxes.k1 fuel) := by
  obtain ⟨h1, h2, h3, h4⟩ := mvB_inv hm
  obtain ⟨m1, m2, m3, m4, m5⟩ := mv_from hm hj
  have hr := (validA_len h2).1
  have hvs := (validA_inv h2).1
  have hd := data_prod h2
  have hvol := volS h4.vs
  have hpb : plB (mvSh sh order) (j : Int) = true := by
    simp only [plB, h4.vs, hvol.1, Bool.true_and, Bool.and_eq_true, decide_eq_true_eq]
    rw [h4.pr]; omega
  have hpd : plD (mvSh sh order) (j : Int) = plN (mvSh sh order) j := by simp only [plD, hpb, cond_true, Int.toNat_natCast]
  have hpl : (plN (mvSh sh order) j).length = order.length := by rw [plN_length, mvSh_length]
  have hst := mvSt_length sh order
  have hx : ∀ k, k < order.length → 0 ≤ (plN (mvSh sh order) j).getD k 0 * (mvSt sh order).getD k 0 ∧ (plN (mvSh sh order) j).getD k 0 * (mvSt sh order).getD k 0 ≤ 216000 := fun k hk => by
    obtain ⟨g1, g2, g3⟩ := ob_get h1 k hk
    rw [h3] at g2
    have hsk : (mvSt sh order).getD k 0 = ((behN sh (order.getD k 0).toNat : Nat) : Int) := by rw [mvSt_get hk, strd_beh (ax_of hvs g2)]
    have hb := (ax_of hvs g2).beh_le
    have hk2 : k < (mvSh sh order).length := by rw [mvSh_length]; exact hk
    have hlen := (ax_of h4.vs hk2).len_le
    have hmod : j / behN (mvSh sh order) k % lenN (mvSh sh order) k ≤ 60 := by
      by_cases h0 : lenN (mvSh sh order) k = 0
      · have hpp := pl_pos (sh := mvSh sh order) (n := j) (by rw [h4.pr]; omega) hk2
        omega
      · have := Nat.mod_lt (j / behN (mvSh sh order) k) (show lenN (mvSh sh order) k > 0 by omega)
        omega
    rw [plN_get hk2, hsk, ← Int.natCast_mul]
    have : (j / behN (mvSh sh order) k % lenN (mvSh sh order) k) * behN sh (order.getD k 0).toNat ≤ 60 * 3600 := Nat.mul_le_mul hmod hb
    omega
  have hsum : ∀ k, k ≤ order.length → 0 ≤ sumT k (fun k => (plN (mvSh sh order) j).getD k 0 * (mvSt sh order).getD k 0) ∧ sumT k (fun k => (plN (mvSh sh order) j).getD k 0 * (mvSt sh order).getD k 0) ≤ (k : Int) * 216000 := by
    intro k
    induction k with
    | zero => intro _; simp [sumT]
    | succ k ih =>
      intro hk
      have := ih (by omega)
      have := hx k (by omega)
      simp only [sumT]
      omega
  refine run_loop (N := order.length) (fun m k (a : Int) => impl_MoveAxes.L2 fuel m (impl_MoveAxes.t2 (mvSh sh order) (j : Int) out sh da (mvSt sh order) a (k : Int)) (impl_MoveAxes.k2 n fuel)) (fun k a => a = sumT k fun k => (plN (mvSh sh order) j).getD k 0 * (mvSt sh order).getD k 0) ?_ ?_ fuel 0 0 (by omega) (by omega) rfl
  · intro m a ha
    have hdot : a = dotW (plN (mvSh sh order) j) (mvSt sh order) := by rw [ha, dotW, hpl]
    have hi : idx a da.length = some (dotW (plN (mvSh sh order) j) (mvSt sh order)).toNat := by
      simp only [idx]
      rw [hdot, if_pos (by omega)]
    rw [impl_MoveAxes.s2, hpd, hpl, dge (by omega), cond_false, hi]
    simp only [Option.bind_some, getD_get m5]
    rw [idx_nat (by omega)]
    simp only [Option.bind_some]
    rw [decide_eq_true (by omega), cond_true]
    have e : (mvN sh da order).getD j 0 = da.getD (dotW (plN (mvSh sh order) j) (mvSt sh order)).toNat 0 := by simp only [mvN]; rw [tab_getD hj]
    rw [e]
  · intro m k a hk ha
    have k1 : k < (plN (mvSh sh order) j).length := by omega
    have k2 : k < (mvSt sh order).length := by omega
    have b1 := hx k hk
    have b2 := hsum (k + 1) (by omega)
    rw [impl_MoveAxes.s2, hpd, hpl, dlt hk, cond_true, idx_nat (by omega), idx_nat k2, w1 (by omega)]
    simp only [Option.bind_some, getD_get k1, getD_get k2]
    refine ⟨_, rfl, ?_⟩
    rw [wS (x := (plN (mvSh sh order) j).getD k 0 * (mvSt sh order).getD k 0) (by omega) (by omega), ha]
    have e : sumT k (fun k => (plN (mvSh sh order) j).getD k 0 * (mvSt sh order).getD k 0) + (plN (mvSh sh order) j).getD k 0 * (mvSt sh order).getD k 0 = sumT (k + 1) (fun k => (plN (mvSh sh order) j).getD k 0 * (mvSt sh order).getD k 0) := rfl
    rw [e, wS (by omega) (by omega)]
theorem impl_MoveAxes.fill (fuel : Nat) (sh da order : List Int) (hm : mvB sh da order = true) (hf : 60 < fuel) :
    impl_MoveAxes.L1 fuel fuel (impl_MoveAxes.t1 (mvSh sh order) sh da (mvSt sh order) 0 (List.replicate (volW (mvSh sh order)).toNat 0)) (impl_MoveAxes.k1 fuel) = some ([.agg [((.ints .i64 (mvSh sh order)), true), ((.ints .i64 (mvN sh da order)), true)], .one ((.bool true), false)], []) := by
  obtain ⟨h1, h2, h3, h4⟩ := mvB_inv hm
  have hd := data_prod h2
  have hvol := volS h4.vs
  have hv : (volW (mvSh sh order)).toNat = da.length := by rw [hvol.1, h4.pr]; omega
  have hN : (mvN sh da order).length = da.length := by simp only [mvN, tab_length]
  have hl := mvSh_length sh order
  have hr := validA_len h2
  rw [hv]
  refine run_loop (N := da.length) (fun n j out => impl_MoveAxes.L1 fuel n (impl_MoveAxes.t1 (mvSh sh order) sh da (mvSt sh order) (j : Int) out) (impl_MoveAxes.k1 fuel)) (fun j out => out = part (mvN sh da order) j) ?_ ?_ fuel 0 _ (by omega) (by omega) (by rw [part_zero, hN])
  · intro n out ho
    have hall := part_all (mvN sh da order)
    rw [hN] at hall
    rw [hall] at ho
    rw [impl_MoveAxes.s1]
    simp only [hv, List.length_replicate]
    rw [dge (by omega), cond_false, ho]
  · intro n j out hj ho
    have hol : out.length = da.length := by rw [ho, part_length (by omega), hN]
    rw [impl_MoveAxes.s1]
    simp only [hv, List.length_replicate]
    rw [dlt hj, cond_true, lt_of (by omega), cond_true, impl_MoveAxes.inner fuel n sh da order hm j hj out hol hf, w1 (by omega)]
    exact ⟨_, by rw [ho, part_set (by omega) rfl], rfl⟩
theorem impl_MoveAxes.ok : CallSpec Try.prog impl_MoveAxes.E := impl_MoveAxes.ok_of (by simp [impl_MoveAxes.X, impl_OrderBack.ok, impl_ValidArray.ok, impl_layoutOf_j.ok, impl_PlaceOf.ok]) fun sh da order h => by
  obtain ⟨F, hF⟩ : ∃ F : Nat, 60 < F := ⟨61, by omega⟩
  refine ⟨F, ?_⟩
  simp only [Bool.and_eq_true] at h
  rw [impl_MoveAxes.e, h.1.1, h.1.2, h.2]
  unfold mvS mvD
  cases ho : obB order with
  | false => simp only [mvB, ho]; rfl
  | true =>
    cases hv : validA sh da with
    | false => simp only [mvB, ho, hv]; rfl
    | true =>
      by_cases hl : order.length = sh.length
      · have hm : mvB sh da order = true := by simp only [mvB, ho, hv, hl, decide_true, Bool.and_self]
        obtain ⟨h1, h2, h3, h4⟩ := mvB_inv hm
        have hvs := (validA_inv hv).1
        have hr := (validA_len hv).1
        have hne : (((order.length : Nat) : Int) != ((sh.length : Nat) : Int)) = false := by rw [hl]; simp
        have hN1 := mvSh_length sh order
        have hN2 := mvSt_length sh order
        have hvb := vol_bd h4.vs
        rw [hne, hvs, mkOk (by omega) (by omega), Int.toNat_natCast, hm]
        simp only [Bool.not_true, Bool.and_self, cond_true, cond_false]
        refine run_loop (N := order.length) (fun n j (st : List Int × List Int) => impl_MoveAxes.L0 F n (impl_MoveAxes.t0 order sh da (strd sh 0) (strd sh 1) (strd sh 2) (volW sh) (j : Int) st.1 st.2) (impl_MoveAxes.k0 F)) (fun j st => st.1 = part (mvSh sh order) j ∧ st.2 = part (mvSt sh order) j) ?_ ?_ F 0 (List.replicate order.length 0, List.replicate order.length 0) (by omega) (by omega) ⟨by rw [part_zero, hN1], by rw [part_zero, hN2]⟩
        · rintro n ⟨x, y⟩ ⟨e1, e2⟩
          have a1 := part_all (mvSh sh order)
          have a2 := part_all (mvSt sh order)
          rw [hN1] at a1
          rw [hN2] at a2
          simp only at e1 e2
          rw [a1] at e1
          rw [a2] at e2
          subst e1
          subst e2
          dsimp only
          rw [impl_MoveAxes.s0, dge (by omega), cond_false, lt_of (by omega), h4.vs, mkOk hvb.1 (by omega)]
          simp only [cond_true]
          exact impl_MoveAxes.fill F sh da order hm hF
        · rintro n j ⟨x, y⟩ hj ⟨e1, e2⟩
          simp only at e1 e2
          have hx : x.length = order.length := by rw [e1, part_length (by omega), hN1]
          have hy : y.length = order.length := by rw [e2, part_length (by omega), hN2]
          obtain ⟨g1, g2, g3⟩ := ob_get h1 j hj
          have g2' : (order.getD j 0).toNat < sh.length := by omega
          have hi : idx (order.getD j 0) sh.length = some (order.getD j 0).toNat := by
            simp only [idx]
            rw [if_pos (by omega)]
          have f1 : x.set j (sh.getD (order.getD j 0).toNat 0) = part (mvSh sh order) (j + 1) := by
            rw [e1, part_set (by omega) (by rw [mvSh_get hj])]
          have f2 : y.set j (strd sh (order.getD j 0).toNat) = part (mvSt sh order) (j + 1) := by
            rw [e2, part_set (by omega) (by rw [mvSt_get hj])]
          refine ⟨(part (mvSh sh order) (j + 1), part (mvSt sh order) (j + 1)), ⟨rfl, rfl⟩, ?_⟩
          dsimp only
          rw [impl_MoveAxes.s0, dlt hj, cond_true, idx_nat hj, w1 (by omega)]
          simp only [Option.bind_some, getD_get hj, hi, getD_get g2']
          rw [idx_nat (by omega)]
          simp only [Option.bind_some]
          rw [f1]
          have hc : order.getD j 0 = ((0 : Nat) : Int) ∨ order.getD j 0 = ((1 : Nat) : Int) ∨ order.getD j 0 = ((2 : Nat) : Int) := by omega
          rcases hc with hc | hc | hc
          · rw [hc] at f2 ⊢
            rw [decide_eq_true (p := ((0 : Nat) : Int) = ((0 : Nat) : Int)) rfl, cond_true, decide_eq_true (by omega), cond_true, idx_nat (by omega)]
            simp only [Option.bind_some]
            rw [decide_eq_true (by omega), cond_true, ← f2]
            rfl
          · rw [hc] at f2 ⊢
            rw [decide_eq_false (p := ((1 : Nat) : Int) = ((0 : Nat) : Int)) (by omega), cond_false, decide_eq_true (p := ((1 : Nat) : Int) = ((1 : Nat) : Int)) rfl, cond_true, decide_eq_true (by omega), cond_true, idx_nat (by omega)]
            simp only [Option.bind_some]
            rw [decide_eq_true (by omega), cond_true, ← f2]
            rfl
          · rw [hc] at f2 ⊢
            rw [decide_eq_false (p := ((2 : Nat) : Int) = ((0 : Nat) : Int)) (by omega), cond_false, decide_eq_false (p := ((2 : Nat) : Int) = ((1 : Nat) : Int)) (by omega), cond_false, decide_eq_true (p := ((2 : Nat) : Int) = ((2 : Nat) : Int)) rfl, cond_true, decide_eq_true (by omega), cond_true, idx_nat (by omega)]
            simp only [Option.bind_some]
            rw [decide_eq_true (by omega), cond_true, ← f2]
            rfl
      · have hne : (((order.length : Nat) : Int) != ((sh.length : Nat) : Int)) = true := by simp; omega
        have hm : mvB sh da order = false := by simp only [mvB, decide_eq_false hl, Bool.and_false]
        rw [hne, hm]; rfl

namespace impl_Transpose
noncomputable def E : Entry := ⟨27, false, false, fun | [.d (.agg [(.ints .i64 sh), (.ints .i64 da)])] => decide (sh.length < 9223372036854775808) && decide (da.length < 9223372036854775808) | _ => false, fun | [.d (.agg [(.ints .i64 sh), (.ints .i64 da)])] => ([.agg [((.ints .i64 (trS sh da)), true), ((.ints .i64 (trD sh da)), true)]], []) | _ => ([], []), fun _ => [], true, fun _ => none⟩
end impl_Transpose
namespace impl_Transpose
noncomputable def X : List Entry := [impl_ValidArray.E, impl_CountTo.E, slices_Reverse_int_int.E, impl_MoveAxes.E]
noncomputable def I : List Inl := [⟨27, Try.f27, ⟨[13, 20], [], [], [], [], []⟩⟩]
theorem I_ok : ∀ i ∈ I, Try.prog.funcs[i.f]? = some i.fn ∧ (i.fn.name == "runtime.NumGoroutine") = false := by
  intro i hi
  simp only [I, List.mem_cons, List.not_mem_nil, or_false] at hi
  subst hi
  exact ⟨by kernel_rfl, by kernel_rfl⟩
theorem e (fuel : Nat) (p0q0 : List Int) (p0q1 : List Int) : runF Try.prog X I 0 fuel 27 Try.f27 [.d (.agg [(.ints .i64 p0q0), (.ints .i64 p0q1)])] =
  (bif decide (p0q0.length < 9223372036854775808) && decide (p0q1.length < 9223372036854775808) then
  (bif (!(validA p0q0 p0q1)) then
  some ([.agg [((.ints .i64 []), true), ((.ints .i64 []), true)]], [])
  else
  (bif decide ((((cntD (((p0q0.length : Nat) : Int)))) : List Int).length ≤ 3) then
  (bif decide (p0q0.length < 9223372036854775808) && decide (p0q1.length < 9223372036854775808) && decide (((((cntD (((p0q0.length : Nat) : Int)))).reverse)).length < 9223372036854775808) then
  some ([.agg [((.ints .i64 (mvS p0q0 p0q1 ((((cntD (((p0q0.length : Nat) : Int)))).reverse)))), true), ((.ints .i64 (mvD p0q0 p0q1 ((((cntD (((p0q0.length : Nat) : Int)))).reverse)))), true)]], [])
  else
  none)
  else
  none))
  else
  none) := by kernel_rfl
end impl_Transpose
theorem impl_Transpose.ok_of (hX : ∀ E ∈ impl_Transpose.X, CallSpec Try.prog E) (h : ∀ (sh : List Int) (da : List Int), (decide (sh.length < 9223372036854775808) && decide (da.length < 9223372036854775808)) = true → ∃ fuel, runF Try.prog impl_Transpose.X impl_Transpose.I 0 fuel 27 Try.f27 [.d (.agg [(.ints .i64 sh), (.ints .i64 da)])] = some ([.agg [((.ints .i64 (trS sh da)), true), ((.ints .i64 (trD sh da)), true)]], [])) : CallSpec Try.prog impl_Transpose.E :=
  callSpec_of (d := 0) hX (by kernel_rfl) impl_Transpose.I_ok (by kernel_rfl) (by kernel_rfl) (by kernel_rfl) (fun _ _ _ _ h => by dsimp only [impl_Transpose.E] at h; cases h) (fun xs hp => by
    dsimp only [impl_Transpose.E] at hp ⊢
    split at hp
    · exact h _ _ hp
    · cases hp)
theorem tr_rev {r : Nat} (h : r ≤ 3) : (cntD (r : Int)).reverse = trO r := by
  match r, h with
  | 0, _ => rfl
  | 1, _ => rfl
  | 2, _ => rfl
  | 3, _ => rfl
theorem impl_Transpose.ok : CallSpec Try.prog impl_Transpose.E := impl_Transpose.ok_of (by simp [impl_Transpose.X, impl_ValidArray.ok, impl_CountTo.ok, slices_Reverse_int_int.ok, impl_MoveAxes.ok]) fun sh da h => ⟨0, by
  have h' := h
  simp only [Bool.and_eq_true] at h'
  rw [impl_Transpose.e, h]
  unfold trS trD
  cases hv : validA sh da with
  | false => rfl
  | true =>
    have hr := (validA_len hv).1
    have e := tr_rev hr
    have hl : (cntD ((sh.length : Nat) : Int)).length ≤ 3 := by
      have := congrArg List.length e
      rw [List.length_reverse] at this
      rw [this, trO, tab_length]; exact hr
    rw [decide_eq_true hl, e, lt_of (xs := trO sh.length) (by rw [trO, tab_length]; omega)]
    rfl⟩

namespace laws_FnOuterProductTurn
noncomputable def E : Entry := ⟨6, true, false, fun | [.d (.ints .u8 bs)] => bytesB bs | _ => false, fun | [.d (.ints .u8 bs)] => ([.one ((.bool true), false)], []) | _ => ([], []), fun _ => [], false, fun _ => none⟩
end laws_FnOuterProductTurn
namespace laws_FnOuterProductTurn
noncomputable def X : List Entry := [spec_DrawOuterProduct.E, impl_OuterProduct.E, spec_OuterProduct.E, laws_equalArray.E, impl_RankOf.E, impl_Transpose.E]
noncomputable def I : List Inl := [⟨6, Try.f6, ⟨[17, 25, 32, 82, 88], [], [], [(9, [0, 1, 2, 4, 3, 5, 6, 7])], [], []⟩⟩]
theorem I_ok : ∀ i ∈ I, Try.prog.funcs[i.f]? = some i.fn ∧ (i.fn.name == "runtime.NumGoroutine") = false := by
  intro i hi
  simp only [I, List.mem_cons, List.not_mem_nil, or_false] at hi
  subst hi
  exact ⟨by kernel_rfl, by kernel_rfl⟩
theorem e (fuel : Nat) (p0 : List Int) : runF Try.prog X I 0 fuel 6 Try.f6 [.d (.ints .u8 p0)] =
  (bif (decide ((((p0.length : Nat) : Int) : Int) > 1048576)) then
  some ([.one ((.bool true), false)], [])
  else
  (bif bytesB p0 then
  (bif decide (((avS (cutC p0) 2)).length < 9223372036854775808) && decide (((avD (cutC p0) 2)).length < 9223372036854775808) && decide (((avS (cutC p0) (avP (cutC p0) 2))).length < 9223372036854775808) && decide (((avD (cutC p0) (avP (cutC p0) 2))).length < 9223372036854775808) then
  (bif decide (((avS (cutC p0) 2)).length < 9223372036854775808) && decide (((avD (cutC p0) 2)).length < 9223372036854775808) && decide (((avS (cutC p0) (avP (cutC p0) 2))).length < 9223372036854775808) && decide (((avD (cutC p0) (avP (cutC p0) 2))).length < 9223372036854775808) then
  (bif decide (((otS ((anyOpV (cutC p0) 0)) ((avS (cutC p0) 2)) ((avD (cutC p0) 2)) ((avS (cutC p0) (avP (cutC p0) 2))) ((avD (cutC p0) (avP (cutC p0) 2))))).length < 9223372036854775808) && decide (((otD ((anyOpV (cutC p0) 0)) ((avS (cutC p0) 2)) ((avD (cutC p0) 2)) ((avS (cutC p0) (avP (cutC p0) 2))) ((avD (cutC p0) (avP (cutC p0) 2))))).length < 9223372036854775808) && decide (((otS ((anyOpV (cutC p0) 0)) ((avS (cutC p0) 2)) ((avD (cutC p0) 2)) ((avS (cutC p0) (avP (cutC p0) 2))) ((avD (cutC p0) (avP (cutC p0) 2))))).length < 9223372036854775808) && decide (((otD ((anyOpV (cutC p0) 0)) ((avS (cutC p0) 2)) ((avD (cutC p0) 2)) ((avS (cutC p0) (avP (cutC p0) 2))) ((avD (cutC p0) (avP (cutC p0) 2))))).length < 9223372036854775808) then
  (bif (!(decide (((otS ((anyOpV (cutC p0) 0)) ((avS (cutC p0) 2)) ((avD (cutC p0) 2)) ((avS (cutC p0) (avP (cutC p0) 2))) ((avD (cutC p0) (avP (cutC p0) 2))))) = ((otS ((anyOpV (cutC p0) 0)) ((avS (cutC p0) 2)) ((avD (cutC p0) 2)) ((avS (cutC p0) (avP (cutC p0) 2))) ((avD (cutC p0) (avP (cutC p0) 2)))))) && decide (((otD ((anyOpV (cutC p0) 0)) ((avS (cutC p0) 2)) ((avD (cutC p0) 2)) ((avS (cutC p0) (avP (cutC p0) 2))) ((avD (cutC p0) (avP (cutC p0) 2))))) = ((otD ((anyOpV (cutC p0) 0)) ((avS (cutC p0) 2)) ((avD (cutC p0) 2)) ((avS (cutC p0) (avP (cutC p0) 2))) ((avD (cutC p0) (avP (cutC p0) 2)))))))) then
  (bif decide (((otS ((anyOpV (cutC p0) 0)) ((avS (cutC p0) 2)) ((avD (cutC p0) 2)) ((avS (cutC p0) (avP (cutC p0) 2))) ((avD (cutC p0) (avP (cutC p0) 2))))).length < 9223372036854775808) && decide (((otD ((anyOpV (cutC p0) 0)) ((avS (cutC p0) 2)) ((avD (cutC p0) 2)) ((avS (cutC p0) (avP (cutC p0) 2))) ((avD (cutC p0) (avP (cutC p0) 2))))).length < 9223372036854775808) && decide (((otS ((anyOpV (cutC p0) 0)) ((avS (cutC p0) 2)) ((avD (cutC p0) 2)) ((avS (cutC p0) (avP (cutC p0) 2))) ((avD (cutC p0) (avP (cutC p0) 2))))).length < 9223372036854775808) && decide (((otD ((anyOpV (cutC p0) 0)) ((avS (cutC p0) 2)) ((avD (cutC p0) 2)) ((avS (cutC p0) (avP (cutC p0) 2))) ((avD (cutC p0) (avP (cutC p0) 2))))).length < 9223372036854775808) then
  (bif (decide (((otS ((anyOpV (cutC p0) 0)) ((avS (cutC p0) 2)) ((avD (cutC p0) 2)) ((avS (cutC p0) (avP (cutC p0) 2))) ((avD (cutC p0) (avP (cutC p0) 2))))) = ((otS ((anyOpV (cutC p0) 0)) ((avS (cutC p0) 2)) ((avD (cutC p0) 2)) ((avS (cutC p0) (avP (cutC p0) 2))) ((avD (cutC p0) (avP (cutC p0) 2)))))) && decide (((otD ((anyOpV (cutC p0) 0)) ((avS (cutC p0) 2)) ((avD (cutC p0) 2)) ((avS (cutC p0) (avP (cutC p0) 2))) ((avD (cutC p0) (avP (cutC p0) 2))))) = ((otD ((anyOpV (cutC p0) 0)) ((avS (cutC p0) 2)) ((avD (cutC p0) 2)) ((avS (cutC p0) (avP (cutC p0) 2))) ((avD (cutC p0) (avP (cutC p0) 2))))))) then
  some ([.one ((.bool ((otB ((anyOpV (cutC p0) 0)) ((avS (cutC p0) 2)) ((avD (cutC p0) 2)) ((avS (cutC p0) (avP (cutC p0) 2))) ((avD (cutC p0) (avP (cutC p0) 2)))) == (otB ((anyOpV (cutC p0) 0)) ((avS (cutC p0) 2)) ((avD (cutC p0) 2)) ((avS (cutC p0) (avP (cutC p0) 2))) ((avD (cutC p0) (avP (cutC p0) 2)))))), false)], [])
  else
  some ([.one ((.bool false), false)], []))
  else
  none)
  else
  (bif (!((otB ((anyOpV (cutC p0) 0)) ((avS (cutC p0) 2)) ((avD (cutC p0) 2)) ((avS (cutC p0) (avP (cutC p0) 2))) ((avD (cutC p0) (avP (cutC p0) 2)))) == (otB ((anyOpV (cutC p0) 0)) ((avS (cutC p0) 2)) ((avD (cutC p0) 2)) ((avS (cutC p0) (avP (cutC p0) 2))) ((avD (cutC p0) (avP (cutC p0) 2)))))) then
  (bif decide (((otS ((anyOpV (cutC p0) 0)) ((avS (cutC p0) 2)) ((avD (cutC p0) 2)) ((avS (cutC p0) (avP (cutC p0) 2))) ((avD (cutC p0) (avP (cutC p0) 2))))).length < 9223372036854775808) && decide (((otD ((anyOpV (cutC p0) 0)) ((avS (cutC p0) 2)) ((avD (cutC p0) 2)) ((avS (cutC p0) (avP (cutC p0) 2))) ((avD (cutC p0) (avP (cutC p0) 2))))).length < 9223372036854775808) && decide (((otS ((anyOpV (cutC p0) 0)) ((avS (cutC p0) 2)) ((avD (cutC p0) 2)) ((avS (cutC p0) (avP (cutC p0) 2))) ((avD (cutC p0) (avP (cutC p0) 2))))).length < 9223372036854775808) && decide (((otD ((anyOpV (cutC p0) 0)) ((avS (cutC p0) 2)) ((avD (cutC p0) 2)) ((avS (cutC p0) (avP (cutC p0) 2))) ((avD (cutC p0) (avP (cutC p0) 2))))).length < 9223372036854775808) then
  (bif (decide (((otS ((anyOpV (cutC p0) 0)) ((avS (cutC p0) 2)) ((avD (cutC p0) 2)) ((avS (cutC p0) (avP (cutC p0) 2))) ((avD (cutC p0) (avP (cutC p0) 2))))) = ((otS ((anyOpV (cutC p0) 0)) ((avS (cutC p0) 2)) ((avD (cutC p0) 2)) ((avS (cutC p0) (avP (cutC p0) 2))) ((avD (cutC p0) (avP (cutC p0) 2)))))) && decide (((otD ((anyOpV (cutC p0) 0)) ((avS (cutC p0) 2)) ((avD (cutC p0) 2)) ((avS (cutC p0) (avP (cutC p0) 2))) ((avD (cutC p0) (avP (cutC p0) 2))))) = ((otD ((anyOpV (cutC p0) 0)) ((avS (cutC p0) 2)) ((avD (cutC p0) 2)) ((avS (cutC p0) (avP (cutC p0) 2))) ((avD (cutC p0) (avP (cutC p0) 2))))))) then
  some ([.one ((.bool ((otB ((anyOpV (cutC p0) 0)) ((avS (cutC p0) 2)) ((avD (cutC p0) 2)) ((avS (cutC p0) (avP (cutC p0) 2))) ((avD (cutC p0) (avP (cutC p0) 2)))) == (otB ((anyOpV (cutC p0) 0)) ((avS (cutC p0) 2)) ((avD (cutC p0) 2)) ((avS (cutC p0) (avP (cutC p0) 2))) ((avD (cutC p0) (avP (cutC p0) 2)))))), false)], [])
  else
  some ([.one ((.bool false), false)], []))
  else
  none)
  else
  (bif (!(otB ((anyOpV (cutC p0) 0)) ((avS (cutC p0) 2)) ((avD (cutC p0) 2)) ((avS (cutC p0) (avP (cutC p0) 2))) ((avD (cutC p0) (avP (cutC p0) 2))))) then
  (bif decide (((otS ((anyOpV (cutC p0) 0)) ((avS (cutC p0) 2)) ((avD (cutC p0) 2)) ((avS (cutC p0) (avP (cutC p0) 2))) ((avD (cutC p0) (avP (cutC p0) 2))))).length < 9223372036854775808) && decide (((otD ((anyOpV (cutC p0) 0)) ((avS (cutC p0) 2)) ((avD (cutC p0) 2)) ((avS (cutC p0) (avP (cutC p0) 2))) ((avD (cutC p0) (avP (cutC p0) 2))))).length < 9223372036854775808) && decide (((otS ((anyOpV (cutC p0) 0)) ((avS (cutC p0) 2)) ((avD (cutC p0) 2)) ((avS (cutC p0) (avP (cutC p0) 2))) ((avD (cutC p0) (avP (cutC p0) 2))))).length < 9223372036854775808) && decide (((otD ((anyOpV (cutC p0) 0)) ((avS (cutC p0) 2)) ((avD (cutC p0) 2)) ((avS (cutC p0) (avP (cutC p0) 2))) ((avD (cutC p0) (avP (cutC p0) 2))))).length < 9223372036854775808) then
  (bif (decide (((otS ((anyOpV (cutC p0) 0)) ((avS (cutC p0) 2)) ((avD (cutC p0) 2)) ((avS (cutC p0) (avP (cutC p0) 2))) ((avD (cutC p0) (avP (cutC p0) 2))))) = ((otS ((anyOpV (cutC p0) 0)) ((avS (cutC p0) 2)) ((avD (cutC p0) 2)) ((avS (cutC p0) (avP (cutC p0) 2))) ((avD (cutC p0) (avP (cutC p0) 2)))))) && decide (((otD ((anyOpV (cutC p0) 0)) ((avS (cutC p0) 2)) ((avD (cutC p0) 2)) ((avS (cutC p0) (avP (cutC p0) 2))) ((avD (cutC p0) (avP (cutC p0) 2))))) = ((otD ((anyOpV (cutC p0) 0)) ((avS (cutC p0) 2)) ((avD (cutC p0) 2)) ((avS (cutC p0) (avP (cutC p0) 2))) ((avD (cutC p0) (avP (cutC p0) 2))))))) then
  some ([.one ((.bool ((otB ((anyOpV (cutC p0) 0)) ((avS (cutC p0) 2)) ((avD (cutC p0) 2)) ((avS (cutC p0) (avP (cutC p0) 2))) ((avD (cutC p0) (avP (cutC p0) 2)))) == (otB ((anyOpV (cutC p0) 0)) ((avS (cutC p0) 2)) ((avD (cutC p0) 2)) ((avS (cutC p0) (avP (cutC p0) 2))) ((avD (cutC p0) (avP (cutC p0) 2)))))), false)], [])
  else
  some ([.one ((.bool false), false)], []))
  else
  none)
  else
  (bif decide (((avS (cutC p0) 2)).length < 9223372036854775808) && decide (((avD (cutC p0) 2)).length < 9223372036854775808) then
  (bif (((rankV ((avS (cutC p0) 2)) ((avD (cutC p0) 2))) : Int) != 1) then
  (bif decide (((otS ((anyOpV (cutC p0) 0)) ((avS (cutC p0) 2)) ((avD (cutC p0) 2)) ((avS (cutC p0) (avP (cutC p0) 2))) ((avD (cutC p0) (avP (cutC p0) 2))))).length < 9223372036854775808) && decide (((otD ((anyOpV (cutC p0) 0)) ((avS (cutC p0) 2)) ((avD (cutC p0) 2)) ((avS (cutC p0) (avP (cutC p0) 2))) ((avD (cutC p0) (avP (cutC p0) 2))))).length < 9223372036854775808) && decide (((otS ((anyOpV (cutC p0) 0)) ((avS (cutC p0) 2)) ((avD (cutC p0) 2)) ((avS (cutC p0) (avP (cutC p0) 2))) ((avD (cutC p0) (avP (cutC p0) 2))))).length < 9223372036854775808) && decide (((otD ((anyOpV (cutC p0) 0)) ((avS (cutC p0) 2)) ((avD (cutC p0) 2)) ((avS (cutC p0) (avP (cutC p0) 2))) ((avD (cutC p0) (avP (cutC p0) 2))))).length < 9223372036854775808) then
  (bif (decide (((otS ((anyOpV (cutC p0) 0)) ((avS (cutC p0) 2)) ((avD (cutC p0) 2)) ((avS (cutC p0) (avP (cutC p0) 2))) ((avD (cutC p0) (avP (cutC p0) 2))))) = ((otS ((anyOpV (cutC p0) 0)) ((avS (cutC p0) 2)) ((avD (cutC p0) 2)) ((avS (cutC p0) (avP (cutC p0) 2))) ((avD (cutC p0) (avP (cutC p0) 2)))))) && decide (((otD ((anyOpV (cutC p0) 0)) ((avS (cutC p0) 2)) ((avD (cutC p0) 2)) ((avS (cutC p0) (avP (cutC p0) 2))) ((avD (cutC p0) (avP (cutC p0) 2))))) = ((otD ((anyOpV (cutC p0) 0)) ((avS (cutC p0) 2)) ((avD (cutC p0) 2)) ((avS (cutC p0) (avP (cutC p0) 2))) ((avD (cutC p0) (avP (cutC p0) 2))))))) then
  some ([.one ((.bool ((otB ((anyOpV (cutC p0) 0)) ((avS (cutC p0) 2)) ((avD (cutC p0) 2)) ((avS (cutC p0) (avP (cutC p0) 2))) ((avD (cutC p0) (avP (cutC p0) 2)))) == (otB ((anyOpV (cutC p0) 0)) ((avS (cutC p0) 2)) ((avD (cutC p0) 2)) ((avS (cutC p0) (avP (cutC p0) 2))) ((avD (cutC p0) (avP (cutC p0) 2)))))), false)], [])
  else
  some ([.one ((.bool false), false)], []))
  else
  none)
  else
  (bif decide (((avS (cutC p0) (avP (cutC p0) 2))).length < 9223372036854775808) && decide (((avD (cutC p0) (avP (cutC p0) 2))).length < 9223372036854775808) then
  (bif (((rankV ((avS (cutC p0) (avP (cutC p0) 2))) ((avD (cutC p0) (avP (cutC p0) 2)))) : Int) != 1) then
  (bif decide (((otS ((anyOpV (cutC p0) 0)) ((avS (cutC p0) 2)) ((avD (cutC p0) 2)) ((avS (cutC p0) (avP (cutC p0) 2))) ((avD (cutC p0) (avP (cutC p0) 2))))).length < 9223372036854775808) && decide (((otD ((anyOpV (cutC p0) 0)) ((avS (cutC p0) 2)) ((avD (cutC p0) 2)) ((avS (cutC p0) (avP (cutC p0) 2))) ((avD (cutC p0) (avP (cutC p0) 2))))).length < 9223372036854775808) && decide (((otS ((anyOpV (cutC p0) 0)) ((avS (cutC p0) 2)) ((avD (cutC p0) 2)) ((avS (cutC p0) (avP (cutC p0) 2))) ((avD (cutC p0) (avP (cutC p0) 2))))).length < 9223372036854775808) && decide (((otD ((anyOpV (cutC p0) 0)) ((avS (cutC p0) 2)) ((avD (cutC p0) 2)) ((avS (cutC p0) (avP (cutC p0) 2))) ((avD (cutC p0) (avP (cutC p0) 2))))).length < 9223372036854775808) then
  (bif (decide (((otS ((anyOpV (cutC p0) 0)) ((avS (cutC p0) 2)) ((avD (cutC p0) 2)) ((avS (cutC p0) (avP (cutC p0) 2))) ((avD (cutC p0) (avP (cutC p0) 2))))) = ((otS ((anyOpV (cutC p0) 0)) ((avS (cutC p0) 2)) ((avD (cutC p0) 2)) ((avS (cutC p0) (avP (cutC p0) 2))) ((avD (cutC p0) (avP (cutC p0) 2)))))) && decide (((otD ((anyOpV (cutC p0) 0)) ((avS (cutC p0) 2)) ((avD (cutC p0) 2)) ((avS (cutC p0) (avP (cutC p0) 2))) ((avD (cutC p0) (avP (cutC p0) 2))))) = ((otD ((anyOpV (cutC p0) 0)) ((avS (cutC p0) 2)) ((avD (cutC p0) 2)) ((avS (cutC p0) (avP (cutC p0) 2))) ((avD (cutC p0) (avP (cutC p0) 2))))))) then
  some ([.one ((.bool ((otB ((anyOpV (cutC p0) 0)) ((avS (cutC p0) 2)) ((avD (cutC p0) 2)) ((avS (cutC p0) (avP (cutC p0) 2))) ((avD (cutC p0) (avP (cutC p0) 2)))) == (otB ((anyOpV (cutC p0) 0)) ((avS (cutC p0) 2)) ((avD (cutC p0) 2)) ((avS (cutC p0) (avP (cutC p0) 2))) ((avD (cutC p0) (avP (cutC p0) 2)))))), false)], [])
  else
  some ([.one ((.bool false), false)], []))
  else
  none)
  else
  (bif (((anyOpV (cutC p0) 0) : Int) != 1) then
  (bif (((anyOpV (cutC p0) 0) : Int) != 3) then
  (bif (((anyOpV (cutC p0) 0) : Int) != 6) then
  (bif decide (((otS ((anyOpV (cutC p0) 0)) ((avS (cutC p0) 2)) ((avD (cutC p0) 2)) ((avS (cutC p0) (avP (cutC p0) 2))) ((avD (cutC p0) (avP (cutC p0) 2))))).length < 9223372036854775808) && decide (((otD ((anyOpV (cutC p0) 0)) ((avS (cutC p0) 2)) ((avD (cutC p0) 2)) ((avS (cutC p0) (avP (cutC p0) 2))) ((avD (cutC p0) (avP (cutC p0) 2))))).length < 9223372036854775808) && decide (((otS ((anyOpV (cutC p0) 0)) ((avS (cutC p0) 2)) ((avD (cutC p0) 2)) ((avS (cutC p0) (avP (cutC p0) 2))) ((avD (cutC p0) (avP (cutC p0) 2))))).length < 9223372036854775808) && decide (((otD ((anyOpV (cutC p0) 0)) ((avS (cutC p0) 2)) ((avD (cutC p0) 2)) ((avS (cutC p0) (avP (cutC p0) 2))) ((avD (cutC p0) (avP (cutC p0) 2))))).length < 9223372036854775808) then
  (bif (decide (((otS ((anyOpV (cutC p0) 0)) ((avS (cutC p0) 2)) ((avD (cutC p0) 2)) ((avS (cutC p0) (avP (cutC p0) 2))) ((avD (cutC p0) (avP (cutC p0) 2))))) = ((otS ((anyOpV (cutC p0) 0)) ((avS (cutC p0) 2)) ((avD (cutC p0) 2)) ((avS (cutC p0) (avP (cutC p0) 2))) ((avD (cutC p0) (avP (cutC p0) 2)))))) && decide (((otD ((anyOpV (cutC p0) 0)) ((avS (cutC p0) 2)) ((avD (cutC p0) 2)) ((avS (cutC p0) (avP (cutC p0) 2))) ((avD (cutC p0) (avP (cutC p0) 2))))) = ((otD ((anyOpV (cutC p0) 0)) ((avS (cutC p0) 2)) ((avD (cutC p0) 2)) ((avS (cutC p0) (avP (cutC p0) 2))) ((avD (cutC p0) (avP (cutC p0) 2))))))) then
  some ([.one ((.bool ((otB ((anyOpV (cutC p0) 0)) ((avS (cutC p0) 2)) ((avD (cutC p0) 2)) ((avS (cutC p0) (avP (cutC p0) 2))) ((avD (cutC p0) (avP (cutC p0) 2)))) == (otB ((anyOpV (cutC p0) 0)) ((avS (cutC p0) 2)) ((avD (cutC p0) 2)) ((avS (cutC p0) (avP (cutC p0) 2))) ((avD (cutC p0) (avP (cutC p0) 2)))))), false)], [])
  else
  some ([.one ((.bool false), false)], []))
  else
  none)
  else
  (bif decide (((avS (cutC p0) (avP (cutC p0) 2))).length < 9223372036854775808) && decide (((avD (cutC p0) (avP (cutC p0) 2))).length < 9223372036854775808) && decide (((avS (cutC p0) 2)).length < 9223372036854775808) && decide (((avD (cutC p0) 2)).length < 9223372036854775808) then
  (bif (otB ((anyOpV (cutC p0) 0)) ((avS (cutC p0) (avP (cutC p0) 2))) ((avD (cutC p0) (avP (cutC p0) 2))) ((avS (cutC p0) 2)) ((avD (cutC p0) 2))) then
  (bif decide (((otS ((anyOpV (cutC p0) 0)) ((avS (cutC p0) (avP (cutC p0) 2))) ((avD (cutC p0) (avP (cutC p0) 2))) ((avS (cutC p0) 2)) ((avD (cutC p0) 2)))).length < 9223372036854775808) && decide (((otD ((anyOpV (cutC p0) 0)) ((avS (cutC p0) (avP (cutC p0) 2))) ((avD (cutC p0) (avP (cutC p0) 2))) ((avS (cutC p0) 2)) ((avD (cutC p0) 2)))).length < 9223372036854775808) then
  (bif decide (((trS ((otS ((anyOpV (cutC p0) 0)) ((avS (cutC p0) (avP (cutC p0) 2))) ((avD (cutC p0) (avP (cutC p0) 2))) ((avS (cutC p0) 2)) ((avD (cutC p0) 2)))) ((otD ((anyOpV (cutC p0) 0)) ((avS (cutC p0) (avP (cutC p0) 2))) ((avD (cutC p0) (avP (cutC p0) 2))) ((avS (cutC p0) 2)) ((avD (cutC p0) 2)))))).length < 9223372036854775808) && decide (((trD ((otS ((anyOpV (cutC p0) 0)) ((avS (cutC p0) (avP (cutC p0) 2))) ((avD (cutC p0) (avP (cutC p0) 2))) ((avS (cutC p0) 2)) ((avD (cutC p0) 2)))) ((otD ((anyOpV (cutC p0) 0)) ((avS (cutC p0) (avP (cutC p0) 2))) ((avD (cutC p0) (avP (cutC p0) 2))) ((avS (cutC p0) 2)) ((avD (cutC p0) 2)))))).length < 9223372036854775808) && decide (((otS ((anyOpV (cutC p0) 0)) ((avS (cutC p0) 2)) ((avD (cutC p0) 2)) ((avS (cutC p0) (avP (cutC p0) 2))) ((avD (cutC p0) (avP (cutC p0) 2))))).length < 9223372036854775808) && decide (((otD ((anyOpV (cutC p0) 0)) ((avS (cutC p0) 2)) ((avD (cutC p0) 2)) ((avS (cutC p0) (avP (cutC p0) 2))) ((avD (cutC p0) (avP (cutC p0) 2))))).length < 9223372036854775808) then
  some ([.one ((.bool (decide (((trS ((otS ((anyOpV (cutC p0) 0)) ((avS (cutC p0) (avP (cutC p0) 2))) ((avD (cutC p0) (avP (cutC p0) 2))) ((avS (cutC p0) 2)) ((avD (cutC p0) 2)))) ((otD ((anyOpV (cutC p0) 0)) ((avS (cutC p0) (avP (cutC p0) 2))) ((avD (cutC p0) (avP (cutC p0) 2))) ((avS (cutC p0) 2)) ((avD (cutC p0) 2)))))) = ((otS ((anyOpV (cutC p0) 0)) ((avS (cutC p0) 2)) ((avD (cutC p0) 2)) ((avS (cutC p0) (avP (cutC p0) 2))) ((avD (cutC p0) (avP (cutC p0) 2)))))) && decide (((trD ((otS ((anyOpV (cutC p0) 0)) ((avS (cutC p0) (avP (cutC p0) 2))) ((avD (cutC p0) (avP (cutC p0) 2))) ((avS (cutC p0) 2)) ((avD (cutC p0) 2)))) ((otD ((anyOpV (cutC p0) 0)) ((avS (cutC p0) (avP (cutC p0) 2))) ((avD (cutC p0) (avP (cutC p0) 2))) ((avS (cutC p0) 2)) ((avD (cutC p0) 2)))))) = ((otD ((anyOpV (cutC p0) 0)) ((avS (cutC p0) 2)) ((avD (cutC p0) 2)) ((avS (cutC p0) (avP (cutC p0) 2))) ((avD (cutC p0) (avP (cutC p0) 2)))))))), false)], [])
  else
  none)
  else
  none)
  else
  some ([.one ((.bool false), false)], []))
  else
  none))
  else
  (bif decide (((avS (cutC p0) (avP (cutC p0) 2))).length < 9223372036854775808) && decide (((avD (cutC p0) (avP (cutC p0) 2))).length < 9223372036854775808) && decide (((avS (cutC p0) 2)).length < 9223372036854775808) && decide (((avD (cutC p0) 2)).length < 9223372036854775808) then
  (bif (otB ((anyOpV (cutC p0) 0)) ((avS (cutC p0) (avP (cutC p0) 2))) ((avD (cutC p0) (avP (cutC p0) 2))) ((avS (cutC p0) 2)) ((avD (cutC p0) 2))) then
  (bif decide (((otS ((anyOpV (cutC p0) 0)) ((avS (cutC p0) (avP (cutC p0) 2))) ((avD (cutC p0) (avP (cutC p0) 2))) ((avS (cutC p0) 2)) ((avD (cutC p0) 2)))).length < 9223372036854775808) && decide (((otD ((anyOpV (cutC p0) 0)) ((avS (cutC p0) (avP (cutC p0) 2))) ((avD (cutC p0) (avP (cutC p0) 2))) ((avS (cutC p0) 2)) ((avD (cutC p0) 2)))).length < 9223372036854775808) then
  (bif decide (((trS ((otS ((anyOpV (cutC p0) 0)) ((avS (cutC p0) (avP (cutC p0) 2))) ((avD (cutC p0) (avP (cutC p0) 2))) ((avS (cutC p0) 2)) ((avD (cutC p0) 2)))) ((otD ((anyOpV (cutC p0) 0)) ((avS (cutC p0) (avP (cutC p0) 2))) ((avD (cutC p0) (avP (cutC p0) 2))) ((avS (cutC p0) 2)) ((avD (cutC p0) 2)))))).length < 9223372036854775808) && decide (((trD ((otS ((anyOpV (cutC p0) 0)) ((avS (cutC p0) (avP (cutC p0) 2))) ((avD (cutC p0) (avP (cutC p0) 2))) ((avS (cutC p0) 2)) ((avD (cutC p0) 2)))) ((otD ((anyOpV (cutC p0) 0)) ((avS (cutC p0) (avP (cutC p0) 2))) ((avD (cutC p0) (avP (cutC p0) 2))) ((avS (cutC p0) 2)) ((avD (cutC p0) 2)))))).length < 9223372036854775808) && decide (((otS ((anyOpV (cutC p0) 0)) ((avS (cutC p0) 2)) ((avD (cutC p0) 2)) ((avS (cutC p0) (avP (cutC p0) 2))) ((avD (cutC p0) (avP (cutC p0) 2))))).length < 9223372036854775808) && decide (((otD ((anyOpV (cutC p0) 0)) ((avS (cutC p0) 2)) ((avD (cutC p0) 2)) ((avS (cutC p0) (avP (cutC p0) 2))) ((avD (cutC p0) (avP (cutC p0) 2))))).length < 9223372036854775808) then
  some ([.one ((.bool (decide (((trS ((otS ((anyOpV (cutC p0) 0)) ((avS (cutC p0) (avP (cutC p0) 2))) ((avD (cutC p0) (avP (cutC p0) 2))) ((avS (cutC p0) 2)) ((avD (cutC p0) 2)))) ((otD ((anyOpV (cutC p0) 0)) ((avS (cutC p0) (avP (cutC p0) 2))) ((avD (cutC p0) (avP (cutC p0) 2))) ((avS (cutC p0) 2)) ((avD (cutC p0) 2)))))) = ((otS ((anyOpV (cutC p0) 0)) ((avS (cutC p0) 2)) ((avD (cutC p0) 2)) ((avS (cutC p0) (avP (cutC p0) 2))) ((avD (cutC p0) (avP (cutC p0) 2)))))) && decide (((trD ((otS ((anyOpV (cutC p0) 0)) ((avS (cutC p0) (avP (cutC p0) 2))) ((avD (cutC p0) (avP (cutC p0) 2))) ((avS (cutC p0) 2)) ((avD (cutC p0) 2)))) ((otD ((anyOpV (cutC p0) 0)) ((avS (cutC p0) (avP (cutC p0) 2))) ((avD (cutC p0) (avP (cutC p0) 2))) ((avS (cutC p0) 2)) ((avD (cutC p0) 2)))))) = ((otD ((anyOpV (cutC p0) 0)) ((avS (cutC p0) 2)) ((avD (cutC p0) 2)) ((avS (cutC p0) (avP (cutC p0) 2))) ((avD (cutC p0) (avP (cutC p0) 2)))))))), false)], [])
  else
  none)
  else
  none)
  else
  some ([.one ((.bool false), false)], []))
  else
  none))
  else
  (bif decide (((avS (cutC p0) (avP (cutC p0) 2))).length < 9223372036854775808) && decide (((avD (cutC p0) (avP (cutC p0) 2))).length < 9223372036854775808) && decide (((avS (cutC p0) 2)).length < 9223372036854775808) && decide (((avD (cutC p0) 2)).length < 9223372036854775808) then
  (bif (otB ((anyOpV (cutC p0) 0)) ((avS (cutC p0) (avP (cutC p0) 2))) ((avD (cutC p0) (avP (cutC p0) 2))) ((avS (cutC p0) 2)) ((avD (cutC p0) 2))) then
  (bif decide (((otS ((anyOpV (cutC p0) 0)) ((avS (cutC p0) (avP (cutC p0) 2))) ((avD (cutC p0) (avP (cutC p0) 2))) ((avS (cutC p0) 2)) ((avD (cutC p0) 2)))).length < 9223372036854775808) && decide (((otD ((anyOpV (cutC p0) 0)) ((avS (cutC p0) (avP (cutC p0) 2))) ((avD (cutC p0) (avP (cutC p0) 2))) ((avS (cutC p0) 2)) ((avD (cutC p0) 2)))).length < 9223372036854775808) then
  (bif decide (((trS ((otS ((anyOpV (cutC p0) 0)) ((avS (cutC p0) (avP (cutC p0) 2))) ((avD (cutC p0) (avP (cutC p0) 2))) ((avS (cutC p0) 2)) ((avD (cutC p0) 2)))) ((otD ((anyOpV (cutC p0) 0)) ((avS (cutC p0) (avP (cutC p0) 2))) ((avD (cutC p0) (avP (cutC p0) 2))) ((avS (cutC p0) 2)) ((avD (cutC p0) 2)))))).length < 9223372036854775808) && decide (((trD ((otS ((anyOpV (cutC p0) 0)) ((avS (cutC p0) (avP (cutC p0) 2))) ((avD (cutC p0) (avP (cutC p0) 2))) ((avS (cutC p0) 2)) ((avD (cutC p0) 2)))) ((otD ((anyOpV (cutC p0) 0)) ((avS (cutC p0) (avP (cutC p0) 2))) ((avD (cutC p0) (avP (cutC p0) 2))) ((avS (cutC p0) 2)) ((avD (cutC p0) 2)))))).length < 9223372036854775808) && decide (((otS ((anyOpV (cutC p0) 0)) ((avS (cutC p0) 2)) ((avD (cutC p0) 2)) ((avS (cutC p0) (avP (cutC p0) 2))) ((avD (cutC p0) (avP (cutC p0) 2))))).length < 9223372036854775808) && decide (((otD ((anyOpV (cutC p0) 0)) ((avS (cutC p0) 2)) ((avD (cutC p0) 2)) ((avS (cutC p0) (avP (cutC p0) 2))) ((avD (cutC p0) (avP (cutC p0) 2))))).length < 9223372036854775808) then
  some ([.one ((.bool (decide (((trS ((otS ((anyOpV (cutC p0) 0)) ((avS (cutC p0) (avP (cutC p0) 2))) ((avD (cutC p0) (avP (cutC p0) 2))) ((avS (cutC p0) 2)) ((avD (cutC p0) 2)))) ((otD ((anyOpV (cutC p0) 0)) ((avS (cutC p0) (avP (cutC p0) 2))) ((avD (cutC p0) (avP (cutC p0) 2))) ((avS (cutC p0) 2)) ((avD (cutC p0) 2)))))) = ((otS ((anyOpV (cutC p0) 0)) ((avS (cutC p0) 2)) ((avD (cutC p0) 2)) ((avS (cutC p0) (avP (cutC p0) 2))) ((avD (cutC p0) (avP (cutC p0) 2)))))) && decide (((trD ((otS ((anyOpV (cutC p0) 0)) ((avS (cutC p0) (avP (cutC p0) 2))) ((avD (cutC p0) (avP (cutC p0) 2))) ((avS (cutC p0) 2)) ((avD (cutC p0) 2)))) ((otD ((anyOpV (cutC p0) 0)) ((avS (cutC p0) (avP (cutC p0) 2))) ((avD (cutC p0) (avP (cutC p0) 2))) ((avS (cutC p0) 2)) ((avD (cutC p0) 2)))))) = ((otD ((anyOpV (cutC p0) 0)) ((avS (cutC p0) 2)) ((avD (cutC p0) 2)) ((avS (cutC p0) (avP (cutC p0) 2))) ((avD (cutC p0) (avP (cutC p0) 2)))))))), false)], [])
  else
  none)
  else
  none)
  else
  some ([.one ((.bool false), false)], []))
  else
  none)))
  else
  none))
  else
  none))))
  else
  none)
  else
  none)
  else
  none)
  else
  none)) := by kernel_rfl
end laws_FnOuterProductTurn
theorem laws_FnOuterProductTurn.ok_of (hX : ∀ E ∈ laws_FnOuterProductTurn.X, CallSpec Try.prog E) (h : ∀ (bs : List Int), (bytesB bs) = true → ∃ fuel, runF Try.prog laws_FnOuterProductTurn.X laws_FnOuterProductTurn.I 0 fuel 6 Try.f6 [.d (.ints .u8 bs)] = some ([.one ((.bool true), false)], [])) : CallSpec Try.prog laws_FnOuterProductTurn.E :=
  callSpec_of (d := 0) hX (by kernel_rfl) laws_FnOuterProductTurn.I_ok (by kernel_rfl) (by kernel_rfl) (by kernel_rfl) (fun _ _ _ _ h => by dsimp only [laws_FnOuterProductTurn.E] at h; cases h) (fun xs hp => by
    dsimp only [laws_FnOuterProductTurn.E] at hp ⊢
    split at hp
    · exact h _ hp
    · cases hp)
theorem laws_FnOuterProductTurn.ok : CallSpec Try.prog laws_FnOuterProductTurn.E := laws_FnOuterProductTurn.ok_of (by simp [laws_FnOuterProductTurn.X, spec_DrawOuterProduct.ok, impl_OuterProduct.ok, spec_OuterProduct.ok, laws_equalArray.ok, impl_RankOf.ok, impl_Transpose.ok]) fun bs h => by
  obtain ⟨F, hF⟩ : ∃ F : Nat, 4000 < F := ⟨4001, by omega⟩
  refine ⟨F, ?_⟩
  rw [laws_FnOuterProductTurn.e]
  by_cases hl : ((bs.length : Nat) : Int) > 1048576
  · rw [decide_eq_true hl]; rfl
  rw [decide_eq_false hl, cond_false, h, cond_true]
  have r0 := cut_ok h (p := 0) (by omega) (by omega)
  obtain ⟨a1, a2, p1, p2⟩ := av_bd (rd_le (q := 2) r0 (by omega) (by omega)) (by omega)
  obtain ⟨a3, a4, _, _⟩ := av_bd (rd_le (q := avP (cutC bs) 2) r0 (by omega) (by omega)) (by omega)
  obtain ⟨op, hop⟩ : ∃ x, anyOpV (cutC bs) 0 = x := ⟨_, rfl⟩
  obtain ⟨s1, hs1⟩ : ∃ x, avS (cutC bs) 2 = x := ⟨_, rfl⟩
  obtain ⟨d1, hd1⟩ : ∃ x, avD (cutC bs) 2 = x := ⟨_, rfl⟩
  obtain ⟨s2, hs2⟩ : ∃ x, avS (cutC bs) (avP (cutC bs) 2) = x := ⟨_, rfl⟩
  obtain ⟨d2, hd2⟩ : ∃ x, avD (cutC bs) (avP (cutC bs) 2) = x := ⟨_, rfl⟩
  rw [hs1] at a1
  rw [hd1] at a2
  rw [hs2] at a3
  rw [hd2] at a4
  have g1 := lt_of (xs := s1) (by omega)
  have g2 := lt_of (xs := d1) (by omega)
  have g3 := lt_of (xs := s2) (by omega)
  have g4 := lt_of (xs := d2) (by omega)
  have ol := ot_len op s1 d1 s2 d2
  have g5 := lt_of (xs := otS op s1 d1 s2 d2) (by omega)
  have g6 := lt_of (xs := otD op s1 d1 s2 d2) (by omega)
  simp only [hop, hs1, hd1, hs2, hd2]
  cases hb : otB op s1 d1 s2 d2 with
  | false => simp only [Bool.and_self, Bool.and_true, Bool.true_and, cond_true, cond_false, Bool.not_true, Bool.not_false, bne_self_eq_false, beq_self_eq_true, decide_true, eq_self, g1, g2, g3, g4, g5, g6, hb]
  | true =>
    obtain ⟨h1, h2, h3, h4, h5, h6⟩ := otB_inv hb
    have k1 : rankV s1 d1 = ((s1.length : Nat) : Int) := by simp only [rankV, h2, cond_true]
    have k2 : rankV s2 d2 = ((s2.length : Nat) : Int) := by simp only [rankV, h3, cond_true]
    by_cases r1 : s1.length = 1
    · by_cases r2 : s2.length = 1
      · have x1 : (((s1.length : Nat) : Int) != 1) = false := by rw [r1]; rfl
        have x2 : (((s2.length : Nat) : Int) != 1) = false := by rw [r2]; rfl
        by_cases ho : op = 1 ∨ op = 3 ∨ op = 6
        · have l1 := validA_len h2
          have l2 := validA_len h3
          have key : otB op s2 d2 s1 d1 = true ∧ trS (s2 ++ s1) (otN op d2 d1) = s1 ++ s2 ∧ trD (s2 ++ s1) (otN op d2 d1) = otN op d1 d2 ∧ (otN op d2 d1).length ≤ 60 ∧ (otN op d1 d2).length ≤ 60 := by
            have hv1 := (validA_inv h2).1
            have hv2 := (validA_inv h3).1
            rcases validS_cases hv1 with rfl | ⟨a, rfl, a0, a1⟩ | ⟨a, b, rfl, _⟩ | ⟨a, b, c, rfl, _⟩
            · simp at r1
            · rcases validS_cases hv2 with rfl | ⟨b, rfl, b0, b1⟩ | ⟨a', b, rfl, _⟩ | ⟨a', b, c, rfl, _⟩
              · simp at r2
              · obtain ⟨A, rfl⟩ : ∃ A : Nat, a = A := ⟨a.toNat, by omega⟩
                obtain ⟨B, rfl⟩ : ∃ A : Nat, b = A := ⟨b.toNat, by omega⟩
                have hp := (volS h4).2
                have hp2 : A * B ≤ 60 := by simpa [prodN] using hp
                have hvs : validS ([(B : Int)] ++ [(A : Int)]) = true := vs2 (by omega) (by omega) (by rw [Nat.mul_comm]; exact hp2)
                have hob : otB op [(B : Int)] d2 [(A : Int)] d1 = true := by simp only [otB, h1, h2, h3, hvs, Bool.and_self]
                obtain ⟨t1, t2⟩ := ot_turn (by omega) h1 h2 h3 hob
                refine ⟨hob, t1, t2, ?_, ?_⟩
                · simp only [otN, tab_length]; rw [Nat.mul_comm]; exact h6
                · simp only [otN, tab_length]; exact h6
              · simp at r2
              · simp at r2
            · simp at r1
            · simp at r1
          obtain ⟨k3, k4, k5, k6, k7⟩ := key
          have oS : otS op s1 d1 s2 d2 = s1 ++ s2 := by simp only [otS, hb, cond_true]
          have oD : otD op s1 d1 s2 d2 = otN op d1 d2 := by simp only [otD, hb, cond_true]
          have pS : otS op s2 d2 s1 d1 = s2 ++ s1 := by simp only [otS, k3, cond_true]
          have pD : otD op s2 d2 s1 d1 = otN op d2 d1 := by simp only [otD, k3, cond_true]
          have g7 := lt_of (xs := s1 ++ s2) (by rw [List.length_append]; omega)
          have g8 := lt_of (xs := otN op d1 d2) (by omega)
          have g9 := lt_of (xs := s2 ++ s1) (by rw [List.length_append]; omega)
          have g10 := lt_of (xs := otN op d2 d1) (by omega)
          have z1 : ((3 : Int) != 1) = true := rfl
          have z2 : ((6 : Int) != 1) = true := rfl
          have z3 : ((6 : Int) != 3) = true := rfl
          rcases ho with rfl | rfl | rfl
          · simp only [Bool.and_self, Bool.and_true, Bool.true_and, cond_true, cond_false, Bool.not_true, Bool.not_false, bne_self_eq_false, beq_self_eq_true, decide_true, eq_self, g1, g2, g3, g4, oS, oD, pS, pD, k4, k5, g7, g8, g9, g10, hb, k3, k1, k2, x1, x2]
          · simp only [Bool.and_self, Bool.and_true, Bool.true_and, cond_true, cond_false, Bool.not_true, Bool.not_false, bne_self_eq_false, beq_self_eq_true, decide_true, eq_self, g1, g2, g3, g4, oS, oD, pS, pD, k4, k5, g7, g8, g9, g10, hb, k3, k1, k2, x1, x2, z1]
          · simp only [Bool.and_self, Bool.and_true, Bool.true_and, cond_true, cond_false, Bool.not_true, Bool.not_false, bne_self_eq_false, beq_self_eq_true, decide_true, eq_self, g1, g2, g3, g4, oS, oD, pS, pD, k4, k5, g7, g8, g9, g10, hb, k3, k1, k2, x1, x2, z2, z3]
        · have y1 : (op != 1) = true := bne_iff_ne.2 (by omega)
          have y3 : (op != 3) = true := bne_iff_ne.2 (by omega)
          have y6 : (op != 6) = true := bne_iff_ne.2 (by omega)
          simp only [Bool.and_self, Bool.and_true, Bool.true_and, cond_true, cond_false, Bool.not_true, Bool.not_false, bne_self_eq_false, beq_self_eq_true, decide_true, eq_self, g1, g2, g3, g4, g5, g6, hb, k1, k2, x1, x2, y1, y3, y6]
      · have x1 : (((s1.length : Nat) : Int) != 1) = false := by rw [r1]; rfl
        have x2 : (((s2.length : Nat) : Int) != 1) = true := bne_iff_ne.2 (by omega)
        simp only [Bool.and_self, Bool.and_true, Bool.true_and, cond_true, cond_false, Bool.not_true, Bool.not_false, bne_self_eq_false, beq_self_eq_true, decide_true, eq_self, g1, g2, g3, g4, g5, g6, hb, k1, k2, x1, x2]
    · have x1 : (((s1.length : Nat) : Int) != 1) = true := bne_iff_ne.2 (by omega)
      simp only [Bool.and_self, Bool.and_true, Bool.true_and, cond_true, cond_false, Bool.not_true, Bool.not_false, bne_self_eq_false, beq_self_eq_true, decide_true, eq_self, g1, g2, g3, g4, g5, g6, hb, k1, k2, x1]

end Go.Ab
