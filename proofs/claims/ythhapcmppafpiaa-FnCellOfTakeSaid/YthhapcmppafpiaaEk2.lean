import Derived.Test.YthhapcmppafpiaaEk1
import Derived.Test.YthhapcmppafpiaaProg
import Derived.Test.YthhapcmppafpiaaChecked
open Go Go.Ab Go.Proofs
set_option maxRecDepth 100000
set_option linter.unusedVariables false
set_option linter.unusedSimpArgs false
namespace Go.Ab
namespace spec_sameInts
noncomputable def E : Entry := ⟨71, true, false, fun | [.d (.ints .i64 xs), .d (.ints .i64 ys)] => decide (xs.length < 9223372036854775808) && decide (ys.length < 9223372036854775808) | _ => false, fun | [.d (.ints .i64 xs), .d (.ints .i64 ys)] => ([.one ((.bool (decide (xs = ys))), false)], []) | _ => ([], []), fun _ => [], false, fun _ => none⟩
end spec_sameInts
namespace spec_sameInts
noncomputable def X : List Entry := []
noncomputable def I : List Inl := [⟨71, Try.f71, ⟨[], [(1000004, [2, 3, 4, 6, 7, 8, 9, 10, 11, 12, 13, 14, 15, 16, 17, 18, 19, 20, 21, 22, 23, 24, 25])], [], [(6, [0, 1, 4, 5, 2, 3, 6, 7, 8])], [], []⟩⟩]
theorem I_ok : ∀ i ∈ I, Try.prog.funcs[i.f]? = some i.fn ∧ (i.fn.name == "runtime.NumGoroutine") = false := by
  intro i hi
  simp only [I, List.mem_cons, List.not_mem_nil, or_false] at hi
  subst hi
  exact ⟨by kernel_rfl, by kernel_rfl⟩
noncomputable abbrev L0 (fuel n : Nat) (s : St) (k : Kont) := lAt Try.prog X I fuel true 0 false 71 (bodyOf Try.f71) [1, 1, 0, 1, 0] n s k
noncomputable abbrev k0  (fuel : Nat) : Kont := (kAt Try.prog X I fuel true 0 false 71 (bodyOf Try.f71) [1, 1, 0, 1, 0] [] (endK Try.prog Try.f71))
noncomputable def t0 (p0 : List Int) (p1 : List Int) (x0q2 : Int) : St := ⟨[(.imm (.ints .i64 p0)), (.imm (.ints .i64 p1)), .dead, .dead, .dead, (.imm (.int .i64 x0q2)), .dead, .dead, .dead, .dead, .dead, .dead, .dead, .dead, .dead, .dead, .dead, .dead, .dead, .dead, .dead, .dead, .dead, .dead, .dead, .dead], hOf [], [], []⟩
theorem e (fuel : Nat) (p0 : List Int) (p1 : List Int) : runF Try.prog X I 0 fuel 71 Try.f71 [.d (.ints .i64 p0), .d (.ints .i64 p1)] =
  (bif ((((p0.length : Nat) : Int) : Int) != ((p1.length : Nat) : Int)) then
  some ([.one ((.bool false), false)], [])
  else
  L0 fuel fuel (t0 p0 p1 0) (k0  fuel)) := by kernel_rfl
theorem s0 (fuel n0 : Nat) (p0 : List Int) (p1 : List Int) (x0q2 : Int) : L0 fuel (n0 + 1) (t0 p0 p1 x0q2) (k0  fuel) =
  (bif (decide ((x0q2 : Int) < ((p0.length : Nat) : Int))) then
  (idx x0q2 p0.length).bind fun j9 =>
  (p0[j9]?).bind fun v10 =>
  (idx x0q2 p1.length).bind fun j11 =>
  (p1[j11]?).bind fun v12 =>
  (bif ((v10 : Int) != v12) then
  some ([.one ((.bool false), false)], [])
  else
  L0 fuel n0 (t0 p0 p1 ((IntKind.wrap .i64 (x0q2 + 1)))) (k0  fuel))
  else
  some ([.one ((.bool true), false)], [])) := by kernel_rfl
end spec_sameInts
theorem spec_sameInts.ok_of (hX : ∀ E ∈ spec_sameInts.X, CallSpec Try.prog E) (h : ∀ (xs : List Int) (ys : List Int), (decide (xs.length < 9223372036854775808) && decide (ys.length < 9223372036854775808)) = true → ∃ fuel, runF Try.prog spec_sameInts.X spec_sameInts.I 0 fuel 71 Try.f71 [.d (.ints .i64 xs), .d (.ints .i64 ys)] = some ([.one ((.bool (decide (xs = ys))), false)], [])) : CallSpec Try.prog spec_sameInts.E :=
  callSpec_of (d := 0) hX (by kernel_rfl) spec_sameInts.I_ok (by kernel_rfl) (by kernel_rfl) (by kernel_rfl) (fun _ _ _ _ h => by dsimp only [spec_sameInts.E] at h; cases h) (fun xs hp => by
    dsimp only [spec_sameInts.E] at hp ⊢
    split at hp
    · exact h _ _ hp
    · cases hp)
theorem spec_sameInts.loop (fuel : Nat) (xs ys : List Int) (hl : xs.length = ys.length) (hx : xs.length < 9223372036854775808) : ∀ (m n j : Nat), xs.length - j = m → m < n → j ≤ xs.length →
    spec_sameInts.L0 fuel n (spec_sameInts.t0 xs ys (j : Int)) (spec_sameInts.k0 fuel) = some ([.one (.bool (decide (xs.drop j = ys.drop j)), false)], []) := by
  intro m
  induction m with
  | zero =>
    intro n j h1 h2 h3
    obtain ⟨n, rfl⟩ : ∃ n', n = n' + 1 := ⟨n - 1, by omega⟩
    have hj : ¬ j < xs.length := by omega
    rw [spec_sameInts.s0, dge hj, dropE hj, dropE (xs := ys) (by omega)]
    rfl
  | succ m ih =>
    intro n j h1 h2 h3
    obtain ⟨n, rfl⟩ : ∃ n', n = n' + 1 := ⟨n - 1, by omega⟩
    have hj : j < xs.length := by omega
    have hj2 : j < ys.length := by omega
    rw [spec_sameInts.s0, dlt hj, idx_nat hj, idx_nat hj2, w1 (by omega), dropS hj, dropS hj2]
    simp only [cond_true, Option.bind_some, getS hj, getS hj2]
    rw [ih n (j + 1) (by omega) (by omega) (by omega)]
    by_cases hv : xs[j] = ys[j]
    · rw [hv]
      simp only [bne_self_eq_false, cond_false, List.cons.injEq, true_and]
    · have : (xs[j] != ys[j]) = true := by simp [hv]
      rw [this]
      simp only [cond_true, List.cons.injEq, hv, false_and, decide_false]

theorem spec_sameInts.ok : CallSpec Try.prog spec_sameInts.E := spec_sameInts.ok_of (by simp [spec_sameInts.X]) fun xs ys h => by
  simp only [Bool.and_eq_true, decide_eq_true_eq] at h
  refine ⟨xs.length + 1, ?_⟩
  rw [spec_sameInts.e]
  by_cases hl : xs.length = ys.length
  · have := spec_sameInts.loop (xs.length + 1) xs ys hl h.1 xs.length (xs.length + 1) 0 (by omega) (by omega) (by omega)
    simp only [List.drop_zero] at this
    simp only [hl, bne_self_eq_false, cond_false]
    rw [← hl]
    exact this
  · have hne : xs ≠ ys := fun e => hl (e ▸ rfl)
    have : (((xs.length : Nat) : Int) != ((ys.length : Nat) : Int)) = true := by simp; omega
    rw [this]
    simp [hne]

namespace spec_around
noncomputable def E : Entry := ⟨73, true, false, fun | [.d (.ints .i64 sh), .d (.int .i64 k)] => validS sh && axOk sh k | _ => false, fun | [.d (.ints .i64 sh), .d (.int .i64 k)] => ([.one ((.int .i64 ((befN sh k.toNat : Nat) : Int)), false), .one ((.int .i64 ((behN sh k.toNat : Nat) : Int)), false)], []) | _ => ([], []), fun _ => [], false, fun _ => none⟩
end spec_around
namespace spec_around
noncomputable def X : List Entry := [spec_volume.E]
noncomputable def I : List Inl := [⟨73, Try.f73, ⟨[], [], [], [(1, [0, 1, 4, 5, 6, 2, 3, 7, 8, 9, 10])], [], []⟩⟩]
theorem I_ok : ∀ i ∈ I, Try.prog.funcs[i.f]? = some i.fn ∧ (i.fn.name == "runtime.NumGoroutine") = false := by
  intro i hi
  simp only [I, List.mem_cons, List.not_mem_nil, or_false] at hi
  subst hi
  exact ⟨by kernel_rfl, by kernel_rfl⟩
theorem e (fuel : Nat) (p0 : List Int) (p1 : Int) : runF Try.prog X I 0 fuel 73 Try.f73 [.d (.ints .i64 p0), .d (.int .i64 p1)] =
  (cutEnds p0.length (none) (some (.imm (.int .i64 p1)))).bind fun cq1 =>
  (bif decide ((((p0.drop cq1.1).take (cq1.2 - cq1.1))).length < 9223372036854775808) then
  (cutEnds p0.length (some (.imm (.int .i64 (IntKind.wrap .i64 (p1 + 1))))) (none)).bind fun cq2 =>
  (bif decide ((((p0.drop cq2.1).take (cq2.2 - cq2.1))).length < 9223372036854775808) then
  some ([.one ((.int .i64 (volW (((p0.drop cq1.1).take (cq1.2 - cq1.1))))), false), .one ((.int .i64 (volW (((p0.drop cq2.1).take (cq2.2 - cq2.1))))), false)], [])
  else
  none)
  else
  none) := by kernel_rfl
end spec_around
theorem spec_around.ok_of (hX : ∀ E ∈ spec_around.X, CallSpec Try.prog E) (h : ∀ (sh : List Int) (k : Int), (validS sh && axOk sh k) = true → ∃ fuel, runF Try.prog spec_around.X spec_around.I 0 fuel 73 Try.f73 [.d (.ints .i64 sh), .d (.int .i64 k)] = some ([.one ((.int .i64 ((befN sh k.toNat : Nat) : Int)), false), .one ((.int .i64 ((behN sh k.toNat : Nat) : Int)), false)], [])) : CallSpec Try.prog spec_around.E :=
  callSpec_of (d := 0) hX (by kernel_rfl) spec_around.I_ok (by kernel_rfl) (by kernel_rfl) (by kernel_rfl) (fun _ _ _ _ h => by dsimp only [spec_around.E] at h; cases h) (fun xs hp => by
    dsimp only [spec_around.E] at hp ⊢
    split at hp
    · exact h _ _ hp
    · cases hp)
theorem spec_around.ok : CallSpec Try.prog spec_around.E := spec_around.ok_of (by simp [spec_around.X, spec_volume.ok]) fun sh k h => ⟨0, by
  rw [spec_around.e]
  simp only [Bool.and_eq_true] at h
  obtain ⟨e1, e2⟩ := axOk_nat h.2
  have ax := ax_of h.1 e2
  have hr := ax.rank
  generalize k.toNat = j at *
  subst e1
  rw [cut_hi (by omega), w1 (by omega), cut_lo (by omega)]
  simp only [Option.bind_some, List.drop_zero, Nat.sub_zero, drop_take]
  rw [lt_of (by simp; omega), lt_of (by simp; omega), ax.bef, ax.beh]
  rfl⟩

namespace spec_JoinAxis
noncomputable def E : Entry := ⟨26, false, false, fun | [.d (.agg [(.ints .i64 sa), (.ints .i64 da)]), .d (.agg [(.ints .i64 sb), (.ints .i64 db)]), .d (.int .i64 k)] => decide (sa.length < 9223372036854775808) && decide (da.length < 9223372036854775808) && decide (sb.length < 9223372036854775808) && decide (db.length < 9223372036854775808) | _ => false, fun | [.d (.agg [(.ints .i64 sa), (.ints .i64 da)]), .d (.agg [(.ints .i64 sb), (.ints .i64 db)]), .d (.int .i64 k)] => ([.agg [((.ints .i64 (joS sa da sb db k)), true), ((.ints .i64 (joD sa da sb db k)), true)], .one ((.bool (joB sa da sb db k)), false)], []) | _ => ([], []), fun _ => [], true, fun _ => none⟩
end spec_JoinAxis
namespace spec_JoinAxis
noncomputable def X : List Entry := [spec_isAxis.E, spec_without.E, spec_sameInts.E, spec_copyInts.E, spec_validShape.E, spec_around.E, spec_make1.E]
noncomputable def I : List Inl := [⟨26, Try.f26, ⟨[29, 33, 49, 121], [(1000012, [0, 1, 2, 5, 7, 11, 15, 16, 17, 18, 19, 20, 21, 22, 23, 24, 25, 26, 27, 28, 29, 30, 31, 32, 33, 34, 35, 36, 37, 38, 39, 40, 41, 42, 43, 44, 45, 46, 47, 48, 49, 50, 51, 52, 53, 54, 55, 56, 57, 58, 59, 60, 61, 62, 63, 64, 65, 66, 67, 68, 69, 70, 71, 72, 73, 74, 75, 76, 77, 78, 79, 80, 81, 82, 83, 84, 85, 86, 87, 88, 89, 90, 91, 92, 93, 94, 95, 96, 97, 98, 99, 100, 101, 102, 103, 104, 105, 106, 107, 108, 109, 110, 111, 112, 113, 114, 115, 116, 117, 118, 119, 120, 121])], [], [(1, [1, 0, 2, 3, 4, 6, 5, 7, 8, 9, 10, 11, 13, 15, 17, 12, 16, 14, 18, 19, 20, 21, 22, 23, 26, 24, 25, 27, 28, 29, 30]), (4, [0, 1, 2, 4, 7, 9, 3, 5, 6, 8, 10, 11, 12, 13, 14])], [], []⟩⟩]
theorem I_ok : ∀ i ∈ I, Try.prog.funcs[i.f]? = some i.fn ∧ (i.fn.name == "runtime.NumGoroutine") = false := by
  intro i hi
  simp only [I, List.mem_cons, List.not_mem_nil, or_false] at hi
  subst hi
  exact ⟨by kernel_rfl, by kernel_rfl⟩
noncomputable abbrev L0 (fuel n : Nat) (s : St) (k : Kont) := lAt Try.prog X I fuel true 0 false 26 (bodyOf Try.f26) [1, 1, 1, 1, 1, 1, 1, 1, 1, 0, 1, 0] n s k
noncomputable abbrev k0  (fuel : Nat) : Kont := (kAt Try.prog X I fuel true 0 false 26 (bodyOf Try.f26) [1, 1, 1, 1, 1, 1, 1, 1, 1, 0, 1, 0] [] (endK Try.prog Try.f26))
noncomputable def t0 (p0q0 : List Int) (p2 : Int) (v7 : Int) (v9 : Int) (p0q1 : List Int) (p1q0 : List Int) (p1q1 : List Int) (j5 : Nat) (v2 : Int) (v4 : Int) (x0q3 : Int) (x0q9 : List Int) : St := ⟨[.dead, .dead, .dead, (.ptr 1000000000 0 0), (.ptr 1000000001 0 0), .dead, (.ptr 1000000002 0 0), .dead, (.all 1000000003 1), (.all 1000000004 1), (.imm (.int .i64 ((befN p0q0 p2.toNat : Nat) : Int))), .dead, (.imm (.int .i64 (IntKind.wrap .i64 (v7 * ((behN p0q0 p2.toNat : Nat) : Int))))), (.imm (.int .i64 (IntKind.wrap .i64 (v9 * ((behN p0q0 p2.toNat : Nat) : Int))))), (.imm (.int .i64 x0q3)), .dead, .dead, .dead, .dead, .dead, .dead, .dead, .dead, .dead, .dead, .dead, .dead, .dead, .dead, .dead, .dead, .dead, .dead, .dead, .dead, .dead, .dead, .dead, .dead, .dead, .dead, .dead, .dead, .dead, .dead, .dead, .dead, .dead, .dead, .dead, .dead, .dead, .dead, .dead, .dead, .dead, .dead, .dead, .dead, .dead, .dead, .dead, .dead, .dead, .dead, .dead, .dead, .dead, .dead, .dead, .dead, .dead, .dead, .dead, .dead, .dead, .dead, .dead, .dead, .dead, .dead, .dead, .dead, .dead, .dead, .dead, .dead, .dead, .dead, .dead, .dead, .dead, .dead, .dead, .dead, .dead, .dead, .dead, .dead, .dead, .dead, .dead, .dead, .dead, .dead, .dead, .dead, .dead, .dead, .dead, .dead, .dead, .dead, .dead, .dead, .dead, .dead, .dead, .dead, .dead, .dead, .dead], hOf [(1000000000, (.box [(.imm (.ints .i64 p0q0)), (.imm (.ints .i64 p0q1))])), (1000000001, (.box [(.imm (.ints .i64 p1q0)), (.imm (.ints .i64 p1q1))])), (1000000002, (.box [(.imm .nils), (.imm .nils)])), (1000000003, (.ints .i64 (p0q0.set j5 (IntKind.wrap .i64 (v2 + v4))))), (1000000004, (.ints .i64 x0q9))], [], []⟩
theorem e (fuel : Nat) (p0q0 : List Int) (p0q1 : List Int) (p1q0 : List Int) (p1q1 : List Int) (p2 : Int) : runF Try.prog X I 0 fuel 26 Try.f26 [.d (.agg [(.ints .i64 p0q0), (.ints .i64 p0q1)]), .d (.agg [(.ints .i64 p1q0), (.ints .i64 p1q1)]), .d (.int .i64 p2)] =
  (bif decide (p0q0.length < 9223372036854775808) && decide (p0q1.length < 9223372036854775808) then
  (bif (!(axB p0q0 p0q1 p2)) then
  some ([.agg [((.ints .i64 []), true), ((.ints .i64 []), true)], .one ((.bool false), false)], [])
  else
  (bif decide (p1q0.length < 9223372036854775808) && decide (p1q1.length < 9223372036854775808) then
  (bif (!(axB p1q0 p1q1 p2)) then
  some ([.agg [((.ints .i64 []), true), ((.ints .i64 []), true)], .one ((.bool false), false)], [])
  else
  (bif axOk p0q0 p2 && validS p0q0 then
  (bif axOk p1q0 p2 && validS p1q0 then
  (bif decide (((p0q0.eraseIdx p2.toNat)).length < 9223372036854775808) && decide (((p1q0.eraseIdx p2.toNat)).length < 9223372036854775808) then
  (bif (!(decide (((p0q0.eraseIdx p2.toNat)) = ((p1q0.eraseIdx p2.toNat))))) then
  some ([.agg [((.ints .i64 []), true), ((.ints .i64 []), true)], .one ((.bool false), false)], [])
  else
  (bif ((((p0q0.length : Nat) : Int) : Int) != ((p1q0.length : Nat) : Int)) then
  some ([.agg [((.ints .i64 []), true), ((.ints .i64 []), true)], .one ((.bool false), false)], [])
  else
  (bif szB p0q0 then
  (idx p2 p0q0.length).bind fun j1 =>
  (p0q0[j1]?).bind fun v2 =>
  (idx p2 p1q0.length).bind fun j3 =>
  (p1q0[j3]?).bind fun v4 =>
  (idx p2 p0q0.length).bind fun j5 =>
  (bif decide (j5 < p0q0.length) then
  (bif decide (((p0q0.set j5 (IntKind.wrap .i64 (v2 + v4)))).length < 9223372036854775808) then
  (bif (!(validS ((p0q0.set j5 (IntKind.wrap .i64 (v2 + v4)))))) then
  some ([.agg [((.ints .i64 []), true), ((.ints .i64 []), true)], .one ((.bool false), false)], [])
  else
  (bif validS p0q0 && axOk p0q0 p2 then
  (idx p2 p0q0.length).bind fun j6 =>
  (p0q0[j6]?).bind fun v7 =>
  (idx p2 p1q0.length).bind fun j8 =>
  (p1q0[j8]?).bind fun v9 =>
  L0 fuel fuel (t0 p0q0 p2 v7 v9 p0q1 p1q0 p1q1 j5 v2 v4 0 ([])) (k0  fuel)
  else
  none))
  else
  none)
  else
  none)
  else
  none)))
  else
  none)
  else
  none)
  else
  none))
  else
  none))
  else
  none) := by kernel_rfl
theorem s0 (fuel n0 : Nat) (p0q0 : List Int) (p2 : Int) (v7 : Int) (v9 : Int) (p0q1 : List Int) (p1q0 : List Int) (p1q1 : List Int) (j5 : Nat) (v2 : Int) (v4 : Int) (x0q3 : Int) (x0q9 : List Int) : L0 fuel (n0 + 1) (t0 p0q0 p2 v7 v9 p0q1 p1q0 p1q1 j5 v2 v4 x0q3 x0q9) (k0  fuel) =
  (bif (decide ((x0q3 : Int) < ((befN p0q0 p2.toNat : Nat) : Int))) then
  (cutEnds p0q1.length (some (.imm (.int .i64 (IntKind.wrap .i64 (x0q3 * (IntKind.wrap .i64 (v7 * ((behN p0q0 p2.toNat : Nat) : Int)))))))) (some (.imm (.int .i64 (IntKind.wrap .i64 ((IntKind.wrap .i64 (x0q3 + 1)) * (IntKind.wrap .i64 (v7 * ((behN p0q0 p2.toNat : Nat) : Int))))))))).bind fun cq14 =>
  (bif fits (x0q9.length + ((p0q1.drop cq14.1).take (cq14.2 - cq14.1)).length) 8 then
  (cutEnds p1q1.length (some (.imm (.int .i64 (IntKind.wrap .i64 (x0q3 * (IntKind.wrap .i64 (v9 * ((behN p0q0 p2.toNat : Nat) : Int)))))))) (some (.imm (.int .i64 (IntKind.wrap .i64 ((IntKind.wrap .i64 (x0q3 + 1)) * (IntKind.wrap .i64 (v9 * ((behN p0q0 p2.toNat : Nat) : Int))))))))).bind fun cq15 =>
  (bif fits ((x0q9 ++ ((p0q1.drop cq14.1).take (cq14.2 - cq14.1))).length + ((p1q1.drop cq15.1).take (cq15.2 - cq15.1)).length) 8 then
  L0 fuel n0 (t0 p0q0 p2 v7 v9 p0q1 p1q0 p1q1 j5 v2 v4 ((IntKind.wrap .i64 (x0q3 + 1))) (((x0q9 ++ ((p0q1.drop cq14.1).take (cq14.2 - cq14.1))) ++ ((p1q1.drop cq15.1).take (cq15.2 - cq15.1))))) (k0  fuel)
  else
  none)
  else
  none)
  else
  (bif szB ((p0q0.set j5 (IntKind.wrap .i64 (v2 + v4)))) && szB x0q9 then
  some ([.agg [((.ints .i64 ((p0q0.set j5 (IntKind.wrap .i64 (v2 + v4))))), true), ((.ints .i64 x0q9), true)], .one ((.bool true), false)], [])
  else
  none)) := by kernel_rfl
end spec_JoinAxis
theorem spec_JoinAxis.ok_of (hX : ∀ E ∈ spec_JoinAxis.X, CallSpec Try.prog E) (h : ∀ (sa : List Int) (da : List Int) (sb : List Int) (db : List Int) (k : Int), (decide (sa.length < 9223372036854775808) && decide (da.length < 9223372036854775808) && decide (sb.length < 9223372036854775808) && decide (db.length < 9223372036854775808)) = true → ∃ fuel, runF Try.prog spec_JoinAxis.X spec_JoinAxis.I 0 fuel 26 Try.f26 [.d (.agg [(.ints .i64 sa), (.ints .i64 da)]), .d (.agg [(.ints .i64 sb), (.ints .i64 db)]), .d (.int .i64 k)] = some ([.agg [((.ints .i64 (joS sa da sb db k)), true), ((.ints .i64 (joD sa da sb db k)), true)], .one ((.bool (joB sa da sb db k)), false)], [])) : CallSpec Try.prog spec_JoinAxis.E :=
  callSpec_of (d := 0) hX (by kernel_rfl) spec_JoinAxis.I_ok (by kernel_rfl) (by kernel_rfl) (by kernel_rfl) (fun _ _ _ _ h => by dsimp only [spec_JoinAxis.E] at h; cases h) (fun xs hp => by
    dsimp only [spec_JoinAxis.E] at hp ⊢
    split at hp
    · exact h _ _ _ _ _ hp
    · cases hp)
theorem spec_JoinAxis.loop (fuel : Nat) (sa da sb db : List Int) (j : Nat) (o : JoOk sa da sb db j) (hf : 3600 < fuel) :
    spec_JoinAxis.L0 fuel fuel (spec_JoinAxis.t0 sa (j : Int) ((lenN sa j : Nat) : Int) ((lenN sb j : Nat) : Int) da sb db j ((lenN sa j : Nat) : Int) ((lenN sb j : Nat) : Int) 0 []) (spec_JoinAxis.k0 fuel) = some ([.agg [((.ints .i64 (joSh sa sb j)), true), ((.ints .i64 (joN sa da sb db j)), true)], .one ((.bool true), false)], []) := by
  have hda := o.da
  have hdb := o.db
  have hle := o.le
  have hB := o.xa.bef_le
  have hr := o.xa.rank
  have hLa := o.xa.len_le
  have hLb := o.xb.len_le
  have hla := validA_len o.va
  have hlb := validA_len o.vb
  have hx : lenN sa j * behN sa j ≤ 60 * 3600 := Nat.mul_le_mul hLa o.xa.beh_le
  have hy : lenN sb j * behN sa j ≤ 60 * 3600 := Nat.mul_le_mul hLb o.xa.beh_le
  have es : sa.set j (IntKind.wrap .i64 (((lenN sa j : Nat) : Int) + ((lenN sb j : Nat) : Int))) = joSh sa sb j := by rw [wAdd (by omega), o.sh]
  refine run_loop (N := befN sa j) (fun n i out => spec_JoinAxis.L0 fuel n (spec_JoinAxis.t0 sa (j : Int) ((lenN sa j : Nat) : Int) ((lenN sb j : Nat) : Int) da sb db j ((lenN sa j : Nat) : Int) ((lenN sb j : Nat) : Int) (i : Int) out) (spec_JoinAxis.k0 fuel)) (fun i out => out = joC (lenN sa j * behN sa j) (lenN sb j * behN sa j) da db i) ?_ ?_ fuel 0 [] (by omega) (by omega) rfl
  · rintro n out rfl
    have hl := joC_len (x := lenN sa j * behN sa j) (y := lenN sb j * behN sa j) (da := da) (db := db) (befN sa j) (by omega) (by omega)
    rw [spec_JoinAxis.s0, Int.toNat_natCast, dge (by omega), cond_false, es, szB_of (by rw [o.sh, List.length_set]; omega), szB_of (by omega)]
    rfl
  · rintro n i out hi rfl
    have h1 : (i + 1) * (lenN sa j * behN sa j) ≤ befN sa j * (lenN sa j * behN sa j) := Nat.mul_le_mul_right _ hi
    have h2 : (i + 1) * (lenN sb j * behN sa j) ≤ befN sa j * (lenN sb j * behN sa j) := Nat.mul_le_mul_right _ hi
    have h3 : i * (lenN sa j * behN sa j) ≤ (i + 1) * (lenN sa j * behN sa j) := Nat.mul_le_mul_right _ (by omega)
    have h4 : i * (lenN sb j * behN sa j) ≤ (i + 1) * (lenN sb j * behN sa j) := Nat.mul_le_mul_right _ (by omega)
    have hl := joC_len (x := lenN sa j * behN sa j) (y := lenN sb j * behN sa j) (da := da) (db := db) i (by omega) (by omega)
    have h5 : i * (lenN sa j * behN sa j + lenN sb j * behN sa j) ≤ befN sa j * (lenN sa j * behN sa j + lenN sb j * behN sa j) := Nat.mul_le_mul_right _ (by omega)
    rw [spec_JoinAxis.s0, Int.toNat_natCast, dlt hi, cond_true, wMul (by omega), wMul (by omega), w1 (by omega), wMul (by omega), wMul (by omega), wMul (by omega), wMul (by omega), cut_both h3 (by omega), cut_both h4 (by omega)]
    simp only [Option.bind_some, ce_cut]
    rw [fitsOk (by simp only [List.length_take, List.length_drop]; omega), cond_true, fitsOk (by simp only [List.length_append, List.length_take, List.length_drop]; omega), cond_true]
    exact ⟨_, rfl, rfl⟩
theorem spec_JoinAxis.ok : CallSpec Try.prog spec_JoinAxis.E := spec_JoinAxis.ok_of (by simp [spec_JoinAxis.X, spec_isAxis.ok, spec_without.ok, spec_sameInts.ok, spec_copyInts.ok, spec_validShape.ok, spec_around.ok, spec_make1.ok]) fun sa da sb db k h => by
  obtain ⟨F, hF⟩ : ∃ F : Nat, 3600 < F := ⟨3601, by omega⟩
  refine ⟨F, ?_⟩
  simp only [Bool.and_eq_true] at h
  obtain ⟨⟨⟨h1, h2⟩, h3⟩, h4⟩ := h
  rw [spec_JoinAxis.e, h1, h2, h3, h4]
  unfold joS joD
  cases ha : axB sa da k with
  | false =>
    have : joB sa da sb db k = false := by simp only [joB, ha, Bool.false_and]
    rw [this]; rfl
  | true =>
    cases hb : axB sb db k with
    | false =>
      have : joB sa da sb db k = false := by simp only [joB, hb, Bool.false_and, Bool.and_false]
      rw [this]; rfl
    | true =>
      obtain ⟨j, rfl, hj, hv, ax, hd, hl⟩ := axB_inv ha
      obtain ⟨j2, e2, hj2, hv2, ax2, hd2, hl2⟩ := axB_inv hb
      obtain rfl : j = j2 := by omega
      have hr := ax.rank
      have hr2 := ax2.rank
      have hLa := ax.len_le
      have hLb := ax2.len_le
      have vs := (validA_inv hv).1
      have vs2 := (validA_inv hv2).1
      have hiff := set_iff (sa := sa) (sb := sb) hj hj2
      rw [axOk_of hj, axOk_of hj2, vs, vs2, Int.toNat_natCast]
      simp only [cond_true, Bool.and_self, Bool.not_true, cond_false]
      rw [lt_of (by rw [set_eraseIdx_len hj]; omega), lt_of (by rw [set_eraseIdx_len hj2]; omega)]
      by_cases c1 : sa.eraseIdx j = sb.eraseIdx j
      · by_cases c2 : sa.length = sb.length
        · have hs := hiff.2 ⟨c1, c2⟩
          have e2 : (((sa.length : Nat) : Int) != ((sb.length : Nat) : Int)) = false := by simp [c2]
          rw [decide_eq_true c1, e2, szB_of (xs := sa) (by omega), idx_nat hj, idx_nat hj2]
          simp only [cond_true, Bool.and_self, Bool.not_true, cond_false, Option.bind_some, getD_get hj, getD_get hj2, ax.len, ax2.len]
          have es : sa.set j (IntKind.wrap .i64 (((lenN sa j : Nat) : Int) + ((lenN sb j : Nat) : Int))) = joSh sa sb j := by
            unfold joSh
            rw [ax.len, ax2.len, wS (by omega) (by omega)]
          have hjo : joB sa da sb db (j : Int) = validS (joSh sa sb j) := by
            simp only [joB, ha, hb, Int.toNat_natCast, decide_eq_true hs, Bool.true_and]
          rw [es, decide_eq_true hj, lt_of (by unfold joSh; rw [List.length_set]; omega)]
          simp only [cond_true]
          cases hvs : validS (joSh sa sb j) with
          | false => rw [hjo, hvs]; rfl
          | true =>
            rw [hvs] at hjo
            obtain ⟨j3, e3, o⟩ := joB_inv hjo
            obtain rfl : j = j3 := by omega
            simp only [Bool.not_true, cond_false]
            rw [spec_JoinAxis.loop F sa da sb db j o hF, hjo]
            rfl
        · have : joB sa da sb db (j : Int) = false := by
            simp only [joB, Int.toNat_natCast, decide_eq_false (fun e => c2 (hiff.1 e).2), Bool.and_false, Bool.false_and]
          have e2 : (((sa.length : Nat) : Int) != ((sb.length : Nat) : Int)) = true := by simp; omega
          rw [this, e2, decide_eq_true c1]; rfl
      · have : joB sa da sb db (j : Int) = false := by
          simp only [joB, Int.toNat_natCast, decide_eq_false (fun e => c1 (hiff.1 e).1), Bool.and_false, Bool.false_and]
        rw [this, decide_eq_false c1]; rfl

namespace impl_limited
noncomputable def E : Entry := ⟨90, true, false, fun | [.d (.int .i64 n)] => true | _ => false, fun | [.d (.int .i64 n)] => ([.one ((.int .i64 (limV n)), false)], []) | _ => ([], []), fun _ => [], false, fun _ => none⟩
end impl_limited
namespace impl_limited
noncomputable def X : List Entry := []
noncomputable def I : List Inl := [⟨90, Try.f90, ⟨[], [], [], [], [], []⟩⟩]
theorem I_ok : ∀ i ∈ I, Try.prog.funcs[i.f]? = some i.fn ∧ (i.fn.name == "runtime.NumGoroutine") = false := by
  intro i hi
  simp only [I, List.mem_cons, List.not_mem_nil, or_false] at hi
  subst hi
  exact ⟨by kernel_rfl, by kernel_rfl⟩
theorem e (fuel : Nat) (p0 : Int) : runF Try.prog X I 0 fuel 90 Try.f90 [.d (.int .i64 p0)] =
  some ([.one ((.int .i64 (minI (maxI p0 (-1000000)) 1000000)), false)], []) := by kernel_rfl
end impl_limited
theorem impl_limited.ok_of (hX : ∀ E ∈ impl_limited.X, CallSpec Try.prog E) (h : ∀ (n : Int), (true) = true → ∃ fuel, runF Try.prog impl_limited.X impl_limited.I 0 fuel 90 Try.f90 [.d (.int .i64 n)] = some ([.one ((.int .i64 (limV n)), false)], [])) : CallSpec Try.prog impl_limited.E :=
  callSpec_of (d := 0) hX (by kernel_rfl) impl_limited.I_ok (by kernel_rfl) (by kernel_rfl) (by kernel_rfl) (fun _ _ _ _ h => by dsimp only [impl_limited.E] at h; cases h) (fun xs hp => by
    dsimp only [impl_limited.E] at hp ⊢
    split at hp
    · exact h _ hp
    · cases hp)
theorem impl_limited.ok : CallSpec Try.prog impl_limited.E := impl_limited.ok_of (by simp [impl_limited.X]) fun n _ => ⟨0, by rw [impl_limited.e]; rfl⟩

namespace impl_functionOfTwo_1
noncomputable def E : Entry := ⟨89, true, false, fun | [.d (.int .i64 a), .d (.int .i64 b)] => true | _ => false, fun | [.d (.int .i64 a), .d (.int .i64 b)] => ([.one ((.int .i64 (limV (IntKind.wrap .i64 (a + b)))), false)], []) | _ => ([], []), fun _ => [], false, fun | [] => some (false, q2, (q2v (operF 1))) | _ => none⟩
end impl_functionOfTwo_1
namespace impl_functionOfTwo_1
noncomputable def X : List Entry := [impl_limited.E]
noncomputable def I : List Inl := [⟨89, Try.f89, ⟨[], [], [], [], [], []⟩⟩]
theorem I_ok : ∀ i ∈ I, Try.prog.funcs[i.f]? = some i.fn ∧ (i.fn.name == "runtime.NumGoroutine") = false := by
  intro i hi
  simp only [I, List.mem_cons, List.not_mem_nil, or_false] at hi
  subst hi
  exact ⟨by kernel_rfl, by kernel_rfl⟩
theorem e (fuel : Nat) (p0 : Int) (p1 : Int) : runF Try.prog X I 0 fuel 89 Try.f89 [.d (.int .i64 p0), .d (.int .i64 p1)] =
  some ([.one ((.int .i64 (limV ((IntKind.wrap .i64 (p0 + p1))))), false)], []) := by kernel_rfl
end impl_functionOfTwo_1
theorem impl_functionOfTwo_1.ok_of (hX : ∀ E ∈ impl_functionOfTwo_1.X, CallSpec Try.prog E) (hfn : ∀ ds rb dom G, impl_functionOfTwo_1.E.fnOf ds = some (rb, dom, G) → ∀ qs, dom qs = true → impl_functionOfTwo_1.E.m ((qs.map fun q => .d q.d) ++ ds.map .d) = some ([.one (fnD rb (G qs), false)], [])) (h : ∀ (a : Int) (b : Int), (true) = true → ∃ fuel, runF Try.prog impl_functionOfTwo_1.X impl_functionOfTwo_1.I 0 fuel 89 Try.f89 [.d (.int .i64 a), .d (.int .i64 b)] = some ([.one ((.int .i64 (limV (IntKind.wrap .i64 (a + b)))), false)], [])) : CallSpec Try.prog impl_functionOfTwo_1.E :=
  callSpec_of (d := 0) hX (by kernel_rfl) impl_functionOfTwo_1.I_ok (by kernel_rfl) (by kernel_rfl) (by kernel_rfl) hfn (fun xs hp => by
    dsimp only [impl_functionOfTwo_1.E] at hp ⊢
    split at hp
    · exact h _ _ hp
    · cases hp)
theorem impl_functionOfTwo_1.ok : CallSpec Try.prog impl_functionOfTwo_1.E := impl_functionOfTwo_1.ok_of (by simp [impl_functionOfTwo_1.X, impl_limited.ok]) (fun ds rb dom G h qs hq => by
  dsimp only [impl_functionOfTwo_1.E] at h
  split at h
  case h_2 => cases h
  cases h
  match qs, hq with
  | [.i a, .i b], _ => rfl) fun a b _ => ⟨0, by rw [impl_functionOfTwo_1.e]⟩

namespace impl_functionOfTwo_2
noncomputable def E : Entry := ⟨91, true, false, fun | [.d (.int .i64 a), .d (.int .i64 b)] => true | _ => false, fun | [.d (.int .i64 a), .d (.int .i64 b)] => ([.one ((.int .i64 (limV (IntKind.wrap .i64 (a - b)))), false)], []) | _ => ([], []), fun _ => [], false, fun | [] => some (false, q2, (q2v (operF 2))) | _ => none⟩
end impl_functionOfTwo_2
namespace impl_functionOfTwo_2
noncomputable def X : List Entry := [impl_limited.E]
noncomputable def I : List Inl := [⟨91, Try.f91, ⟨[], [], [], [], [], []⟩⟩]
theorem I_ok : ∀ i ∈ I, Try.prog.funcs[i.f]? = some i.fn ∧ (i.fn.name == "runtime.NumGoroutine") = false := by
  intro i hi
  simp only [I, List.mem_cons, List.not_mem_nil, or_false] at hi
  subst hi
  exact ⟨by kernel_rfl, by kernel_rfl⟩
theorem e (fuel : Nat) (p0 : Int) (p1 : Int) : runF Try.prog X I 0 fuel 91 Try.f91 [.d (.int .i64 p0), .d (.int .i64 p1)] =
  some ([.one ((.int .i64 (limV ((IntKind.wrap .i64 (p0 - p1))))), false)], []) := by kernel_rfl
end impl_functionOfTwo_2
theorem impl_functionOfTwo_2.ok_of (hX : ∀ E ∈ impl_functionOfTwo_2.X, CallSpec Try.prog E) (hfn : ∀ ds rb dom G, impl_functionOfTwo_2.E.fnOf ds = some (rb, dom, G) → ∀ qs, dom qs = true → impl_functionOfTwo_2.E.m ((qs.map fun q => .d q.d) ++ ds.map .d) = some ([.one (fnD rb (G qs), false)], [])) (h : ∀ (a : Int) (b : Int), (true) = true → ∃ fuel, runF Try.prog impl_functionOfTwo_2.X impl_functionOfTwo_2.I 0 fuel 91 Try.f91 [.d (.int .i64 a), .d (.int .i64 b)] = some ([.one ((.int .i64 (limV (IntKind.wrap .i64 (a - b)))), false)], [])) : CallSpec Try.prog impl_functionOfTwo_2.E :=
  callSpec_of (d := 0) hX (by kernel_rfl) impl_functionOfTwo_2.I_ok (by kernel_rfl) (by kernel_rfl) (by kernel_rfl) hfn (fun xs hp => by
    dsimp only [impl_functionOfTwo_2.E] at hp ⊢
    split at hp
    · exact h _ _ hp
    · cases hp)
theorem impl_functionOfTwo_2.ok : CallSpec Try.prog impl_functionOfTwo_2.E := impl_functionOfTwo_2.ok_of (by simp [impl_functionOfTwo_2.X, impl_limited.ok]) (fun ds rb dom G h qs hq => by
  dsimp only [impl_functionOfTwo_2.E] at h
  split at h
  case h_2 => cases h
  cases h
  match qs, hq with
  | [.i a, .i b], _ => rfl) fun a b _ => ⟨0, by rw [impl_functionOfTwo_2.e]⟩

namespace impl_functionOfTwo_3
noncomputable def E : Entry := ⟨92, true, false, fun | [.d (.int .i64 a), .d (.int .i64 b)] => true | _ => false, fun | [.d (.int .i64 a), .d (.int .i64 b)] => ([.one ((.int .i64 (limV (IntKind.wrap .i64 (a * b)))), false)], []) | _ => ([], []), fun _ => [], false, fun | [] => some (false, q2, (q2v (operF 3))) | _ => none⟩
end impl_functionOfTwo_3
namespace impl_functionOfTwo_3
noncomputable def X : List Entry := [impl_limited.E]
noncomputable def I : List Inl := [⟨92, Try.f92, ⟨[], [], [], [], [], []⟩⟩]
theorem I_ok : ∀ i ∈ I, Try.prog.funcs[i.f]? = some i.fn ∧ (i.fn.name == "runtime.NumGoroutine") = false := by
  intro i hi
  simp only [I, List.mem_cons, List.not_mem_nil, or_false] at hi
  subst hi
  exact ⟨by kernel_rfl, by kernel_rfl⟩
theorem e (fuel : Nat) (p0 : Int) (p1 : Int) : runF Try.prog X I 0 fuel 92 Try.f92 [.d (.int .i64 p0), .d (.int .i64 p1)] =
  some ([.one ((.int .i64 (limV ((IntKind.wrap .i64 (p0 * p1))))), false)], []) := by kernel_rfl
end impl_functionOfTwo_3
theorem impl_functionOfTwo_3.ok_of (hX : ∀ E ∈ impl_functionOfTwo_3.X, CallSpec Try.prog E) (hfn : ∀ ds rb dom G, impl_functionOfTwo_3.E.fnOf ds = some (rb, dom, G) → ∀ qs, dom qs = true → impl_functionOfTwo_3.E.m ((qs.map fun q => .d q.d) ++ ds.map .d) = some ([.one (fnD rb (G qs), false)], [])) (h : ∀ (a : Int) (b : Int), (true) = true → ∃ fuel, runF Try.prog impl_functionOfTwo_3.X impl_functionOfTwo_3.I 0 fuel 92 Try.f92 [.d (.int .i64 a), .d (.int .i64 b)] = some ([.one ((.int .i64 (limV (IntKind.wrap .i64 (a * b)))), false)], [])) : CallSpec Try.prog impl_functionOfTwo_3.E :=
  callSpec_of (d := 0) hX (by kernel_rfl) impl_functionOfTwo_3.I_ok (by kernel_rfl) (by kernel_rfl) (by kernel_rfl) hfn (fun xs hp => by
    dsimp only [impl_functionOfTwo_3.E] at hp ⊢
    split at hp
    · exact h _ _ hp
    · cases hp)
theorem impl_functionOfTwo_3.ok : CallSpec Try.prog impl_functionOfTwo_3.E := impl_functionOfTwo_3.ok_of (by simp [impl_functionOfTwo_3.X, impl_limited.ok]) (fun ds rb dom G h qs hq => by
  dsimp only [impl_functionOfTwo_3.E] at h
  split at h
  case h_2 => cases h
  cases h
  match qs, hq with
  | [.i a, .i b], _ => rfl) fun a b _ => ⟨0, by rw [impl_functionOfTwo_3.e]⟩

namespace impl_functionOfTwo_4
noncomputable def E : Entry := ⟨93, true, false, fun | [.d (.int .i64 a), .d (.int .i64 b)] => true | _ => false, fun | [.d (.int .i64 a), .d (.int .i64 b)] => ([.one ((.int .i64 (minI a b)), false)], []) | _ => ([], []), fun _ => [], false, fun | [] => some (false, q2, (q2v (operF 4))) | _ => none⟩
end impl_functionOfTwo_4
namespace impl_functionOfTwo_4
noncomputable def X : List Entry := []
noncomputable def I : List Inl := [⟨93, Try.f93, ⟨[], [], [], [], [], []⟩⟩]
theorem I_ok : ∀ i ∈ I, Try.prog.funcs[i.f]? = some i.fn ∧ (i.fn.name == "runtime.NumGoroutine") = false := by
  intro i hi
  simp only [I, List.mem_cons, List.not_mem_nil, or_false] at hi
  subst hi
  exact ⟨by kernel_rfl, by kernel_rfl⟩
theorem e (fuel : Nat) (p0 : Int) (p1 : Int) : runF Try.prog X I 0 fuel 93 Try.f93 [.d (.int .i64 p0), .d (.int .i64 p1)] =
  some ([.one ((.int .i64 (minI p0 p1)), false)], []) := by kernel_rfl
end impl_functionOfTwo_4
theorem impl_functionOfTwo_4.ok_of (hX : ∀ E ∈ impl_functionOfTwo_4.X, CallSpec Try.prog E) (hfn : ∀ ds rb dom G, impl_functionOfTwo_4.E.fnOf ds = some (rb, dom, G) → ∀ qs, dom qs = true → impl_functionOfTwo_4.E.m ((qs.map fun q => .d q.d) ++ ds.map .d) = some ([.one (fnD rb (G qs), false)], [])) (h : ∀ (a : Int) (b : Int), (true) = true → ∃ fuel, runF Try.prog impl_functionOfTwo_4.X impl_functionOfTwo_4.I 0 fuel 93 Try.f93 [.d (.int .i64 a), .d (.int .i64 b)] = some ([.one ((.int .i64 (minI a b)), false)], [])) : CallSpec Try.prog impl_functionOfTwo_4.E :=
  callSpec_of (d := 0) hX (by kernel_rfl) impl_functionOfTwo_4.I_ok (by kernel_rfl) (by kernel_rfl) (by kernel_rfl) hfn (fun xs hp => by
    dsimp only [impl_functionOfTwo_4.E] at hp ⊢
    split at hp
    · exact h _ _ hp
    · cases hp)
theorem impl_functionOfTwo_4.ok : CallSpec Try.prog impl_functionOfTwo_4.E := impl_functionOfTwo_4.ok_of (by simp [impl_functionOfTwo_4.X]) (fun ds rb dom G h qs hq => by
  dsimp only [impl_functionOfTwo_4.E] at h
  split at h
  case h_2 => cases h
  cases h
  match qs, hq with
  | [.i a, .i b], _ => rfl) fun a b _ => ⟨0, by rw [impl_functionOfTwo_4.e]⟩

namespace impl_functionOfTwo_5
noncomputable def E : Entry := ⟨94, true, false, fun | [.d (.int .i64 a), .d (.int .i64 b)] => true | _ => false, fun | [.d (.int .i64 a), .d (.int .i64 b)] => ([.one ((.int .i64 (maxI a b)), false)], []) | _ => ([], []), fun _ => [], false, fun | [] => some (false, q2, (q2v (operF 5))) | _ => none⟩
end impl_functionOfTwo_5
namespace impl_functionOfTwo_5
noncomputable def X : List Entry := []
noncomputable def I : List Inl := [⟨94, Try.f94, ⟨[], [], [], [], [], []⟩⟩]
theorem I_ok : ∀ i ∈ I, Try.prog.funcs[i.f]? = some i.fn ∧ (i.fn.name == "runtime.NumGoroutine") = false := by
  intro i hi
  simp only [I, List.mem_cons, List.not_mem_nil, or_false] at hi
  subst hi
  exact ⟨by kernel_rfl, by kernel_rfl⟩
theorem e (fuel : Nat) (p0 : Int) (p1 : Int) : runF Try.prog X I 0 fuel 94 Try.f94 [.d (.int .i64 p0), .d (.int .i64 p1)] =
  some ([.one ((.int .i64 (maxI p0 p1)), false)], []) := by kernel_rfl
end impl_functionOfTwo_5
theorem impl_functionOfTwo_5.ok_of (hX : ∀ E ∈ impl_functionOfTwo_5.X, CallSpec Try.prog E) (hfn : ∀ ds rb dom G, impl_functionOfTwo_5.E.fnOf ds = some (rb, dom, G) → ∀ qs, dom qs = true → impl_functionOfTwo_5.E.m ((qs.map fun q => .d q.d) ++ ds.map .d) = some ([.one (fnD rb (G qs), false)], [])) (h : ∀ (a : Int) (b : Int), (true) = true → ∃ fuel, runF Try.prog impl_functionOfTwo_5.X impl_functionOfTwo_5.I 0 fuel 94 Try.f94 [.d (.int .i64 a), .d (.int .i64 b)] = some ([.one ((.int .i64 (maxI a b)), false)], [])) : CallSpec Try.prog impl_functionOfTwo_5.E :=
  callSpec_of (d := 0) hX (by kernel_rfl) impl_functionOfTwo_5.I_ok (by kernel_rfl) (by kernel_rfl) (by kernel_rfl) hfn (fun xs hp => by
    dsimp only [impl_functionOfTwo_5.E] at hp ⊢
    split at hp
    · exact h _ _ hp
    · cases hp)
theorem impl_functionOfTwo_5.ok : CallSpec Try.prog impl_functionOfTwo_5.E := impl_functionOfTwo_5.ok_of (by simp [impl_functionOfTwo_5.X]) (fun ds rb dom G h qs hq => by
  dsimp only [impl_functionOfTwo_5.E] at h
  split at h
  case h_2 => cases h
  cases h
  match qs, hq with
  | [.i a, .i b], _ => rfl) fun a b _ => ⟨0, by rw [impl_functionOfTwo_5.e]⟩

namespace impl_truth
noncomputable def E : Entry := ⟨96, true, false, fun | [.d (.bool b)] => true | _ => false, fun | [.d (.bool b)] => ([.one ((.int .i64 (tInt b)), false)], []) | _ => ([], []), fun _ => [], false, fun _ => none⟩
end impl_truth
namespace impl_truth
noncomputable def X : List Entry := []
noncomputable def I : List Inl := [⟨96, Try.f96, ⟨[], [], [], [], [], []⟩⟩]
theorem I_ok : ∀ i ∈ I, Try.prog.funcs[i.f]? = some i.fn ∧ (i.fn.name == "runtime.NumGoroutine") = false := by
  intro i hi
  simp only [I, List.mem_cons, List.not_mem_nil, or_false] at hi
  subst hi
  exact ⟨by kernel_rfl, by kernel_rfl⟩
theorem e (fuel : Nat) (p0 : Bool) : runF Try.prog X I 0 fuel 96 Try.f96 [.d (.bool p0)] =
  (bif p0 then
  some ([.one ((.int .i64 1), false)], [])
  else
  some ([.one ((.int .i64 0), false)], [])) := by kernel_rfl
end impl_truth
theorem impl_truth.ok_of (hX : ∀ E ∈ impl_truth.X, CallSpec Try.prog E) (h : ∀ (b : Bool), (true) = true → ∃ fuel, runF Try.prog impl_truth.X impl_truth.I 0 fuel 96 Try.f96 [.d (.bool b)] = some ([.one ((.int .i64 (tInt b)), false)], [])) : CallSpec Try.prog impl_truth.E :=
  callSpec_of (d := 0) hX (by kernel_rfl) impl_truth.I_ok (by kernel_rfl) (by kernel_rfl) (by kernel_rfl) (fun _ _ _ _ h => by dsimp only [impl_truth.E] at h; cases h) (fun xs hp => by
    dsimp only [impl_truth.E] at hp ⊢
    split at hp
    · exact h _ hp
    · cases hp)
theorem impl_truth.ok : CallSpec Try.prog impl_truth.E := impl_truth.ok_of (by simp [impl_truth.X]) fun b _ => ⟨0, by rw [impl_truth.e]; cases b <;> rfl⟩

namespace impl_functionOfTwo_6
noncomputable def E : Entry := ⟨95, true, false, fun | [.d (.int .i64 a), .d (.int .i64 b)] => true | _ => false, fun | [.d (.int .i64 a), .d (.int .i64 b)] => ([.one ((.int .i64 (tInt (a == b))), false)], []) | _ => ([], []), fun _ => [], false, fun | [] => some (false, q2, (q2v (operF 6))) | _ => none⟩
end impl_functionOfTwo_6
namespace impl_functionOfTwo_6
noncomputable def X : List Entry := [impl_truth.E]
noncomputable def I : List Inl := [⟨95, Try.f95, ⟨[], [], [], [], [], []⟩⟩]
theorem I_ok : ∀ i ∈ I, Try.prog.funcs[i.f]? = some i.fn ∧ (i.fn.name == "runtime.NumGoroutine") = false := by
  intro i hi
  simp only [I, List.mem_cons, List.not_mem_nil, or_false] at hi
  subst hi
  exact ⟨by kernel_rfl, by kernel_rfl⟩
theorem e (fuel : Nat) (p0 : Int) (p1 : Int) : runF Try.prog X I 0 fuel 95 Try.f95 [.d (.int .i64 p0), .d (.int .i64 p1)] =
  some ([.one ((.int .i64 (tInt (((p0 : Int) == p1)))), false)], []) := by kernel_rfl
end impl_functionOfTwo_6
theorem impl_functionOfTwo_6.ok_of (hX : ∀ E ∈ impl_functionOfTwo_6.X, CallSpec Try.prog E) (hfn : ∀ ds rb dom G, impl_functionOfTwo_6.E.fnOf ds = some (rb, dom, G) → ∀ qs, dom qs = true → impl_functionOfTwo_6.E.m ((qs.map fun q => .d q.d) ++ ds.map .d) = some ([.one (fnD rb (G qs), false)], [])) (h : ∀ (a : Int) (b : Int), (true) = true → ∃ fuel, runF Try.prog impl_functionOfTwo_6.X impl_functionOfTwo_6.I 0 fuel 95 Try.f95 [.d (.int .i64 a), .d (.int .i64 b)] = some ([.one ((.int .i64 (tInt (a == b))), false)], [])) : CallSpec Try.prog impl_functionOfTwo_6.E :=
  callSpec_of (d := 0) hX (by kernel_rfl) impl_functionOfTwo_6.I_ok (by kernel_rfl) (by kernel_rfl) (by kernel_rfl) hfn (fun xs hp => by
    dsimp only [impl_functionOfTwo_6.E] at hp ⊢
    split at hp
    · exact h _ _ hp
    · cases hp)
theorem impl_functionOfTwo_6.ok : CallSpec Try.prog impl_functionOfTwo_6.E := impl_functionOfTwo_6.ok_of (by simp [impl_functionOfTwo_6.X, impl_truth.ok]) (fun ds rb dom G h qs hq => by
  dsimp only [impl_functionOfTwo_6.E] at h
  split at h
  case h_2 => cases h
  cases h
  match qs, hq with
  | [.i a, .i b], _ => rfl) fun a b _ => ⟨0, by rw [impl_functionOfTwo_6.e]⟩

namespace impl_functionOfTwo_7
noncomputable def E : Entry := ⟨97, true, false, fun | [.d (.int .i64 a), .d (.int .i64 b)] => true | _ => false, fun | [.d (.int .i64 a), .d (.int .i64 b)] => ([.one ((.int .i64 (tInt (decide (a < b)))), false)], []) | _ => ([], []), fun _ => [], false, fun | [] => some (false, q2, (q2v (operF 7))) | _ => none⟩
end impl_functionOfTwo_7
namespace impl_functionOfTwo_7
noncomputable def X : List Entry := [impl_truth.E]
noncomputable def I : List Inl := [⟨97, Try.f97, ⟨[], [], [], [], [], []⟩⟩]
theorem I_ok : ∀ i ∈ I, Try.prog.funcs[i.f]? = some i.fn ∧ (i.fn.name == "runtime.NumGoroutine") = false := by
  intro i hi
  simp only [I, List.mem_cons, List.not_mem_nil, or_false] at hi
  subst hi
  exact ⟨by kernel_rfl, by kernel_rfl⟩
theorem e (fuel : Nat) (p0 : Int) (p1 : Int) : runF Try.prog X I 0 fuel 97 Try.f97 [.d (.int .i64 p0), .d (.int .i64 p1)] =
  some ([.one ((.int .i64 (tInt ((decide ((p0 : Int) < p1))))), false)], []) := by kernel_rfl
end impl_functionOfTwo_7
theorem impl_functionOfTwo_7.ok_of (hX : ∀ E ∈ impl_functionOfTwo_7.X, CallSpec Try.prog E) (hfn : ∀ ds rb dom G, impl_functionOfTwo_7.E.fnOf ds = some (rb, dom, G) → ∀ qs, dom qs = true → impl_functionOfTwo_7.E.m ((qs.map fun q => .d q.d) ++ ds.map .d) = some ([.one (fnD rb (G qs), false)], [])) (h : ∀ (a : Int) (b : Int), (true) = true → ∃ fuel, runF Try.prog impl_functionOfTwo_7.X impl_functionOfTwo_7.I 0 fuel 97 Try.f97 [.d (.int .i64 a), .d (.int .i64 b)] = some ([.one ((.int .i64 (tInt (decide (a < b)))), false)], [])) : CallSpec Try.prog impl_functionOfTwo_7.E :=
  callSpec_of (d := 0) hX (by kernel_rfl) impl_functionOfTwo_7.I_ok (by kernel_rfl) (by kernel_rfl) (by kernel_rfl) hfn (fun xs hp => by
    dsimp only [impl_functionOfTwo_7.E] at hp ⊢
    split at hp
    · exact h _ _ hp
    · cases hp)
theorem impl_functionOfTwo_7.ok : CallSpec Try.prog impl_functionOfTwo_7.E := impl_functionOfTwo_7.ok_of (by simp [impl_functionOfTwo_7.X, impl_truth.ok]) (fun ds rb dom G h qs hq => by
  dsimp only [impl_functionOfTwo_7.E] at h
  split at h
  case h_2 => cases h
  cases h
  match qs, hq with
  | [.i a, .i b], _ => rfl) fun a b _ => ⟨0, by rw [impl_functionOfTwo_7.e]⟩

namespace impl_restOf
noncomputable def E : Entry := ⟨98, true, false, fun | [.d (.int .i64 d), .d (.int .i64 n)] => true | _ => false, fun | [.d (.int .i64 d), .d (.int .i64 n)] => ([.one ((.int .i64 (restV d n)), false)], []) | _ => ([], []), fun _ => [], false, fun | [] => some (false, q2, (q2v (operF 8))) | _ => none⟩
end impl_restOf
namespace impl_restOf
noncomputable def X : List Entry := []
noncomputable def I : List Inl := [⟨98, Try.f98, ⟨[], [], [], [], [], []⟩⟩]
theorem I_ok : ∀ i ∈ I, Try.prog.funcs[i.f]? = some i.fn ∧ (i.fn.name == "runtime.NumGoroutine") = false := by
  intro i hi
  simp only [I, List.mem_cons, List.not_mem_nil, or_false] at hi
  subst hi
  exact ⟨by kernel_rfl, by kernel_rfl⟩
theorem e (fuel : Nat) (p0 : Int) (p1 : Int) : runF Try.prog X I 0 fuel 98 Try.f98 [.d (.int .i64 p0), .d (.int .i64 p1)] =
  (bif (decide ((p0 : Int) ≤ 0)) then
  some ([.one ((.int .i64 p1), false)], [])
  else
  (bif decide ((p0 : Int) = 0) then
  none
  else
  (bif decide ((p0 : Int) = 0) then
  none
  else
  some ([.one ((.int .i64 (Int.tmod (IntKind.wrap .i64 ((Int.tmod p1 p0) + p0)) p0)), false)], [])))) := by kernel_rfl
end impl_restOf
theorem impl_restOf.ok_of (hX : ∀ E ∈ impl_restOf.X, CallSpec Try.prog E) (hfn : ∀ ds rb dom G, impl_restOf.E.fnOf ds = some (rb, dom, G) → ∀ qs, dom qs = true → impl_restOf.E.m ((qs.map fun q => .d q.d) ++ ds.map .d) = some ([.one (fnD rb (G qs), false)], [])) (h : ∀ (d : Int) (n : Int), (true) = true → ∃ fuel, runF Try.prog impl_restOf.X impl_restOf.I 0 fuel 98 Try.f98 [.d (.int .i64 d), .d (.int .i64 n)] = some ([.one ((.int .i64 (restV d n)), false)], [])) : CallSpec Try.prog impl_restOf.E :=
  callSpec_of (d := 0) hX (by kernel_rfl) impl_restOf.I_ok (by kernel_rfl) (by kernel_rfl) (by kernel_rfl) hfn (fun xs hp => by
    dsimp only [impl_restOf.E] at hp ⊢
    split at hp
    · exact h _ _ hp
    · cases hp)
theorem impl_restOf.ok : CallSpec Try.prog impl_restOf.E := impl_restOf.ok_of (by simp [impl_restOf.X]) (fun ds rb dom G h qs hq => by
  dsimp only [impl_restOf.E] at h
  split at h
  case h_2 => cases h
  cases h
  match qs, hq with
  | [.i a, .i b], _ => rfl) fun d n _ => ⟨0, by
  rw [impl_restOf.e]
  unfold restV
  by_cases h : d ≤ 0
  · rw [decide_eq_true h]; rfl
  · rw [decide_eq_false h, decide_eq_false (p := d = 0) (by omega)]; rfl⟩

namespace impl_functionOfTwo
noncomputable def E : Entry := ⟨53, true, false, fun | [.d (.int .i64 op)] => true | _ => false, fun | [.d (.int .i64 op)] => ([.one (.nilf, false)], []) | _ => ([], []), fun | [.d (.int .i64 op)] => [(decide (op = 1), ([.one ((.clo 89 []), false)], [])), (decide (op = 2), ([.one ((.clo 91 []), false)], [])), (decide (op = 3), ([.one ((.clo 92 []), false)], [])), (decide (op = 4), ([.one ((.clo 93 []), false)], [])), (decide (op = 5), ([.one ((.clo 94 []), false)], [])), (decide (op = 6), ([.one ((.clo 95 []), false)], [])), (decide (op = 7), ([.one ((.clo 97 []), false)], [])), (decide (op = 8), ([.one ((.clo 98 []), false)], []))] | _ => [], false, fun _ => none⟩
end impl_functionOfTwo
namespace impl_functionOfTwo
noncomputable def X : List Entry := []
noncomputable def I : List Inl := [⟨53, Try.f53, ⟨[], [], [], [], [], []⟩⟩]
theorem I_ok : ∀ i ∈ I, Try.prog.funcs[i.f]? = some i.fn ∧ (i.fn.name == "runtime.NumGoroutine") = false := by
  intro i hi
  simp only [I, List.mem_cons, List.not_mem_nil, or_false] at hi
  subst hi
  exact ⟨by kernel_rfl, by kernel_rfl⟩
theorem e (fuel : Nat) (p0 : Int) : runF Try.prog X I 0 fuel 53 Try.f53 [.d (.int .i64 p0)] =
  (bif (decide ((p0 : Int) < 0)) then
  some ([.one (.nilf, false)], [])
  else
  (bif (decide ((p0 : Int) ≥ 9)) then
  some ([.one (.nilf, false)], [])
  else
  (bif decide (p0 = ((0 : Nat) : Int)) then
  some ([.one (.nilf, false)], [])
  else
  (bif decide (p0 = ((1 : Nat) : Int)) then
  some ([.one ((.clo 89 []), false)], [])
  else
  (bif decide (p0 = ((2 : Nat) : Int)) then
  some ([.one ((.clo 91 []), false)], [])
  else
  (bif decide (p0 = ((3 : Nat) : Int)) then
  some ([.one ((.clo 92 []), false)], [])
  else
  (bif decide (p0 = ((4 : Nat) : Int)) then
  some ([.one ((.clo 93 []), false)], [])
  else
  (bif decide (p0 = ((5 : Nat) : Int)) then
  some ([.one ((.clo 94 []), false)], [])
  else
  (bif decide (p0 = ((6 : Nat) : Int)) then
  some ([.one ((.clo 95 []), false)], [])
  else
  (bif decide (p0 = ((7 : Nat) : Int)) then
  some ([.one ((.clo 97 []), false)], [])
  else
  (bif decide (p0 = ((8 : Nat) : Int)) then
  some ([.one ((.clo 98 []), false)], [])
  else
  none))))))))))) := by kernel_rfl
end impl_functionOfTwo
theorem impl_functionOfTwo.ok_of (hX : ∀ E ∈ impl_functionOfTwo.X, CallSpec Try.prog E) (h : ∀ (op : Int), (true) = true → ∃ fuel, runF Try.prog impl_functionOfTwo.X impl_functionOfTwo.I 0 fuel 53 Try.f53 [.d (.int .i64 op)] = some (bif decide (op = 1) then ([.one ((.clo 89 []), false)], []) else (bif decide (op = 2) then ([.one ((.clo 91 []), false)], []) else (bif decide (op = 3) then ([.one ((.clo 92 []), false)], []) else (bif decide (op = 4) then ([.one ((.clo 93 []), false)], []) else (bif decide (op = 5) then ([.one ((.clo 94 []), false)], []) else (bif decide (op = 6) then ([.one ((.clo 95 []), false)], []) else (bif decide (op = 7) then ([.one ((.clo 97 []), false)], []) else (bif decide (op = 8) then ([.one ((.clo 98 []), false)], []) else ([.one (.nilf, false)], [])))))))))) : CallSpec Try.prog impl_functionOfTwo.E :=
  callSpec_of (d := 0) hX (by kernel_rfl) impl_functionOfTwo.I_ok (by kernel_rfl) (by kernel_rfl) (by kernel_rfl) (fun _ _ _ _ h => by dsimp only [impl_functionOfTwo.E] at h; cases h) (fun xs hp => by
    dsimp only [impl_functionOfTwo.E] at hp ⊢
    split at hp
    · exact h _ hp
    · cases hp)
theorem impl_functionOfTwo.ok : CallSpec Try.prog impl_functionOfTwo.E := impl_functionOfTwo.ok_of (by simp [impl_functionOfTwo.X]) fun op _ => ⟨0, by
  rw [impl_functionOfTwo.e]
  cases ho : opOk op with
  | true => rcases opOk_cases ho with rfl | rfl | rfl | rfl | rfl | rfl | rfl | rfl <;> rfl
  | false =>
    have h := opOk_no ho
    rw [decide_eq_false (p := op = 1) (by omega), decide_eq_false (p := op = 2) (by omega), decide_eq_false (p := op = 3) (by omega), decide_eq_false (p := op = 4) (by omega),
      decide_eq_false (p := op = 5) (by omega), decide_eq_false (p := op = 6) (by omega), decide_eq_false (p := op = 7) (by omega), decide_eq_false (p := op = 8) (by omega)]
    by_cases h1 : op < 0
    · rw [decide_eq_true h1]; rfl
    · by_cases h2 : op ≥ 9
      · rw [decide_eq_false h1, decide_eq_true h2]; rfl
      · have : op = 0 := by omega
        subst this
        rfl⟩

namespace impl_functionOfTwo_f
noncomputable def E : Entry := ⟨53, true, false, fun | [.d (.int .i64 op)] => true | _ => false, fun | [.d (.int .i64 op)] => ([.one (.nilf, false)], []) | _ => ([], []), fun | [.d (.int .i64 op)] => [(opOk op, ([.one ((.fn false q2 ((q2v (operF op)))), false)], []))] | _ => [], false, fun _ => none⟩
end impl_functionOfTwo_f
theorem impl_functionOfTwo_f.ok : CallSpec Try.prog impl_functionOfTwo_f.E := CallSpec.le impl_functionOfTwo.ok rfl (fun _ _ _ _ h => by dsimp only [impl_functionOfTwo_f.E] at h; cases h) fun xs h => by
  dsimp only [impl_functionOfTwo_f.E] at h
  split at h
  case h_2 => simp at h
  rename_i op
  refine ⟨rfl, ?_⟩
  simp only [Entry.r, impl_functionOfTwo_f.E, impl_functionOfTwo.E, pickR]
  cases ho : opOk op with
  | true =>
    rcases opOk_cases ho with rfl | rfl | rfl | rfl | rfl | rfl | rfl | rfl
    · exact ⟨.one (.inr (.inr (.inr ⟨impl_functionOfTwo_1.E, [], false, q2, q2v (operF 1), impl_functionOfTwo_1.ok, rfl, rfl, rfl⟩))) .nil, rfl⟩
    · exact ⟨.one (.inr (.inr (.inr ⟨impl_functionOfTwo_2.E, [], false, q2, q2v (operF 2), impl_functionOfTwo_2.ok, rfl, rfl, rfl⟩))) .nil, rfl⟩
    · exact ⟨.one (.inr (.inr (.inr ⟨impl_functionOfTwo_3.E, [], false, q2, q2v (operF 3), impl_functionOfTwo_3.ok, rfl, rfl, rfl⟩))) .nil, rfl⟩
    · exact ⟨.one (.inr (.inr (.inr ⟨impl_functionOfTwo_4.E, [], false, q2, q2v (operF 4), impl_functionOfTwo_4.ok, rfl, rfl, rfl⟩))) .nil, rfl⟩
    · exact ⟨.one (.inr (.inr (.inr ⟨impl_functionOfTwo_5.E, [], false, q2, q2v (operF 5), impl_functionOfTwo_5.ok, rfl, rfl, rfl⟩))) .nil, rfl⟩
    · exact ⟨.one (.inr (.inr (.inr ⟨impl_functionOfTwo_6.E, [], false, q2, q2v (operF 6), impl_functionOfTwo_6.ok, rfl, rfl, rfl⟩))) .nil, rfl⟩
    · exact ⟨.one (.inr (.inr (.inr ⟨impl_functionOfTwo_7.E, [], false, q2, q2v (operF 7), impl_functionOfTwo_7.ok, rfl, rfl, rfl⟩))) .nil, rfl⟩
    · exact ⟨.one (.inr (.inr (.inr ⟨impl_restOf.E, [], false, q2, q2v (operF 8), impl_restOf.ok, rfl, rfl, rfl⟩))) .nil, rfl⟩
  | false =>
    have h := opOk_no ho
    rw [decide_eq_false (p := op = 1) (by omega), decide_eq_false (p := op = 2) (by omega), decide_eq_false (p := op = 3) (by omega), decide_eq_false (p := op = 4) (by omega),
      decide_eq_false (p := op = 5) (by omega), decide_eq_false (p := op = 6) (by omega), decide_eq_false (p := op = 7) (by omega), decide_eq_false (p := op = 8) (by omega)]
    exact ⟨.same .nil, rfl⟩

namespace impl_NeutralOf
noncomputable def E : Entry := ⟨101, true, false, fun | [.d (.int .i64 op)] => true | _ => false, fun | [.d (.int .i64 op)] => ([.one ((.int .i64 (neuV op)), false)], []) | _ => ([], []), fun _ => [], false, fun _ => none⟩
end impl_NeutralOf
namespace impl_NeutralOf
noncomputable def X : List Entry := []
noncomputable def I : List Inl := [⟨101, Try.f101, ⟨[], [], [], [], [], []⟩⟩]
theorem I_ok : ∀ i ∈ I, Try.prog.funcs[i.f]? = some i.fn ∧ (i.fn.name == "runtime.NumGoroutine") = false := by
  intro i hi
  simp only [I, List.mem_cons, List.not_mem_nil, or_false] at hi
  subst hi
  exact ⟨by kernel_rfl, by kernel_rfl⟩
theorem e (fuel : Nat) (p0 : Int) : runF Try.prog X I 0 fuel 101 Try.f101 [.d (.int .i64 p0)] =
  (bif ((p0 : Int) == 3) then
  some ([.one ((.int .i64 1), false)], [])
  else
  (bif ((p0 : Int) == 6) then
  some ([.one ((.int .i64 1), false)], [])
  else
  (bif ((p0 : Int) == 4) then
  some ([.one ((.int .i64 1000000), false)], [])
  else
  (bif ((p0 : Int) == 5) then
  some ([.one ((.int .i64 (-1000000)), false)], [])
  else
  some ([.one ((.int .i64 0), false)], []))))) := by kernel_rfl
end impl_NeutralOf
theorem impl_NeutralOf.ok_of (hX : ∀ E ∈ impl_NeutralOf.X, CallSpec Try.prog E) (h : ∀ (op : Int), (true) = true → ∃ fuel, runF Try.prog impl_NeutralOf.X impl_NeutralOf.I 0 fuel 101 Try.f101 [.d (.int .i64 op)] = some ([.one ((.int .i64 (neuV op)), false)], [])) : CallSpec Try.prog impl_NeutralOf.E :=
  callSpec_of (d := 0) hX (by kernel_rfl) impl_NeutralOf.I_ok (by kernel_rfl) (by kernel_rfl) (by kernel_rfl) (fun _ _ _ _ h => by dsimp only [impl_NeutralOf.E] at h; cases h) (fun xs hp => by
    dsimp only [impl_NeutralOf.E] at hp ⊢
    split at hp
    · exact h _ hp
    · cases hp)
theorem impl_NeutralOf.ok : CallSpec Try.prog impl_NeutralOf.E := impl_NeutralOf.ok_of (by simp [impl_NeutralOf.X]) fun op _ => ⟨0, by
  rw [impl_NeutralOf.e]
  unfold neuV
  cases ho : opOk op with
  | true => rcases opOk_cases ho with rfl | rfl | rfl | rfl | rfl | rfl | rfl | rfl <;> rfl
  | false =>
    have h := opOk_no ho
    rw [show (op == 3) = false by simp; omega, show (op == 6) = false by simp; omega, show (op == 4) = false by simp; omega, show (op == 5) = false by simp; omega]
    rfl⟩

namespace impl_foldRight_int_int
noncomputable def E : Entry := ⟨102, true, false, fun | [.d (.ints .i64 xs), .d (.int .i64 s), .d (.fn false dom G)] => decide (xs.length < 9223372036854775808) && fdB dom G xs s | _ => false, fun | [.d (.ints .i64 xs), .d (.int .i64 s), .d (.fn false dom G)] => ([.one ((.int .i64 (foldW G xs s)), false)], []) | _ => ([], []), fun _ => [], false, fun _ => none⟩
end impl_foldRight_int_int
namespace impl_foldRight_int_int
noncomputable def X : List Entry := []
noncomputable def I : List Inl := [⟨102, Try.f102, ⟨[], [(1, [1, 2, 3, 7, 8, 9, 10, 11, 12, 13, 14, 15, 16, 17])], [], [], [], []⟩⟩, ⟨111, Try.f111, ⟨[], [], [(1, [1])], [], [], []⟩⟩, ⟨114, Try.f114, ⟨[], [(1000001, [2, 4, 5, 6, 7, 8, 9, 10, 11, 12, 13, 14, 15, 16, 17, 18])], [], [], [], []⟩⟩]
theorem I_ok : ∀ i ∈ I, Try.prog.funcs[i.f]? = some i.fn ∧ (i.fn.name == "runtime.NumGoroutine") = false := by
  intro i hi
  simp only [I, List.mem_cons, List.not_mem_nil, or_false] at hi
  rcases hi with rfl | rfl | rfl
  all_goals exact ⟨by kernel_rfl, by kernel_rfl⟩
noncomputable abbrev L0 (fuel n : Nat) (s : St) (k : Kont) := lAt Try.prog X I fuel true 3 false 114 (bodyOf Try.f114) [1, 0] n s k
noncomputable abbrev k0  (fuel : Nat) : Kont := (kAt Try.prog X I fuel true 3 false 114 (bodyOf Try.f114) [1, 0] [] (endFn Try.prog Try.f114 18 (kRange (kAt Try.prog X I fuel true 4 false 102 (bodyOf Try.f102) [1, 0, 1, 0] [] (endK Try.prog Try.f102)))))
noncomputable def t0 (p0 : List Int) (p2d : List Q → Bool) (p2g : List Q → Int) (x0q1 : Int) (x0q6 : Int) : St := ⟨[(.yld 1000000001), (.imm (.pbox [(.ints .i64 p0)])), .dead, (.imm (.int .i64 x0q1)), .dead, .dead, .dead, .dead, .dead, .dead, .dead, .dead, .dead, .dead, .dead, .dead, .dead, .dead, .dead], hOf [(1000000000, .dfr), (1000000001, (.loop 102 [(.imm (.ints .i64 p0)), .dead, .dead, .dead, (.ptr 1000000002 0 0), (.ptr 1000000003 0 0), (.imm (.int .i64 0)), .dead, .dead, (.imm (.ints .i64 p0)), (.imm (.clo 114 [(.pbox [(.ints .i64 p0)])])), .dead, .dead, .dead, .dead, .dead, .dead, .dead] [11, 12] (cAt (bodyOf Try.f102) [1, 0, 1, 0, 0]) (cAt (bodyOf Try.f102) [1, 0, 1, 0, 1]) .ready)), (1000000002, (.box [(.imm (.int .i64 x0q6))])), (1000000003, (.box [(.imm (.fn false p2d p2g))]))], [(.imm (.ints .i64 p0)), .dead, .dead, .dead, (.ptr 1000000002 0 0), (.ptr 1000000003 0 0), (.imm (.int .i64 0)), .dead, .dead, (.imm (.ints .i64 p0)), (.imm (.clo 114 [(.pbox [(.ints .i64 p0)])])), .dead, .dead, .dead, .dead, .dead, .dead, .dead, (.tup [(.dfr 1000000000)]), (.yld 1000000001)], []⟩
theorem e (fuel : Nat) (p0 : List Int) (p1 : Int) (p2d : List Q → Bool) (p2g : List Q → Int) : runF Try.prog X I 4 fuel 102 Try.f102 [.d (.ints .i64 p0), .d (.int .i64 p1), .d (.fn false p2d p2g)] =
  L0 fuel fuel (t0 p0 p2d p2g ((IntKind.wrap .i64 (((p0.length : Nat) : Int) - 1))) p1) (k0  fuel) := by kernel_rfl
theorem s0 (fuel n0 : Nat) (p0 : List Int) (p2d : List Q → Bool) (p2g : List Q → Int) (x0q1 : Int) (x0q6 : Int) : L0 fuel (n0 + 1) (t0 p0 p2d p2g x0q1 x0q6) (k0  fuel) =
  (bif (decide ((x0q1 : Int) ≥ 0)) then
  (idx x0q1 p0.length).bind fun j5 =>
  (p0[j5]?).bind fun v6 =>
  (bif (p2d [Q.i v6, Q.i x0q6]) then
  L0 fuel n0 (t0 p0 p2d p2g ((IntKind.wrap .i64 (x0q1 - 1))) ((p2g [Q.i v6, Q.i x0q6]))) (k0  fuel)
  else
  none)
  else
  some ([.one ((.int .i64 x0q6), false)], [])) := by kernel_rfl
end impl_foldRight_int_int
theorem impl_foldRight_int_int.ok_of (hX : ∀ E ∈ impl_foldRight_int_int.X, CallSpec Try.prog E) (h : ∀ (xs : List Int) (s : Int) (dom : List Q → Bool) (G : List Q → Int), (decide (xs.length < 9223372036854775808) && fdB dom G xs s) = true → ∃ fuel, runF Try.prog impl_foldRight_int_int.X impl_foldRight_int_int.I 4 fuel 102 Try.f102 [.d (.ints .i64 xs), .d (.int .i64 s), .d (.fn false dom G)] = some ([.one ((.int .i64 (foldW G xs s)), false)], [])) : CallSpec Try.prog impl_foldRight_int_int.E :=
  callSpec_of (d := 4) hX (by kernel_rfl) impl_foldRight_int_int.I_ok (by kernel_rfl) (by kernel_rfl) (by kernel_rfl) (fun _ _ _ _ h => by dsimp only [impl_foldRight_int_int.E] at h; cases h) (fun xs hp => by
    dsimp only [impl_foldRight_int_int.E] at hp ⊢
    split at hp
    · exact h _ _ _ _ hp
    · cases hp)
theorem impl_foldRight_int_int.ok : CallSpec Try.prog impl_foldRight_int_int.E := impl_foldRight_int_int.ok_of (by simp [impl_foldRight_int_int.X]) fun xs s dom G h => ⟨xs.length + 1, by
  simp only [Bool.and_eq_true, decide_eq_true_eq] at h
  rw [impl_foldRight_int_int.e, wS (by omega) (by omega), show ((xs.length : Nat) : Int) - 1 = ((xs.length : Nat) : Int) - 1 - ((0 : Nat) : Int) by omega]
  have hd : ∀ i, i < xs.length → fdB dom G (xs.drop i) s = true := by
    intro i hi
    clear hi
    induction i with
    | zero => simpa using h.2
    | succ i ih =>
      by_cases hl : i < xs.length
      · rw [dropS hl] at ih
        simp only [fdB, Bool.and_eq_true] at ih
        exact ih.1
      · rw [dropE (by omega)]; rfl
  refine run_loop (N := xs.length) (fun n j acc => impl_foldRight_int_int.L0 (xs.length + 1) n (impl_foldRight_int_int.t0 xs dom G (((xs.length : Nat) : Int) - 1 - (j : Int)) acc) (impl_foldRight_int_int.k0 (xs.length + 1))) (fun j acc => acc = foldW G (xs.drop (xs.length - j)) s) ?_ ?_ (xs.length + 1) 0 _ (by omega) (by omega) (by simp [foldW])
  · intro n acc ho
    rw [impl_foldRight_int_int.s0, decide_eq_false (by omega), ho, Nat.sub_self, List.drop_zero]
    rfl
  · intro n j acc hj ho
    obtain ⟨k, hk⟩ : ∃ k, xs.length - j = k + 1 := ⟨xs.length - j - 1, by omega⟩
    have hkl : k < xs.length := by omega
    have e1 : ((xs.length : Nat) : Int) - 1 - (j : Int) = (k : Int) := by omega
    have hdk := hd k hkl
    rw [dropS hkl] at hdk
    simp only [fdB, Bool.and_eq_true] at hdk
    have hg : xs.getD k 0 = xs[k] := by simp [hkl]
    rw [e1, impl_foldRight_int_int.s0, decide_eq_true (by omega), idx_nat hkl, wS (by omega) (by omega)]
    simp only [cond_true, Option.bind_some, getD_get hkl]
    rw [ho, hk, hg, hdk.2, cond_true]
    refine ⟨_, ?_, by rw [show ((xs.length : Nat) : Int) - 1 - ((j + 1 : Nat) : Int) = (k : Int) - 1 by omega]⟩
    rw [show xs.length - (j + 1) = k by omega, dropS hkl]
    rfl⟩

namespace impl_reductionOf_1
noncomputable def E : Entry := ⟨100, true, false, fun | [.d (.ints .i64 xs), .d (.pbox [(.int .i64 op)]), .d (.pbox [(.fn false dom G)])] => rdB dom G xs | _ => false, fun | [.d (.ints .i64 xs), .d (.pbox [(.int .i64 op)]), .d (.pbox [(.fn false dom G)])] => ([.one ((.int .i64 (redG op G xs)), false)], []) | _ => ([], []), fun _ => [], false, fun | [(.pbox [(.int .i64 op)]), (.pbox [(.fn false dom G)])] => some (false, (qlB dom G), (qlv (redG op G))) | _ => none⟩
end impl_reductionOf_1
namespace impl_reductionOf_1
noncomputable def X : List Entry := [impl_NeutralOf.E, impl_foldRight_int_int.E]
noncomputable def I : List Inl := [⟨100, Try.f100, ⟨[], [], [], [(4, [0, 1, 3, 4, 2, 5, 6, 7, 8, 9])], [], []⟩⟩]
theorem I_ok : ∀ i ∈ I, Try.prog.funcs[i.f]? = some i.fn ∧ (i.fn.name == "runtime.NumGoroutine") = false := by
  intro i hi
  simp only [I, List.mem_cons, List.not_mem_nil, or_false] at hi
  subst hi
  exact ⟨by kernel_rfl, by kernel_rfl⟩
theorem e (fuel : Nat) (p0 : List Int) (f0q0 : Int) (f1q0d : List Q → Bool) (f1q0g : List Q → Int) : runF Try.prog X I 0 fuel 100 Try.f100 [.d (.ints .i64 p0), .d (.pbox [(.int .i64 f0q0)]), .d (.pbox [(.fn false f1q0d f1q0g)])] =
  (bif (decide (((IntKind.wrap .i64 (((p0.length : Nat) : Int) - 1)) : Int) < 0)) then
  some ([.one ((.int .i64 (neuV f0q0)), false)], [])
  else
  (cutEnds p0.length (none) (some (.imm (.int .i64 (IntKind.wrap .i64 (((p0.length : Nat) : Int) - 1)))))).bind fun cq1 =>
  (idx (IntKind.wrap .i64 (((p0.length : Nat) : Int) - 1)) p0.length).bind fun j2 =>
  (p0[j2]?).bind fun v3 =>
  (bif decide ((((p0.drop cq1.1).take (cq1.2 - cq1.1))).length < 9223372036854775808) && fdB f1q0d f1q0g (((p0.drop cq1.1).take (cq1.2 - cq1.1))) v3 then
  some ([.one ((.int .i64 (foldW f1q0g (((p0.drop cq1.1).take (cq1.2 - cq1.1))) v3)), false)], [])
  else
  none)) := by kernel_rfl
end impl_reductionOf_1
theorem impl_reductionOf_1.ok_of (hX : ∀ E ∈ impl_reductionOf_1.X, CallSpec Try.prog E) (hfn : ∀ ds rb dom G, impl_reductionOf_1.E.fnOf ds = some (rb, dom, G) → ∀ qs, dom qs = true → impl_reductionOf_1.E.m ((qs.map fun q => .d q.d) ++ ds.map .d) = some ([.one (fnD rb (G qs), false)], [])) (h : ∀ (xs : List Int) (op : Int) (dom : List Q → Bool) (G : List Q → Int), (rdB dom G xs) = true → ∃ fuel, runF Try.prog impl_reductionOf_1.X impl_reductionOf_1.I 0 fuel 100 Try.f100 [.d (.ints .i64 xs), .d (.pbox [(.int .i64 op)]), .d (.pbox [(.fn false dom G)])] = some ([.one ((.int .i64 (redG op G xs)), false)], [])) : CallSpec Try.prog impl_reductionOf_1.E :=
  callSpec_of (d := 0) hX (by kernel_rfl) impl_reductionOf_1.I_ok (by kernel_rfl) (by kernel_rfl) (by kernel_rfl) hfn (fun xs hp => by
    dsimp only [impl_reductionOf_1.E] at hp ⊢
    split at hp
    · exact h _ _ _ _ hp
    · cases hp)
theorem impl_reductionOf_1.ok : CallSpec Try.prog impl_reductionOf_1.E := impl_reductionOf_1.ok_of (by simp [impl_reductionOf_1.X, impl_NeutralOf.ok, impl_foldRight_int_int.ok]) (fun ds rb dom G h qs hq => by
  dsimp only [impl_reductionOf_1.E] at h
  split at h
  case h_2 => cases h
  cases h
  match qs, hq with
  | [.l xs], hq =>
    show Entry.m impl_reductionOf_1.E [.d (.ints .i64 xs), _, _] = _
    simp only [Entry.m, impl_reductionOf_1.E]
    rw [show rdB _ _ xs = true from hq]
    rfl) fun xs op dom G h => ⟨0, by
  simp only [rdB, Bool.and_eq_true, decide_eq_true_eq] at h
  rw [impl_reductionOf_1.e, wS (by omega) (by omega)]
  unfold redG
  by_cases h0 : xs.length = 0
  · rw [decide_eq_true (by omega), decide_eq_true h0]; rfl
  · obtain ⟨k, hk⟩ : ∃ k, xs.length = k + 1 := ⟨xs.length - 1, by omega⟩
    have e1 : ((xs.length : Nat) : Int) - 1 = (k : Int) := by omega
    have hkl : k < xs.length := by omega
    have e2 : xs.length - 1 = k := by omega
    rw [e2] at h
    rw [decide_eq_false (by omega), decide_eq_false h0, cond_false, e1, cut_hi (by omega), idx_nat hkl]
    simp only [Option.bind_some, getD_get hkl, List.drop_zero, Nat.sub_zero]
    rw [decide_eq_true (by simp; omega), h.2, e2]
    rfl⟩

namespace impl_reductionOf
noncomputable def E : Entry := ⟨62, true, false, fun | [.d (.int .i64 op)] => true | _ => false, fun | [.d (.int .i64 op)] => ([.one (.nilf, false)], []) | _ => ([], []), fun | [.d (.int .i64 op)] => [(opOk op, ([.one ((.fn false ql ((qlv (redF op)))), false)], []))] | _ => [], false, fun _ => none⟩
end impl_reductionOf
namespace impl_reductionOf
noncomputable def X : List Entry := [impl_functionOfTwo_f.E, impl_reductionOf_1.E]
noncomputable def I : List Inl := [⟨62, Try.f62, ⟨[], [], [(4, [1, 3])], [], [], []⟩⟩]
theorem I_ok : ∀ i ∈ I, Try.prog.funcs[i.f]? = some i.fn ∧ (i.fn.name == "runtime.NumGoroutine") = false := by
  intro i hi
  simp only [I, List.mem_cons, List.not_mem_nil, or_false] at hi
  subst hi
  exact ⟨by kernel_rfl, by kernel_rfl⟩
theorem e (fuel : Nat) (p0 : Int) : runF Try.prog X I 0 fuel 62 Try.f62 [.d (.int .i64 p0)] =
  (bif opOk p0 then
  some ([.one ((.fn false ((qlB q2 ((q2v (operF p0))))) ((qlv (redG p0 ((q2v (operF p0))))))), false)], [])
  else
  some ([.one (.nilf, false)], [])) := by kernel_rfl
end impl_reductionOf
theorem impl_reductionOf.ok_of (hX : ∀ E ∈ impl_reductionOf.X, CallSpec Try.prog E) (h : ∀ (op : Int), (true) = true → ∃ fuel, runF Try.prog impl_reductionOf.X impl_reductionOf.I 0 fuel 62 Try.f62 [.d (.int .i64 op)] = some (bif opOk op then ([.one ((.fn false ql ((qlv (redF op)))), false)], []) else ([.one (.nilf, false)], []))) : CallSpec Try.prog impl_reductionOf.E :=
  callSpec_of (d := 0) hX (by kernel_rfl) impl_reductionOf.I_ok (by kernel_rfl) (by kernel_rfl) (by kernel_rfl) (fun _ _ _ _ h => by dsimp only [impl_reductionOf.E] at h; cases h) (fun xs hp => by
    dsimp only [impl_reductionOf.E] at hp ⊢
    split at hp
    · exact h _ hp
    · cases hp)
theorem impl_reductionOf.ok : CallSpec Try.prog impl_reductionOf.E := impl_reductionOf.ok_of (by simp [impl_reductionOf.X, impl_functionOfTwo_f.ok, impl_reductionOf_1.ok]) fun op _ => ⟨0, by
  rw [impl_reductionOf.e, qlB_q2, redG_eq]
  cases opOk op <;> rfl⟩

namespace slices_Concat_int_int
noncomputable def E : Entry := ⟨63, false, false, fun | [.d (.seq 1 [(.ints .i64 xs), (.ints .i64 ys)])] => szB xs && szB ys | _ => false, fun | [.d (.seq 1 [(.ints .i64 xs), (.ints .i64 ys)])] => ([.one ((.ints .i64 (xs ++ ys)), true)], []) | _ => ([], []), fun _ => [], true, fun _ => none⟩
end slices_Concat_int_int
namespace slices_Concat_int_int
noncomputable def X : List Entry := []
noncomputable def I : List Inl := [⟨63, Try.f63, ⟨[24], [(9, [1, 2, 4, 5, 6, 7, 8, 9, 10, 11, 12, 13, 14, 15, 16, 17, 18, 19, 20, 21, 22, 23, 24, 25, 26, 27, 28, 29, 30, 31, 32, 33, 34, 35]), (1000003, [1, 2, 4, 5, 6, 7, 8, 12, 13, 14, 15, 16, 17, 18, 19, 20, 21, 22, 23, 24, 25, 26, 27, 28, 29, 30, 31, 32, 33, 34, 35]), (1000011, [0, 1, 2, 3, 4, 5, 7, 8, 9, 10, 11, 12, 13, 14, 15, 16, 17, 18, 19, 20, 21, 22, 23, 24, 28, 29, 30, 31, 32, 33, 34, 35])], [], [], [], []⟩⟩, ⟨103, Try.f103, ⟨[], [], [], [], [], []⟩⟩]
theorem I_ok : ∀ i ∈ I, Try.prog.funcs[i.f]? = some i.fn ∧ (i.fn.name == "runtime.NumGoroutine") = false := by
  intro i hi
  simp only [I, List.mem_cons, List.not_mem_nil, or_false] at hi
  rcases hi with rfl | rfl
  all_goals exact ⟨by kernel_rfl, by kernel_rfl⟩
theorem e (p0e0 : List Int) (p0e1 : List Int) : runF Try.prog X I 4 8 63 Try.f63 [.d (.seq 1 [(.ints .i64 p0e0), (.ints .i64 p0e1)])] =
  (bif (decide (((IntKind.wrap .i64 (0 + ((p0e0.length : Nat) : Int))) : Int) < 0)) then
  none
  else
  (bif (decide (((IntKind.wrap .i64 ((IntKind.wrap .i64 (0 + ((p0e0.length : Nat) : Int))) + ((p0e1.length : Nat) : Int))) : Int) < 0)) then
  none
  else
  (bif (decide (((IntKind.wrap .i64 ((IntKind.wrap .i64 (0 + ((p0e0.length : Nat) : Int))) + ((p0e1.length : Nat) : Int))) : Int) < 0)) then
  none
  else
  (bif (decide (((IntKind.wrap .i64 ((IntKind.wrap .i64 ((IntKind.wrap .i64 (0 + ((p0e0.length : Nat) : Int))) + ((p0e1.length : Nat) : Int))) - 0)) : Int) > 0)) then
  (cutEnds 0 (none) (some (.imm (.int .i64 0)))).bind fun cq3 =>
  (bif decide (0 ≤ ((IntKind.wrap .i64 ((IntKind.wrap .i64 ((IntKind.wrap .i64 (0 + ((p0e0.length : Nat) : Int))) + ((p0e1.length : Nat) : Int))) - 0)) : Int)) && fits ((IntKind.wrap .i64 ((IntKind.wrap .i64 ((IntKind.wrap .i64 (0 + ((p0e0.length : Nat) : Int))) + ((p0e1.length : Nat) : Int))) - 0))).toNat 8 then
  (cutEnds (List.replicate ((IntKind.wrap .i64 ((IntKind.wrap .i64 ((IntKind.wrap .i64 (0 + ((p0e0.length : Nat) : Int))) + ((p0e1.length : Nat) : Int))) - 0))).toNat (0 : Int)).length (none) (some (.imm (.int .i64 0)))).bind fun cq4 =>
  (bif decide (cq4.1 = 0) && decide ((cq4.2 - cq4.1) ≤ (List.replicate ((IntKind.wrap .i64 ((IntKind.wrap .i64 ((IntKind.wrap .i64 (0 + ((p0e0.length : Nat) : Int))) + ((p0e1.length : Nat) : Int))) - 0))).toNat (0 : Int)).length) && fits ((cq4.2 - cq4.1) + p0e0.length) 8 then
  (bif fits (((List.replicate ((IntKind.wrap .i64 ((IntKind.wrap .i64 ((IntKind.wrap .i64 (0 + ((p0e0.length : Nat) : Int))) + ((p0e1.length : Nat) : Int))) - 0))).toNat (0 : Int)).take ((cq4.2 - cq4.1)) ++ p0e0).length + p0e1.length) 8 then
  some ([.one ((.ints .i64 (((List.replicate ((IntKind.wrap .i64 ((IntKind.wrap .i64 ((IntKind.wrap .i64 (0 + ((p0e0.length : Nat) : Int))) + ((p0e1.length : Nat) : Int))) - 0))).toNat (0 : Int)).take ((cq4.2 - cq4.1)) ++ p0e0) ++ p0e1)), true)], [])
  else
  none)
  else
  none)
  else
  none)
  else
  (bif fits p0e0.length 8 then
  (bif fits (p0e0.length + p0e1.length) 8 then
  some ([.one ((.ints .i64 (p0e0 ++ p0e1)), true)], [])
  else
  none)
  else
  none))))) := by kernel_rfl
end slices_Concat_int_int
theorem slices_Concat_int_int.ok_of (hX : ∀ E ∈ slices_Concat_int_int.X, CallSpec Try.prog E) (h : ∀ (xs : List Int) (ys : List Int), (szB xs && szB ys) = true → ∃ fuel, runF Try.prog slices_Concat_int_int.X slices_Concat_int_int.I 4 fuel 63 Try.f63 [.d (.seq 1 [(.ints .i64 xs), (.ints .i64 ys)])] = some ([.one ((.ints .i64 (xs ++ ys)), true)], [])) : CallSpec Try.prog slices_Concat_int_int.E :=
  callSpec_of (d := 4) hX (by kernel_rfl) slices_Concat_int_int.I_ok (by kernel_rfl) (by kernel_rfl) (by kernel_rfl) (fun _ _ _ _ h => by dsimp only [slices_Concat_int_int.E] at h; cases h) (fun xs hp => by
    dsimp only [slices_Concat_int_int.E] at hp ⊢
    split at hp
    · exact h _ _ hp
    · cases hp)
theorem slices_Concat_int_int.ok : CallSpec Try.prog slices_Concat_int_int.E := slices_Concat_int_int.ok_of (by simp [slices_Concat_int_int.X]) fun xs ys h => ⟨8, by
  simp only [Bool.and_eq_true] at h
  have h1 := szB_le h.1
  have h2 := szB_le h.2
  have e0 : IntKind.wrap .i64 (0 + ((xs.length : Nat) : Int)) = ((xs.length : Nat) : Int) := by rw [Int.zero_add, wN (by omega)]
  have e1 : IntKind.wrap .i64 (((xs.length : Nat) : Int) + ((ys.length : Nat) : Int)) = ((xs.length + ys.length : Nat) : Int) := wAdd (by omega)
  have e2 : IntKind.wrap .i64 (((xs.length + ys.length : Nat) : Int) - 0) = ((xs.length + ys.length : Nat) : Int) := by rw [Int.sub_zero, wN (by omega)]
  rw [slices_Concat_int_int.e, e0, e1, e2, decide_eq_false (p := ((xs.length : Nat) : Int) < 0) (by omega), decide_eq_false (p := ((xs.length + ys.length : Nat) : Int) < 0) (by omega), cond_false, cond_false, cond_false]
  by_cases h0 : ((xs.length + ys.length : Nat) : Int) > 0
  · rw [decide_eq_true h0, cond_true, Int.toNat_natCast, show (some (AV.imm (.int .i64 0)) : Option AV) = some (.imm (.int .i64 ((0 : Nat) : Int))) from rfl, cut_hi (Nat.le_refl 0), cut_hi (Nat.zero_le _)]
    simp only [Option.bind_some]
    rw [decide_eq_true (p := (0 : Int) ≤ ((xs.length + ys.length : Nat) : Int)) (by omega), fitsOk (by omega)]
    simp only [Nat.sub_self, List.take_zero, List.nil_append, Nat.zero_le, decide_true, Bool.and_self, Bool.true_and, cond_true, Nat.zero_add]
    rw [fitsOk (by omega), cond_true, fitsOk (by omega), cond_true]
  · rw [decide_eq_false h0, cond_false, fitsOk (by omega), cond_true, fitsOk (by omega), cond_true]⟩

namespace impl_lineOf
noncomputable def E : Entry := ⟨66, false, false, fun | [.d (.agg [(.ints .i64 sh), (.ints .i64 da)]), .d (.int .i64 k), .d (.int .i64 n)] => axB sh da k && lnB sh k n | _ => false, fun | [.d (.agg [(.ints .i64 sh), (.ints .i64 da)]), .d (.int .i64 k), .d (.int .i64 n)] => ([.one ((.ints .i64 (lnN sh da k n)), true)], []) | _ => ([], []), fun _ => [], true, fun _ => none⟩
end impl_lineOf
namespace impl_lineOf
noncomputable def X : List Entry := [impl_layoutOf.E]
noncomputable def I : List Inl := [⟨66, Try.f66, ⟨[16], [(1000006, [0, 1, 2, 4, 5, 6, 7, 8, 12, 13, 14, 15, 16, 17, 18, 19, 20, 21, 22, 23, 24, 25, 26, 27, 28, 29, 30, 31, 32, 33, 34, 35, 36, 37, 38, 39, 40, 41, 44, 45, 46, 47, 48, 49, 50, 51, 52, 53, 54, 55, 56, 57, 58, 59])], [], [(4, [0, 1, 2, 3, 4, 5, 8, 9, 10, 6, 7, 11, 12])], [], []⟩⟩]
theorem I_ok : ∀ i ∈ I, Try.prog.funcs[i.f]? = some i.fn ∧ (i.fn.name == "runtime.NumGoroutine") = false := by
  intro i hi
  simp only [I, List.mem_cons, List.not_mem_nil, or_false] at hi
  subst hi
  exact ⟨by kernel_rfl, by kernel_rfl⟩
noncomputable abbrev L0 (fuel n : Nat) (s : St) (k : Kont) := lAt Try.prog X I fuel true 0 false 66 (bodyOf Try.f66) [1, 1, 1, 1, 1, 0, 1, 0] n s k
noncomputable abbrev k0  (fuel : Nat) : Kont := (kAt Try.prog X I fuel true 0 false 66 (bodyOf Try.f66) [1, 1, 1, 1, 1, 0, 1, 0] [] (endK Try.prog Try.f66))
noncomputable def t0 (p0q0 : List Int) (p0q1 : List Int) (x0q0 : Int) (x0q1 : Int) (x0q2 : Int) (x0q3 : Int) (x0q6 : List Int) : St := ⟨[.dead, .dead, .dead, (.ptr 1000000000 0 0), .dead, .dead, .dead, .dead, .dead, (.imm (.int .i64 x0q0)), (.all 1000000001 1), (.imm (.int .i64 x0q1)), .dead, .dead, .dead, .dead, .dead, .dead, .dead, .dead, .dead, .dead, .dead, .dead, .dead, .dead, .dead, .dead, .dead, .dead, .dead, .dead, .dead, .dead, .dead, .dead, .dead, .dead, .dead, .dead, .dead, .dead, (.imm (.int .i64 x0q2)), (.imm (.int .i64 x0q3)), .dead, .dead, .dead, .dead, .dead, .dead, .dead, .dead, .dead, .dead, .dead, .dead, .dead, .dead, .dead, .dead], hOf [(1000000000, (.box [(.imm (.ints .i64 p0q0)), (.imm (.ints .i64 p0q1))])), (1000000001, (.ints .i64 x0q6))], [], []⟩
theorem e (fuel : Nat) (p0q0 : List Int) (p0q1 : List Int) (p1 : Int) (p2 : Int) : runF Try.prog X I 0 fuel 66 Try.f66 [.d (.agg [(.ints .i64 p0q0), (.ints .i64 p0q1)]), .d (.int .i64 p1), .d (.int .i64 p2)] =
  (bif decide (p0q0.length < 9223372036854775808) then
  (bif validS p0q0 then
  (bif decide (p1 = ((0 : Nat) : Int)) then
  (idx p1 p0q0.length).bind fun j17 =>
  (p0q0[j17]?).bind fun v18 =>
  (bif decide (0 ≤ (v18 : Int)) && decide ((v18 : Int) ≤ v18) && decide ((v18 : Int) ≤ 1152921504606846976) && decide (((8 : Nat) : Int) * v18 ≤ 281474976710656) then
  (bif decide (((strd p0q0 0) : Int) = 0) then
  none
  else
  (bif decide (((strd p0q0 0) : Int) = 0) then
  none
  else
  L0 fuel fuel (t0 p0q0 p0q1 ((strd p0q0 0)) ((IntKind.wrap .i64 ((IntKind.wrap .i64 ((IntKind.wrap .i64 ((IntKind.wrap .i64 (Int.tdiv p2 (strd p0q0 0))) * (strd p0q0 0))) * (((List.replicate (v18).toNat (0 : Int)).length : Nat) : Int))) + (Int.tmod p2 (strd p0q0 0))))) ((((List.replicate (v18).toNat (0 : Int)).length : Nat) : Int)) 0 ((List.replicate (v18).toNat (0 : Int)))) (k0  fuel)))
  else
  none)
  else
  (bif decide (p1 = ((1 : Nat) : Int)) then
  (idx p1 p0q0.length).bind fun j15 =>
  (p0q0[j15]?).bind fun v16 =>
  (bif decide (0 ≤ (v16 : Int)) && decide ((v16 : Int) ≤ v16) && decide ((v16 : Int) ≤ 1152921504606846976) && decide (((8 : Nat) : Int) * v16 ≤ 281474976710656) then
  (bif decide (((strd p0q0 1) : Int) = 0) then
  none
  else
  (bif decide (((strd p0q0 1) : Int) = 0) then
  none
  else
  L0 fuel fuel (t0 p0q0 p0q1 ((strd p0q0 1)) ((IntKind.wrap .i64 ((IntKind.wrap .i64 ((IntKind.wrap .i64 ((IntKind.wrap .i64 (Int.tdiv p2 (strd p0q0 1))) * (strd p0q0 1))) * (((List.replicate (v16).toNat (0 : Int)).length : Nat) : Int))) + (Int.tmod p2 (strd p0q0 1))))) ((((List.replicate (v16).toNat (0 : Int)).length : Nat) : Int)) 0 ((List.replicate (v16).toNat (0 : Int)))) (k0  fuel)))
  else
  none)
  else
  (bif decide (p1 = ((2 : Nat) : Int)) then
  (idx p1 p0q0.length).bind fun j13 =>
  (p0q0[j13]?).bind fun v14 =>
  (bif decide (0 ≤ (v14 : Int)) && decide ((v14 : Int) ≤ v14) && decide ((v14 : Int) ≤ 1152921504606846976) && decide (((8 : Nat) : Int) * v14 ≤ 281474976710656) then
  (bif decide (((strd p0q0 2) : Int) = 0) then
  none
  else
  (bif decide (((strd p0q0 2) : Int) = 0) then
  none
  else
  L0 fuel fuel (t0 p0q0 p0q1 ((strd p0q0 2)) ((IntKind.wrap .i64 ((IntKind.wrap .i64 ((IntKind.wrap .i64 ((IntKind.wrap .i64 (Int.tdiv p2 (strd p0q0 2))) * (strd p0q0 2))) * (((List.replicate (v14).toNat (0 : Int)).length : Nat) : Int))) + (Int.tmod p2 (strd p0q0 2))))) ((((List.replicate (v14).toNat (0 : Int)).length : Nat) : Int)) 0 ((List.replicate (v14).toNat (0 : Int)))) (k0  fuel)))
  else
  none)
  else
  none)))
  else
  (bif decide (p1 = ((0 : Nat) : Int)) then
  (idx p1 p0q0.length).bind fun j11 =>
  (p0q0[j11]?).bind fun v12 =>
  (bif decide (0 ≤ (v12 : Int)) && decide ((v12 : Int) ≤ v12) && decide ((v12 : Int) ≤ 1152921504606846976) && decide (((8 : Nat) : Int) * v12 ≤ 281474976710656) then
  (bif decide ((0 : Int) = 0) then
  none
  else
  (bif decide ((0 : Int) = 0) then
  none
  else
  L0 fuel fuel (t0 p0q0 p0q1 0 ((IntKind.wrap .i64 ((IntKind.wrap .i64 ((IntKind.wrap .i64 ((IntKind.wrap .i64 (Int.tdiv p2 0)) * 0)) * (((List.replicate (v12).toNat (0 : Int)).length : Nat) : Int))) + (Int.tmod p2 0)))) ((((List.replicate (v12).toNat (0 : Int)).length : Nat) : Int)) 0 ((List.replicate (v12).toNat (0 : Int)))) (k0  fuel)))
  else
  none)
  else
  (bif decide (p1 = ((1 : Nat) : Int)) then
  (idx p1 p0q0.length).bind fun j9 =>
  (p0q0[j9]?).bind fun v10 =>
  (bif decide (0 ≤ (v10 : Int)) && decide ((v10 : Int) ≤ v10) && decide ((v10 : Int) ≤ 1152921504606846976) && decide (((8 : Nat) : Int) * v10 ≤ 281474976710656) then
  (bif decide ((0 : Int) = 0) then
  none
  else
  (bif decide ((0 : Int) = 0) then
  none
  else
  L0 fuel fuel (t0 p0q0 p0q1 0 ((IntKind.wrap .i64 ((IntKind.wrap .i64 ((IntKind.wrap .i64 ((IntKind.wrap .i64 (Int.tdiv p2 0)) * 0)) * (((List.replicate (v10).toNat (0 : Int)).length : Nat) : Int))) + (Int.tmod p2 0)))) ((((List.replicate (v10).toNat (0 : Int)).length : Nat) : Int)) 0 ((List.replicate (v10).toNat (0 : Int)))) (k0  fuel)))
  else
  none)
  else
  (bif decide (p1 = ((2 : Nat) : Int)) then
  (idx p1 p0q0.length).bind fun j1 =>
  (p0q0[j1]?).bind fun v2 =>
  (bif decide (0 ≤ (v2 : Int)) && decide ((v2 : Int) ≤ v2) && decide ((v2 : Int) ≤ 1152921504606846976) && decide (((8 : Nat) : Int) * v2 ≤ 281474976710656) then
  (bif decide ((0 : Int) = 0) then
  none
  else
  (bif decide ((0 : Int) = 0) then
  none
  else
  L0 fuel fuel (t0 p0q0 p0q1 0 ((IntKind.wrap .i64 ((IntKind.wrap .i64 ((IntKind.wrap .i64 ((IntKind.wrap .i64 (Int.tdiv p2 0)) * 0)) * (((List.replicate (v2).toNat (0 : Int)).length : Nat) : Int))) + (Int.tmod p2 0)))) ((((List.replicate (v2).toNat (0 : Int)).length : Nat) : Int)) 0 ((List.replicate (v2).toNat (0 : Int)))) (k0  fuel)))
  else
  none)
  else
  none))))
  else
  none) := by kernel_rfl
theorem s0 (fuel n0 : Nat) (p0q0 : List Int) (p0q1 : List Int) (x0q0 : Int) (x0q1 : Int) (x0q2 : Int) (x0q3 : Int) (x0q6 : List Int) : L0 fuel (n0 + 1) (t0 p0q0 p0q1 x0q0 x0q1 x0q2 x0q3 x0q6) (k0  fuel) =
  (bif (decide ((x0q3 : Int) < x0q2)) then
  (idx (IntKind.wrap .i64 (x0q1 + (IntKind.wrap .i64 (x0q3 * x0q0)))) p0q1.length).bind fun j6 =>
  (p0q1[j6]?).bind fun v7 =>
  (idx x0q3 x0q6.length).bind fun j8 =>
  (bif decide (j8 < x0q6.length) then
  L0 fuel n0 (t0 p0q0 p0q1 x0q0 x0q1 x0q2 ((IntKind.wrap .i64 (x0q3 + 1))) ((x0q6.set j8 v7))) (k0  fuel)
  else
  none)
  else
  some ([.one ((.ints .i64 x0q6), true)], [])) := by kernel_rfl
end impl_lineOf
theorem impl_lineOf.ok_of (hX : ∀ E ∈ impl_lineOf.X, CallSpec Try.prog E) (h : ∀ (sh : List Int) (da : List Int) (k : Int) (n : Int), (axB sh da k && lnB sh k n) = true → ∃ fuel, runF Try.prog impl_lineOf.X impl_lineOf.I 0 fuel 66 Try.f66 [.d (.agg [(.ints .i64 sh), (.ints .i64 da)]), .d (.int .i64 k), .d (.int .i64 n)] = some ([.one ((.ints .i64 (lnN sh da k n)), true)], [])) : CallSpec Try.prog impl_lineOf.E :=
  callSpec_of (d := 0) hX (by kernel_rfl) impl_lineOf.I_ok (by kernel_rfl) (by kernel_rfl) (by kernel_rfl) (fun _ _ _ _ h => by dsimp only [impl_lineOf.E] at h; cases h) (fun xs hp => by
    dsimp only [impl_lineOf.E] at hp ⊢
    split at hp
    · exact h _ _ _ _ hp
    · cases hp)
theorem impl_lineOf.loop (fuel : Nat) (sh da : List Int) (k i m : Nat) (ax : Ax sh k) (hd : da.length = befN sh k * lenN sh k * behN sh k) (hi : i < befN sh k) (hm : m < behN sh k) (hf : 60 < fuel) :
    impl_lineOf.L0 fuel fuel (impl_lineOf.t0 sh da ((behN sh k : Nat) : Int) ((i * behN sh k * lenN sh k + m : Nat) : Int) ((lenN sh k : Nat) : Int) 0 (List.replicate (lenN sh k) 0)) (impl_lineOf.k0 fuel) = some ([.one ((.ints .i64 (lnD (lenN sh k) (behN sh k) da i m)), true)], []) := by
  have hL := ax.len_le
  have hlk := ax.lt
  have hle := ax.le
  have hA := lnD_length (lenN sh k) (behN sh k) da i m
  refine run_loop (N := lenN sh k) (fun n j out => impl_lineOf.L0 fuel n (impl_lineOf.t0 sh da ((behN sh k : Nat) : Int) ((i * behN sh k * lenN sh k + m : Nat) : Int) ((lenN sh k : Nat) : Int) (j : Int) out) (impl_lineOf.k0 fuel)) (fun j out => out = part (lnD (lenN sh k) (behN sh k) da i m) j) ?_ ?_ fuel 0 _ (by omega) (by omega) (by rw [part_zero, hA])
  · intro n out ho
    rw [show lenN sh k = (lnD (lenN sh k) (behN sh k) da i m).length from hA.symm] at ho
    simp only [hA] at ho
    have hall := part_all (lnD (lenN sh k) (behN sh k) da i m)
    rw [hA] at hall
    rw [hall] at ho
    rw [impl_lineOf.s0, decide_eq_false (by omega), ho]
    rfl
  · intro n j out hj ho
    have hol : out.length = lenN sh k := by rw [ho, part_length (by omega), hA]
    obtain ⟨e1, _, _, _⟩ := enc3 hi hj hm
    have hix : i * behN sh k * lenN sh k + m + j * behN sh k = (i * lenN sh k + j) * behN sh k + m := by
      rw [Nat.add_mul, Nat.mul_right_comm]; omega
    rw [impl_lineOf.s0, dlt hj, cond_true, wMul (by omega), wAdd (by omega), hix, idx_nat (by omega), idx_nat (by omega), w1 (by omega)]
    simp only [Option.bind_some, getD_get (show (i * lenN sh k + j) * behN sh k + m < da.length by omega)]
    rw [decide_eq_true (by omega), cond_true]
    refine ⟨_, ?_, rfl⟩
    rw [ho, part_set (by omega)]
    exact tab_getD hj
theorem impl_lineOf.ok : CallSpec Try.prog impl_lineOf.E := impl_lineOf.ok_of (by simp [impl_lineOf.X, impl_layoutOf.ok]) fun sh da k n h => ⟨61, by
  simp only [Bool.and_eq_true, lnB, decide_eq_true_eq] at h
  obtain ⟨j, rfl, hj, hv, ax, hd, hl⟩ := axB_inv h.1
  rw [Int.toNat_natCast] at h
  have hB := validA_inv hv
  have hr := ax.rank
  have hL := ax.len_le
  have hM := ax.beh_le
  have hBe := ax.bef_le
  have hst := strd_beh ax
  obtain ⟨n', rfl⟩ : ∃ n' : Nat, n = n' := ⟨n.toNat, by omega⟩
  have hn : n' < befN sh j * behN sh j := by omega
  obtain ⟨d1, d2, d3⟩ := dec2 hn
  have hbm : befN sh j * behN sh j ≤ 3600 * 3600 := Nat.mul_le_mul hBe hM
  have hdm : n' / behN sh j * behN sh j ≤ 3600 * 3600 := by omega
  have hdl : n' / behN sh j * behN sh j * lenN sh j ≤ 3600 * 3600 * 60 := Nat.mul_le_mul hdm hL
  have key := impl_lineOf.loop 61 sh da j (n' / behN sh j) (n' % behN sh j) ax hd d1 d2 (by omega)
  rw [impl_lineOf.e, lt_of (by omega), cond_true, hB.1, cond_true]
  simp only [lnN, lnK, Int.toNat_natCast]
  have main : ∀ m, m = strd sh j → ((idx (j : Int) sh.length).bind fun j17 => (sh[j17]?).bind fun v18 =>
      (bif decide (0 ≤ (v18 : Int)) && decide ((v18 : Int) ≤ v18) && decide ((v18 : Int) ≤ 1152921504606846976) && decide (((8 : Nat) : Int) * v18 ≤ 281474976710656) then
      (bif decide ((m : Int) = 0) then none else (bif decide ((m : Int) = 0) then none else
      impl_lineOf.L0 61 61 (impl_lineOf.t0 sh da m ((IntKind.wrap .i64 ((IntKind.wrap .i64 ((IntKind.wrap .i64 ((IntKind.wrap .i64 (Int.tdiv (n' : Int) m)) * m)) * (((List.replicate (v18).toNat (0 : Int)).length : Nat) : Int))) + (Int.tmod (n' : Int) m)))) ((((List.replicate (v18).toNat (0 : Int)).length : Nat) : Int)) 0 ((List.replicate (v18).toNat (0 : Int)))) (impl_lineOf.k0 61)))
      else none)) = some ([.one ((.ints .i64 (lnD (lenN sh j) (behN sh j) da (n' / behN sh j) (n' % behN sh j))), true)], []) := by
    rintro m rfl
    rw [idx_nat hj]
    simp only [Option.bind_some, getD_get hj, ax.len]
    rw [mkOk (by omega) (by omega), cond_true, hst, decide_eq_false (by omega), cond_false, cond_false, Int.toNat_natCast, List.length_replicate, tdivN, tmodN, wN (n := n' / behN sh j) (by omega), wMul (by omega), wMul (by omega), wAdd (by omega)]
    exact key
  match j, main, hj with
  | 0, main, _ => rw [decide_eq_true (p := ((0 : Nat) : Int) = ((0 : Nat) : Int)) rfl, cond_true]; exact main _ rfl
  | 1, main, _ => rw [decide_eq_false (p := ((1 : Nat) : Int) = ((0 : Nat) : Int)) (by omega), cond_false, decide_eq_true (p := ((1 : Nat) : Int) = ((1 : Nat) : Int)) rfl, cond_true]; exact main _ rfl
  | 2, main, _ => rw [decide_eq_false (p := ((2 : Nat) : Int) = ((0 : Nat) : Int)) (by omega), cond_false, decide_eq_false (p := ((2 : Nat) : Int) = ((1 : Nat) : Int)) (by omega), cond_false, decide_eq_true (p := ((2 : Nat) : Int) = ((2 : Nat) : Int)) rfl, cond_true]; exact main _ rfl
  | j + 3, _, hj => exact absurd hj (by omega)⟩

namespace impl_ReduceAxis_1
noncomputable def E : Entry := ⟨65, true, false, fun | [.d (.int .i64 n), .d (.pbox [(.fn false dom G)]), .d (.pbox [(.ints .i64 sh), (.ints .i64 da)]), .d (.pbox [(.int .i64 k)])] => axB sh da k && lnB sh k n && dom [.l (lnN sh da k n)] | _ => false, fun | [.d (.int .i64 n), .d (.pbox [(.fn false dom G)]), .d (.pbox [(.ints .i64 sh), (.ints .i64 da)]), .d (.pbox [(.int .i64 k)])] => ([.one ((.int .i64 (G [.l (lnN sh da k n)])), false)], []) | _ => ([], []), fun _ => [], false, fun _ => none⟩
end impl_ReduceAxis_1
namespace impl_ReduceAxis_1
noncomputable def X : List Entry := [impl_lineOf.E]
noncomputable def I : List Inl := [⟨65, Try.f65, ⟨[10], [], [], [(1, [3, 0, 1, 2, 4, 5, 6])], [], []⟩⟩]
theorem I_ok : ∀ i ∈ I, Try.prog.funcs[i.f]? = some i.fn ∧ (i.fn.name == "runtime.NumGoroutine") = false := by
  intro i hi
  simp only [I, List.mem_cons, List.not_mem_nil, or_false] at hi
  subst hi
  exact ⟨by kernel_rfl, by kernel_rfl⟩
theorem e (fuel : Nat) (p0 : Int) (f0q0d : List Q → Bool) (f0q0g : List Q → Int) (f1q0 : List Int) (f1q1 : List Int) (f2q0 : Int) : runF Try.prog X I 0 fuel 65 Try.f65 [.d (.int .i64 p0), .d (.pbox [(.fn false f0q0d f0q0g)]), .d (.pbox [(.ints .i64 f1q0), (.ints .i64 f1q1)]), .d (.pbox [(.int .i64 f2q0)])] =
  (bif axB f1q0 f1q1 f2q0 && lnB f1q0 f2q0 p0 then
  (bif (f0q0d [Q.l ((lnN f1q0 f1q1 f2q0 p0))]) then
  some ([.one ((.int .i64 (f0q0g [Q.l ((lnN f1q0 f1q1 f2q0 p0))])), false)], [])
  else
  none)
  else
  none) := by kernel_rfl
end impl_ReduceAxis_1
theorem impl_ReduceAxis_1.ok_of (hX : ∀ E ∈ impl_ReduceAxis_1.X, CallSpec Try.prog E) (h : ∀ (n : Int) (dom : List Q → Bool) (G : List Q → Int) (sh : List Int) (da : List Int) (k : Int), (axB sh da k && lnB sh k n && dom [.l (lnN sh da k n)]) = true → ∃ fuel, runF Try.prog impl_ReduceAxis_1.X impl_ReduceAxis_1.I 0 fuel 65 Try.f65 [.d (.int .i64 n), .d (.pbox [(.fn false dom G)]), .d (.pbox [(.ints .i64 sh), (.ints .i64 da)]), .d (.pbox [(.int .i64 k)])] = some ([.one ((.int .i64 (G [.l (lnN sh da k n)])), false)], [])) : CallSpec Try.prog impl_ReduceAxis_1.E :=
  callSpec_of (d := 0) hX (by kernel_rfl) impl_ReduceAxis_1.I_ok (by kernel_rfl) (by kernel_rfl) (by kernel_rfl) (fun _ _ _ _ h => by dsimp only [impl_ReduceAxis_1.E] at h; cases h) (fun xs hp => by
    dsimp only [impl_ReduceAxis_1.E] at hp ⊢
    split at hp
    · exact h _ _ _ _ _ _ hp
    · cases hp)
theorem impl_ReduceAxis_1.ok : CallSpec Try.prog impl_ReduceAxis_1.E := impl_ReduceAxis_1.ok_of (by simp [impl_ReduceAxis_1.X, impl_lineOf.ok]) fun n dom G sh da k h => ⟨0, by
  rw [impl_ReduceAxis_1.e]
  simp only [Bool.and_eq_true] at h
  rw [h.1.1, h.1.2, h.2]
  rfl⟩

namespace impl_ReduceAxis
noncomputable def E : Entry := ⟨23, false, false, fun | [.d (.int .i64 op), .d (.agg [(.ints .i64 sh), (.ints .i64 da)]), .d (.int .i64 k)] => decide (sh.length < 9223372036854775808) && decide (da.length < 9223372036854775808) | _ => false, fun | [.d (.int .i64 op), .d (.agg [(.ints .i64 sh), (.ints .i64 da)]), .d (.int .i64 k)] => ([.agg [((.ints .i64 (rdxS op sh da k)), true), ((.ints .i64 (rdxD op sh da k)), true)], .one ((.bool (rdxB op sh da k)), false)], []) | _ => ([], []), fun _ => [], true, fun _ => none⟩
end impl_ReduceAxis
namespace impl_ReduceAxis
noncomputable def X : List Entry := [impl_reductionOf.E, impl_axisLength.E, slices_Concat_int_int.E, impl_layoutOf_j.E, impl_ReduceAxis_1.E]
noncomputable def I : List Inl := [⟨23, Try.f23, ⟨[37, 40], [(6, [0, 1, 2, 3, 7, 9, 10, 12, 13, 14, 15, 16, 17, 18, 19, 20, 21, 22, 23, 24, 25, 26, 27, 28, 29, 30, 31, 32, 33, 34, 35, 36, 37, 38, 39, 40, 41, 42])], [(6, [8, 4, 5])], [(5, [0, 4, 1, 2, 3, 5, 6, 7, 8, 9, 10, 11])], [36], []⟩⟩, ⟨64, Try.f64, ⟨[12], [(1000006, [2, 3, 5, 6, 7, 9, 10, 11, 12, 13, 14, 15, 16, 17, 18, 19, 20, 21, 24, 25, 26, 27, 28, 29, 30, 31, 32, 33, 34, 35])], [], [], [], []⟩⟩]
theorem I_ok : ∀ i ∈ I, Try.prog.funcs[i.f]? = some i.fn ∧ (i.fn.name == "runtime.NumGoroutine") = false := by
  intro i hi
  simp only [I, List.mem_cons, List.not_mem_nil, or_false] at hi
  rcases hi with rfl | rfl
  all_goals exact ⟨by kernel_rfl, by kernel_rfl⟩
noncomputable abbrev L0 (fuel n : Nat) (s : St) (k : Kont) := lAt Try.prog X I fuel true 3 false 64 (bodyOf Try.f64) [1, 1, 1, 1, 0, 1, 0] n s k
noncomputable abbrev k0  (fuel : Nat) : Kont := (kAt Try.prog X I fuel true 3 false 64 (bodyOf Try.f64) [1, 1, 1, 1, 0, 1, 0] [] (endFn Try.prog Try.f64 43 (kOp Try.prog X I fuel true 4 23 (cAt (bodyOf Try.f23) [1, 1, 1, 1, 1, 0]) 2 (kAt Try.prog X I fuel true 4 false 23 (bodyOf Try.f23) [1, 1, 1, 1, 1, 0] [] (endK Try.prog Try.f23)))))
noncomputable def t0 (p0 : Int) (p1q0 : List Int) (p1q1 : List Int) (p2 : Int) (cq1 : Nat × Nat) (cq2 : Nat × Nat) (x0q6 : Int) (x0q8 : List Int) : St := ⟨[(.all 1000000001 1), (.imm (.clo 65 [(.pbox [(.fn false ql ((qlv (redF p0))))]), (.pbox [(.ints .i64 p1q0), (.ints .i64 p1q1)]), (.pbox [(.int .i64 p2)])])), .dead, .dead, (.ptr 1000000002 0 0), .dead, .dead, .dead, (.all 1000000003 1), .dead, .dead, .dead, .dead, .dead, .dead, .dead, .dead, .dead, .dead, .dead, .dead, .dead, (.imm (.int .i64 (((List.replicate ((volW (((((p1q0.drop cq1.1).take (cq1.2 - cq1.1))) ++ (((p1q0.drop cq2.1).take (cq2.2 - cq2.1))))))).toNat (0 : Int)).length : Nat) : Int))), (.imm (.int .i64 x0q6)), .dead, .dead, .dead, .dead, .dead, .dead, .dead, .dead, .dead, .dead, .dead, .dead], hOf [(1000000000, (.box [(.imm .nils), (.imm .nils)])), (1000000001, (.ints .i64 ((((p1q0.drop cq1.1).take (cq1.2 - cq1.1))) ++ (((p1q0.drop cq2.1).take (cq2.2 - cq2.1)))))), (1000000002, (.box [(.imm .nils), (.imm .nils)])), (1000000003, (.ints .i64 x0q8))], [.dead, .dead, .dead, .dead, (.dptr [(.ints .i64 p1q0), (.ints .i64 p1q1)] 0), (.dptr [(.int .i64 p2)] 0), (.ptr 1000000000 0 0), .dead, (.dptr [(.fn false ql ((qlv (redF p0))))] 0), .dead, .dead, (.all 1000000001 1), .dead, .dead, .dead, .dead, .dead, .dead, .dead, .dead, .dead, .dead, .dead, .dead, .dead, .dead, .dead, .dead, .dead, .dead, .dead, .dead, .dead, .dead, .dead, .dead, .dead, .dead, (.all 1000000001 1), (.imm (.clo 65 [(.pbox [(.fn false ql ((qlv (redF p0))))]), (.pbox [(.ints .i64 p1q0), (.ints .i64 p1q1)]), (.pbox [(.int .i64 p2)])])), .dead, .dead, .dead, (.tup [])], []⟩
theorem e (fuel : Nat) (p0 : Int) (p1q0 : List Int) (p1q1 : List Int) (p2 : Int) : runF Try.prog X I 4 fuel 23 Try.f23 [.d (.int .i64 p0), .d (.agg [(.ints .i64 p1q0), (.ints .i64 p1q1)]), .d (.int .i64 p2)] =
  (bif opOk p0 then
  (bif decide (p1q0.length < 9223372036854775808) && decide (p1q1.length < 9223372036854775808) then
  (bif (!(axB p1q0 p1q1 p2)) then
  some ([.agg [((.ints .i64 []), true), ((.ints .i64 []), true)], .one ((.bool false), false)], [])
  else
  (cutEnds p1q0.length (none) (some (.imm (.int .i64 p2)))).bind fun cq1 =>
  (cutEnds p1q0.length (some (.imm (.int .i64 (IntKind.wrap .i64 (p2 + 1))))) (none)).bind fun cq2 =>
  (bif szB (((p1q0.drop cq1.1).take (cq1.2 - cq1.1))) && szB (((p1q0.drop cq2.1).take (cq2.2 - cq2.1))) then
  (bif decide ((((((p1q0.drop cq1.1).take (cq1.2 - cq1.1))) ++ (((p1q0.drop cq2.1).take (cq2.2 - cq2.1))))).length < 9223372036854775808) then
  (bif validS (((((p1q0.drop cq1.1).take (cq1.2 - cq1.1))) ++ (((p1q0.drop cq2.1).take (cq2.2 - cq2.1))))) then
  (bif decide (0 ≤ ((volW (((((p1q0.drop cq1.1).take (cq1.2 - cq1.1))) ++ (((p1q0.drop cq2.1).take (cq2.2 - cq2.1)))))) : Int)) && decide (((volW (((((p1q0.drop cq1.1).take (cq1.2 - cq1.1))) ++ (((p1q0.drop cq2.1).take (cq2.2 - cq2.1)))))) : Int) ≤ (volW (((((p1q0.drop cq1.1).take (cq1.2 - cq1.1))) ++ (((p1q0.drop cq2.1).take (cq2.2 - cq2.1))))))) && decide (((volW (((((p1q0.drop cq1.1).take (cq1.2 - cq1.1))) ++ (((p1q0.drop cq2.1).take (cq2.2 - cq2.1)))))) : Int) ≤ 1152921504606846976) && decide (((8 : Nat) : Int) * (volW (((((p1q0.drop cq1.1).take (cq1.2 - cq1.1))) ++ (((p1q0.drop cq2.1).take (cq2.2 - cq2.1)))))) ≤ 281474976710656) then
  L0 fuel fuel (t0 p0 p1q0 p1q1 p2 cq1 cq2 0 ((List.replicate ((volW (((((p1q0.drop cq1.1).take (cq1.2 - cq1.1))) ++ (((p1q0.drop cq2.1).take (cq2.2 - cq2.1))))))).toNat (0 : Int)))) (k0  fuel)
  else
  none)
  else
  some ([.agg [((.ints .i64 []), true), ((.ints .i64 []), true)], .one ((.bool false), false)], []))
  else
  none)
  else
  none))
  else
  none)
  else
  (bif decide (p1q0.length < 9223372036854775808) && decide (p1q1.length < 9223372036854775808) then
  some ([.agg [((.ints .i64 []), true), ((.ints .i64 []), true)], .one ((.bool false), false)], [])
  else
  none)) := by kernel_rfl
theorem s0 (fuel n0 : Nat) (p0 : Int) (p1q0 : List Int) (p1q1 : List Int) (p2 : Int) (cq1 : Nat × Nat) (cq2 : Nat × Nat) (x0q6 : Int) (x0q8 : List Int) : L0 fuel (n0 + 1) (t0 p0 p1q0 p1q1 p2 cq1 cq2 x0q6 x0q8) (k0  fuel) =
  (bif (decide ((x0q6 : Int) < (((List.replicate ((volW (((((p1q0.drop cq1.1).take (cq1.2 - cq1.1))) ++ (((p1q0.drop cq2.1).take (cq2.2 - cq2.1))))))).toNat (0 : Int)).length : Nat) : Int))) then
  (bif axB p1q0 p1q1 p2 && lnB p1q0 p2 x0q6 && ql [.l (lnN p1q0 p1q1 p2 x0q6)] then
  (idx x0q6 x0q8.length).bind fun j5 =>
  (bif decide (j5 < x0q8.length) then
  L0 fuel n0 (t0 p0 p1q0 p1q1 p2 cq1 cq2 ((IntKind.wrap .i64 (x0q6 + 1))) ((x0q8.set j5 (((qlv (redF p0))) [.l (lnN p1q0 p1q1 p2 x0q6)])))) (k0  fuel)
  else
  none)
  else
  none)
  else
  some ([.agg [((.ints .i64 ((((p1q0.drop cq1.1).take (cq1.2 - cq1.1))) ++ (((p1q0.drop cq2.1).take (cq2.2 - cq2.1))))), true), ((.ints .i64 x0q8), true)], .one ((.bool true), false)], [])) := by kernel_rfl
end impl_ReduceAxis
theorem impl_ReduceAxis.ok_of (hX : ∀ E ∈ impl_ReduceAxis.X, CallSpec Try.prog E) (h : ∀ (op : Int) (sh : List Int) (da : List Int) (k : Int), (decide (sh.length < 9223372036854775808) && decide (da.length < 9223372036854775808)) = true → ∃ fuel, runF Try.prog impl_ReduceAxis.X impl_ReduceAxis.I 4 fuel 23 Try.f23 [.d (.int .i64 op), .d (.agg [(.ints .i64 sh), (.ints .i64 da)]), .d (.int .i64 k)] = some ([.agg [((.ints .i64 (rdxS op sh da k)), true), ((.ints .i64 (rdxD op sh da k)), true)], .one ((.bool (rdxB op sh da k)), false)], [])) : CallSpec Try.prog impl_ReduceAxis.E :=
  callSpec_of (d := 4) hX (by kernel_rfl) impl_ReduceAxis.I_ok (by kernel_rfl) (by kernel_rfl) (by kernel_rfl) (fun _ _ _ _ h => by dsimp only [impl_ReduceAxis.E] at h; cases h) (fun xs hp => by
    dsimp only [impl_ReduceAxis.E] at hp ⊢
    split at hp
    · exact h _ _ _ _ hp
    · cases hp)
theorem impl_ReduceAxis.loop (fuel : Nat) (op : Int) (sh da : List Int) (k : Nat) (hv : validA sh da = true) (hk : k < sh.length) (hs : validS (sh.eraseIdx k) = true) (hvol : (volW (sh.eraseIdx k)).toNat = befN sh k * behN sh k) (h60 : befN sh k * behN sh k ≤ 60) (hf : 60 < fuel) :
    impl_ReduceAxis.L0 fuel fuel (impl_ReduceAxis.t0 op sh da (k : Int) (0, k) (k + 1, sh.length) 0 (List.replicate (befN sh k * behN sh k) 0)) (impl_ReduceAxis.k0 fuel) = some ([.agg [((.ints .i64 (sh.eraseIdx k)), true), ((.ints .i64 (rdxN op sh da k)), true)], .one ((.bool true), false)], []) := by
  have ax := ax_of (validA_inv hv).1 hk
  have hL := ax.len_le
  have hA : (rdxN op sh da k).length = befN sh k * behN sh k := by simp only [rdxN, tab_length, Int.toNat_natCast]
  have hsh : ((sh.drop 0).take (k - 0)) ++ ((sh.drop (k + 1)).take (sh.length - (k + 1))) = sh.eraseIdx k := by
    rw [drop_take, List.drop_zero, Nat.sub_zero, erase_eq]
  refine run_loop (N := befN sh k * behN sh k) (fun n j out => impl_ReduceAxis.L0 fuel n (impl_ReduceAxis.t0 op sh da (k : Int) (0, k) (k + 1, sh.length) (j : Int) out) (impl_ReduceAxis.k0 fuel)) (fun j out => out = part (rdxN op sh da k) j) ?_ ?_ fuel 0 _ (by omega) (by omega) (by rw [part_zero, hA])
  · intro n out ho
    have hall := part_all (rdxN op sh da k)
    rw [hA] at hall
    rw [hall] at ho
    rw [impl_ReduceAxis.s0]
    simp only [hsh, hvol, List.length_replicate]
    rw [dge (by omega), cond_false, ho]
  · intro n j out hj ho
    have hol : out.length = befN sh k * behN sh k := by rw [ho, part_length (by omega), hA]
    obtain ⟨d1, d2, d3⟩ := dec2 hj
    have hln : lnB sh k (j : Int) = true := by simp only [lnB, Int.toNat_natCast]; simp; omega
    have hq : ql [.l (lnN sh da k (j : Int))] = true := by simp only [ql, lnN, lnK_length, Int.toNat_natCast]; simp; omega
    rw [impl_ReduceAxis.s0]
    simp only [hsh, hvol, List.length_replicate]
    rw [dlt hj, cond_true, axB_of hv hk, hln, hq, idx_nat (by omega), w1 (by omega)]
    simp only [Bool.and_self, cond_true, Option.bind_some]
    rw [decide_eq_true (by omega), cond_true]
    refine ⟨_, ?_, rfl⟩
    rw [ho, part_set (by omega)]
    simp only [rdxN, Int.toNat_natCast]
    rw [tab_getD hj]
    rfl
theorem erase_valid {sh da : List Int} {k : Nat} (hv : validA sh da = true) (hk : k < sh.length) (hs : validS (sh.eraseIdx k) = true) : volW (sh.eraseIdx k) = ((befN sh k * behN sh k : Nat) : Int) ∧ befN sh k * behN sh k ≤ 60 := by
  obtain ⟨h1, h2, h3⟩ := validS_inv hs
  have h4 := vol_prod h2 h1
  rw [prodN_erase] at h4
  exact ⟨h4, by omega⟩
theorem impl_ReduceAxis.ok : CallSpec Try.prog impl_ReduceAxis.E := impl_ReduceAxis.ok_of (by simp [impl_ReduceAxis.X, impl_reductionOf.ok, impl_axisLength.ok, slices_Concat_int_int.ok, impl_layoutOf_j.ok, impl_ReduceAxis_1.ok]) fun op sh da k h => by
  obtain ⟨F, hF⟩ : ∃ F : Nat, 60 < F := ⟨61, by omega⟩
  refine ⟨F, ?_⟩
  rw [impl_ReduceAxis.e, h]
  unfold rdxS rdxD rdxB
  cases ho : opOk op with
  | false => rfl
  | true =>
    cases hb : axB sh da k with
    | false => rfl
    | true =>
      obtain ⟨j, rfl, hj, hv, ax, hd, hl⟩ := axB_inv hb
      have hr := ax.rank
      have hsh : ((sh.drop 0).take (j - 0)) ++ ((sh.drop (j + 1)).take (sh.length - (j + 1))) = sh.eraseIdx j := by
        rw [drop_take, List.drop_zero, Nat.sub_zero, erase_eq]
      rw [w1 (by omega), cut_hi (by omega), cut_lo (by omega), Int.toNat_natCast]
      simp only [Bool.not_true, cond_true, cond_false, Option.bind_some, Bool.true_and, hsh]
      rw [szB_of (by simp; omega), szB_of (by simp; omega), Bool.and_self, cond_true, lt_of (by rw [set_eraseIdx_len hj]; omega), cond_true]
      cases hs : validS (sh.eraseIdx j) with
      | false => rfl
      | true =>
        obtain ⟨hvol, h60⟩ := erase_valid hv hj hs
        have hb := vol_bd hs
        rw [mkOk hb.1 (by omega), cond_true, cond_true, cond_true, cond_true]
        have key := impl_ReduceAxis.loop F op sh da j hv hj hs (by rw [hvol]; rfl) h60 hF
        rw [hvol, Int.toNat_natCast]
        exact key

namespace impl_Reshape
noncomputable def E : Entry := ⟨54, false, false, fun | [.d (.ints .i64 sh), .d (.agg [(.ints .i64 s2), (.ints .i64 da)])] => decide (sh.length < 9223372036854775808) && decide (s2.length < 9223372036854775808) && decide (da.length < 9223372036854775808) | _ => false, fun | [.d (.ints .i64 sh), .d (.agg [(.ints .i64 s2), (.ints .i64 da)])] => ([.agg [((.ints .i64 (reshS sh s2 da)), true), ((.ints .i64 (reshD sh s2 da)), true)], .one ((.bool (reshB sh s2 da)), false)], []) | _ => ([], []), fun _ => [], true, fun _ => none⟩
end impl_Reshape
namespace impl_Reshape
noncomputable def X : List Entry := [impl_layoutOf.E, impl_ValidArray.E, impl_copyList.E]
noncomputable def I : List Inl := [⟨54, Try.f54, ⟨[12, 49], [(1000007, [1, 2, 5, 6, 7, 9, 10, 11, 12, 13, 14, 15, 16, 17, 18, 19, 20, 21, 22, 23, 24, 25, 26, 27, 28, 29, 30, 33, 34, 35, 36, 37, 38, 39, 40, 41, 42, 43, 44, 45, 46, 47, 48, 49, 50, 51])], [], [(9, [0, 1, 2, 4, 5, 3, 6, 7, 8, 9, 10, 11, 12])], [], []⟩⟩]
theorem I_ok : ∀ i ∈ I, Try.prog.funcs[i.f]? = some i.fn ∧ (i.fn.name == "runtime.NumGoroutine") = false := by
  intro i hi
  simp only [I, List.mem_cons, List.not_mem_nil, or_false] at hi
  subst hi
  exact ⟨by kernel_rfl, by kernel_rfl⟩
noncomputable abbrev L0 (fuel n : Nat) (s : St) (k : Kont) := lAt Try.prog X I fuel true 0 false 54 (bodyOf Try.f54) [1, 1, 1, 1, 0, 1, 0, 1, 0] n s k
noncomputable abbrev k0  (fuel : Nat) : Kont := (kAt Try.prog X I fuel true 0 false 54 (bodyOf Try.f54) [1, 1, 1, 1, 0, 1, 0, 1, 0] [] (endK Try.prog Try.f54))
noncomputable def t0 (p0 : List Int) (p1q0 : List Int) (p1q1 : List Int) (x0q2 : Int) (x0q5 : List Int) : St := ⟨[(.imm (.ints .i64 p0)), .dead, .dead, (.ptr 1000000000 0 0), (.ptr 1000000001 0 0), .dead, .dead, .dead, (.all 1000000002 1), .dead, .dead, .dead, .dead, .dead, .dead, .dead, .dead, .dead, .dead, .dead, .dead, .dead, .dead, .dead, .dead, .dead, .dead, .dead, .dead, .dead, .dead, (.imm (.int .i64 (((List.replicate ((volW p0)).toNat (0 : Int)).length : Nat) : Int))), (.imm (.int .i64 x0q2)), .dead, .dead, .dead, .dead, .dead, .dead, .dead, .dead, .dead, .dead, .dead, .dead, .dead, .dead, .dead, .dead, .dead, .dead, .dead], hOf [(1000000000, (.box [(.imm (.ints .i64 p1q0)), (.imm (.ints .i64 p1q1))])), (1000000001, (.box [(.imm .nils), (.imm .nils)])), (1000000002, (.ints .i64 x0q5))], [], []⟩
theorem e (fuel : Nat) (p0 : List Int) (p1q0 : List Int) (p1q1 : List Int) : runF Try.prog X I 0 fuel 54 Try.f54 [.d (.ints .i64 p0), .d (.agg [(.ints .i64 p1q0), (.ints .i64 p1q1)])] =
  (bif decide (p0.length < 9223372036854775808) then
  (bif validS p0 then
  (bif decide (p1q0.length < 9223372036854775808) && decide (p1q1.length < 9223372036854775808) then
  (bif (!(validA p1q0 p1q1)) then
  some ([.agg [((.ints .i64 []), true), ((.ints .i64 []), true)], .one ((.bool false), false)], [])
  else
  (bif decide (0 ≤ ((volW p0) : Int)) && decide (((volW p0) : Int) ≤ (volW p0)) && decide (((volW p0) : Int) ≤ 1152921504606846976) && decide (((8 : Nat) : Int) * (volW p0) ≤ 281474976710656) then
  (bif (decide ((((p1q1.length : Nat) : Int) : Int) > 0)) then
  L0 fuel fuel (t0 p0 p1q0 p1q1 0 ((List.replicate ((volW p0)).toNat (0 : Int)))) (k0  fuel)
  else
  (bif szB p0 then
  some ([.agg [((.ints .i64 p0), true), ((.ints .i64 (List.replicate ((volW p0)).toNat (0 : Int))), true)], .one ((.bool true), false)], [])
  else
  none))
  else
  none))
  else
  none)
  else
  some ([.agg [((.ints .i64 []), true), ((.ints .i64 []), true)], .one ((.bool false), false)], []))
  else
  none) := by kernel_rfl
theorem s0 (fuel n0 : Nat) (p0 : List Int) (p1q0 : List Int) (p1q1 : List Int) (x0q2 : Int) (x0q5 : List Int) : L0 fuel (n0 + 1) (t0 p0 p1q0 p1q1 x0q2 x0q5) (k0  fuel) =
  (bif (decide ((x0q2 : Int) < (((List.replicate ((volW p0)).toNat (0 : Int)).length : Nat) : Int))) then
  (bif decide ((((p1q1.length : Nat) : Int) : Int) = 0) then
  none
  else
  (idx (Int.tmod x0q2 ((p1q1.length : Nat) : Int)) p1q1.length).bind fun j7 =>
  (p1q1[j7]?).bind fun v8 =>
  (idx x0q2 x0q5.length).bind fun j9 =>
  (bif decide (j9 < x0q5.length) then
  L0 fuel n0 (t0 p0 p1q0 p1q1 ((IntKind.wrap .i64 (x0q2 + 1))) ((x0q5.set j9 v8))) (k0  fuel)
  else
  none))
  else
  (bif szB p0 then
  some ([.agg [((.ints .i64 p0), true), ((.ints .i64 x0q5), true)], .one ((.bool true), false)], [])
  else
  none)) := by kernel_rfl
end impl_Reshape
theorem impl_Reshape.ok_of (hX : ∀ E ∈ impl_Reshape.X, CallSpec Try.prog E) (h : ∀ (sh : List Int) (s2 : List Int) (da : List Int), (decide (sh.length < 9223372036854775808) && decide (s2.length < 9223372036854775808) && decide (da.length < 9223372036854775808)) = true → ∃ fuel, runF Try.prog impl_Reshape.X impl_Reshape.I 0 fuel 54 Try.f54 [.d (.ints .i64 sh), .d (.agg [(.ints .i64 s2), (.ints .i64 da)])] = some ([.agg [((.ints .i64 (reshS sh s2 da)), true), ((.ints .i64 (reshD sh s2 da)), true)], .one ((.bool (reshB sh s2 da)), false)], [])) : CallSpec Try.prog impl_Reshape.E :=
  callSpec_of (d := 0) hX (by kernel_rfl) impl_Reshape.I_ok (by kernel_rfl) (by kernel_rfl) (by kernel_rfl) (fun _ _ _ _ h => by dsimp only [impl_Reshape.E] at h; cases h) (fun xs hp => by
    dsimp only [impl_Reshape.E] at hp ⊢
    split at hp
    · exact h _ _ _ hp
    · cases hp)
theorem impl_Reshape.loop (fuel : Nat) (sh s2 da : List Int) (hv : validS sh = true) (hd : ((da.length : Nat) : Int) ≠ 0) : ∀ (m n j : Nat) (out : List Int), (volW sh).toNat - j = m → m < n → j ≤ (volW sh).toNat → out.length = (volW sh).toNat → out.take j = tab j (fun i => da.getD (i % da.length) 0) →
    impl_Reshape.L0 fuel n (impl_Reshape.t0 sh s2 da (j : Int) out) (impl_Reshape.k0 fuel) = some ([.agg [(.ints .i64 sh, true), (.ints .i64 (reD sh da), true)], .one (.bool true, false)], []) := by
  have hb := vol_bd hv
  have hs := (validS_inv hv).1
  intro m
  induction m with
  | zero =>
    intro n j out h1 h2 h3 h4 h5
    obtain ⟨n, rfl⟩ : ∃ n', n = n' + 1 := ⟨n - 1, by omega⟩
    rw [impl_Reshape.s0, List.length_replicate, dge (by omega), szB_of (xs := sh) (by omega)]
    simp only [cond_true, cond_false, reD]
    rw [fill_end (n := (volW sh).toNat) h4 (by rw [show j = (volW sh).toNat by omega] at h5; exact h5)]
  | succ m ih =>
    intro n j out h1 h2 h3 h4 h5
    obtain ⟨n, rfl⟩ : ∃ n', n = n' + 1 := ⟨n - 1, by omega⟩
    have hj2 : j < out.length := by omega
    obtain ⟨g1, g2⟩ := re_get (j := j) hd
    rw [impl_Reshape.s0, List.length_replicate, dlt (by omega), decide_eq_false hd, g1, idx_nat hj2, w1 (by omega)]
    simp only [cond_true, cond_false, Option.bind_some, g2, hj2, decide_true]
    exact ih n (j + 1) _ (by omega) (by omega) (by omega) (by simpa using h4) (fill_step (f := fun i => da.getD (i % da.length) 0) (show j < (volW sh).toNat by omega) h4 h5)
theorem impl_Reshape.ok : CallSpec Try.prog impl_Reshape.E := impl_Reshape.ok_of (by simp [impl_Reshape.X, impl_layoutOf.ok, impl_ValidArray.ok, impl_copyList.ok]) fun sh s2 da h => by
  simp only [Bool.and_eq_true] at h
  refine ⟨(volW sh).toNat + 1, ?_⟩
  rw [impl_Reshape.e, h.1.1, h.1.2, h.2]
  unfold reshS reshD reshB
  cases hv : validS sh with
  | false => rfl
  | true =>
    have hb := vol_bd hv
    have hs := (validS_inv hv).1
    cases hv2 : validA s2 da with
    | false => rfl
    | true =>
      rw [mkOk hb.1 (by omega)]
      simp only [cond_true, Bool.and_self, Bool.not_true, cond_false]
      by_cases hd : ((da.length : Nat) : Int) > 0
      · rw [decide_eq_true hd, cond_true]
        exact impl_Reshape.loop ((volW sh).toNat + 1) sh s2 da hv (by omega) (volW sh).toNat ((volW sh).toNat + 1) 0 _ (by omega) (by omega) (by omega) (by simp) (by simp [tab])
      · have h0 : da = [] := List.eq_nil_of_length_eq_zero (by omega)
        rw [decide_eq_false hd, szB_of (xs := sh) (by omega)]
        have : List.replicate (volW sh).toNat (0 : Int) = reD sh da := by
          rw [h0]
          apply List.ext_getElem?
          intro i
          by_cases hi : i < (volW sh).toNat
          · unfold reD; rw [tab_get hi]; simp [hi]
          · rw [List.getElem?_eq_none (by simp; omega), List.getElem?_eq_none (by unfold reD; rw [tab_length]; omega)]
        rw [this]
        rfl

namespace impl_pairwise
noncomputable def E : Entry := ⟨56, false, false, fun | [.d (.fn false dom G), .d (.ints .i64 xs), .d (.ints .i64 ys)] => szB xs && decide (xs.length ≤ ys.length) && pwB dom xs ys | _ => false, fun | [.d (.fn false dom G), .d (.ints .i64 xs), .d (.ints .i64 ys)] => ([.one ((.ints .i64 (pwD G xs ys)), true)], []) | _ => ([], []), fun _ => [], true, fun _ => none⟩
end impl_pairwise
namespace impl_pairwise
noncomputable def X : List Entry := []
noncomputable def I : List Inl := [⟨56, Try.f56, ⟨[], [(1000003, [3, 4, 5, 6, 8, 9, 10, 11, 12, 15, 16, 17, 18, 19, 20, 21, 22, 23, 24, 25, 26, 27, 28, 29, 30, 31])], [], [(5, [0, 1, 2, 3, 4, 7, 8, 5, 6, 9, 10, 11, 12, 13])], [], []⟩⟩]
theorem I_ok : ∀ i ∈ I, Try.prog.funcs[i.f]? = some i.fn ∧ (i.fn.name == "runtime.NumGoroutine") = false := by
  intro i hi
  simp only [I, List.mem_cons, List.not_mem_nil, or_false] at hi
  subst hi
  exact ⟨by kernel_rfl, by kernel_rfl⟩
noncomputable abbrev L0 (fuel n : Nat) (s : St) (k : Kont) := lAt Try.prog X I fuel true 0 false 56 (bodyOf Try.f56) [1, 1, 0, 1, 0] n s k
noncomputable abbrev k0  (fuel : Nat) : Kont := (kAt Try.prog X I fuel true 0 false 56 (bodyOf Try.f56) [1, 1, 0, 1, 0] [] (endK Try.prog Try.f56))
noncomputable def t0 (p0d : List Q → Bool) (p0g : List Q → Int) (p1 : List Int) (p2 : List Int) (x0q5 : Int) (x0q6 : List Int) : St := ⟨[(.imm (.fn false p0d p0g)), (.imm (.ints .i64 p1)), (.imm (.ints .i64 p2)), .dead, .dead, .dead, .dead, (.all 1000000000 1), .dead, .dead, .dead, .dead, .dead, (.imm (.int .i64 (((List.replicate (((p1.length : Nat) : Int)).toNat (0 : Int)).length : Nat) : Int))), (.imm (.int .i64 x0q5)), .dead, .dead, .dead, .dead, .dead, .dead, .dead, .dead, .dead, .dead, .dead, .dead, .dead, .dead, .dead, .dead, .dead], hOf [(1000000000, (.ints .i64 x0q6))], [], []⟩
theorem e (fuel : Nat) (p0d : List Q → Bool) (p0g : List Q → Int) (p1 : List Int) (p2 : List Int) : runF Try.prog X I 0 fuel 56 Try.f56 [.d (.fn false p0d p0g), .d (.ints .i64 p1), .d (.ints .i64 p2)] =
  (bif decide (0 ≤ (((p1.length : Nat) : Int) : Int)) && decide ((((p1.length : Nat) : Int) : Int) ≤ ((p1.length : Nat) : Int)) && decide ((((p1.length : Nat) : Int) : Int) ≤ 1152921504606846976) && decide (((8 : Nat) : Int) * ((p1.length : Nat) : Int) ≤ 281474976710656) then
  L0 fuel fuel (t0 p0d p0g p1 p2 0 ((List.replicate (((p1.length : Nat) : Int)).toNat (0 : Int)))) (k0  fuel)
  else
  none) := by kernel_rfl
theorem s0 (fuel n0 : Nat) (p0d : List Q → Bool) (p0g : List Q → Int) (p1 : List Int) (p2 : List Int) (x0q5 : Int) (x0q6 : List Int) : L0 fuel (n0 + 1) (t0 p0d p0g p1 p2 x0q5 x0q6) (k0  fuel) =
  (bif (decide ((x0q5 : Int) < (((List.replicate (((p1.length : Nat) : Int)).toNat (0 : Int)).length : Nat) : Int))) then
  (idx x0q5 p1.length).bind fun j11 =>
  (p1[j11]?).bind fun v12 =>
  (idx x0q5 p2.length).bind fun j13 =>
  (p2[j13]?).bind fun v14 =>
  (bif (p0d [Q.i v12, Q.i v14]) then
  (idx x0q5 x0q6.length).bind fun j15 =>
  (bif decide (j15 < x0q6.length) then
  L0 fuel n0 (t0 p0d p0g p1 p2 ((IntKind.wrap .i64 (x0q5 + 1))) ((x0q6.set j15 (p0g [Q.i v12, Q.i v14])))) (k0  fuel)
  else
  none)
  else
  none)
  else
  some ([.one ((.ints .i64 x0q6), true)], [])) := by kernel_rfl
end impl_pairwise
theorem impl_pairwise.ok_of (hX : ∀ E ∈ impl_pairwise.X, CallSpec Try.prog E) (h : ∀ (dom : List Q → Bool) (G : List Q → Int) (xs : List Int) (ys : List Int), (szB xs && decide (xs.length ≤ ys.length) && pwB dom xs ys) = true → ∃ fuel, runF Try.prog impl_pairwise.X impl_pairwise.I 0 fuel 56 Try.f56 [.d (.fn false dom G), .d (.ints .i64 xs), .d (.ints .i64 ys)] = some ([.one ((.ints .i64 (pwD G xs ys)), true)], [])) : CallSpec Try.prog impl_pairwise.E :=
  callSpec_of (d := 0) hX (by kernel_rfl) impl_pairwise.I_ok (by kernel_rfl) (by kernel_rfl) (by kernel_rfl) (fun _ _ _ _ h => by dsimp only [impl_pairwise.E] at h; cases h) (fun xs hp => by
    dsimp only [impl_pairwise.E] at hp ⊢
    split at hp
    · exact h _ _ _ _ hp
    · cases hp)
theorem impl_pairwise.ok : CallSpec Try.prog impl_pairwise.E := impl_pairwise.ok_of (by simp [impl_pairwise.X]) fun dom G xs ys h => ⟨xs.length + 1, by
  simp only [Bool.and_eq_true, decide_eq_true_eq] at h
  have hx := szB_le h.1.1
  have hA : (pwD G xs ys).length = xs.length := tab_length _ _
  rw [impl_pairwise.e, mkOk (by omega) (by omega), cond_true]
  refine run_loop (N := xs.length) (fun n j out => impl_pairwise.L0 (xs.length + 1) n (impl_pairwise.t0 dom G xs ys (j : Int) out) (impl_pairwise.k0 (xs.length + 1))) (fun j out => out = part (pwD G xs ys) j) ?_ ?_ (xs.length + 1) 0 _ (by omega) (by omega) (by rw [part_zero, hA]; rfl)
  · intro n out ho
    rw [← hA, part_all] at ho
    rw [impl_pairwise.s0, List.length_replicate, Int.toNat_natCast, dge (by omega), ho]
    rfl
  · intro n j out hj ho
    have hol : out.length = xs.length := by rw [ho, part_length (by omega), hA]
    have hy : j < ys.length := by omega
    rw [impl_pairwise.s0, List.length_replicate, Int.toNat_natCast, dlt hj, idx_nat hj, idx_nat hy, idx_nat (by omega), w1 (by omega)]
    simp only [cond_true, Option.bind_some, getD_get hj, getD_get hy]
    rw [pwB_get h.2 hj, decide_eq_true (by omega)]
    refine ⟨_, ?_, rfl⟩
    rw [ho, part_set (by omega)]
    exact tab_getD hj⟩

namespace impl_Combine
noncomputable def E : Entry := ⟨20, false, false, fun | [.d (.int .i64 op), .d (.agg [(.ints .i64 s1), (.ints .i64 d1)]), .d (.agg [(.ints .i64 s2), (.ints .i64 d2)])] => decide (s1.length < 9223372036854775808) && decide (d1.length < 9223372036854775808) && decide (s2.length < 9223372036854775808) && decide (d2.length < 9223372036854775808) | _ => false, fun | [.d (.int .i64 op), .d (.agg [(.ints .i64 s1), (.ints .i64 d1)]), .d (.agg [(.ints .i64 s2), (.ints .i64 d2)])] => ([.agg [((.ints .i64 (comS op s1 d1 s2 d2)), true), ((.ints .i64 (comD op s1 d1 s2 d2)), true)], .one ((.bool (comB op s1 d1 s2 d2)), false)], []) | _ => ([], []), fun _ => [], true, fun _ => none⟩
end impl_Combine
namespace impl_Combine
noncomputable def X : List Entry := [impl_functionOfTwo_f.E, impl_ValidArray.E, impl_Reshape.E, slices_Equal_int_int.E, impl_copyList.E, impl_pairwise.E]
noncomputable def I : List Inl := [⟨20, Try.f20, ⟨[32, 43, 55, 61], [], [], [(10, [0, 3, 4, 6, 1, 5, 7, 2, 8, 9, 10, 11])], [], []⟩⟩]
theorem I_ok : ∀ i ∈ I, Try.prog.funcs[i.f]? = some i.fn ∧ (i.fn.name == "runtime.NumGoroutine") = false := by
  intro i hi
  simp only [I, List.mem_cons, List.not_mem_nil, or_false] at hi
  subst hi
  exact ⟨by kernel_rfl, by kernel_rfl⟩
theorem e (fuel : Nat) (p0 : Int) (p1q0 : List Int) (p1q1 : List Int) (p2q0 : List Int) (p2q1 : List Int) : runF Try.prog X I 0 fuel 20 Try.f20 [.d (.int .i64 p0), .d (.agg [(.ints .i64 p1q0), (.ints .i64 p1q1)]), .d (.agg [(.ints .i64 p2q0), (.ints .i64 p2q1)])] =
  (bif opOk p0 then
  (bif decide (p1q0.length < 9223372036854775808) && decide (p1q1.length < 9223372036854775808) then
  (bif (!(validA p1q0 p1q1)) then
  some ([.agg [((.ints .i64 []), true), ((.ints .i64 []), true)], .one ((.bool false), false)], [])
  else
  (bif decide (p2q0.length < 9223372036854775808) && decide (p2q1.length < 9223372036854775808) then
  (bif (!(validA p2q0 p2q1)) then
  some ([.agg [((.ints .i64 []), true), ((.ints .i64 []), true)], .one ((.bool false), false)], [])
  else
  (bif ((((p1q0.length : Nat) : Int) : Int) == 0) then
  (bif decide (p2q0.length < 9223372036854775808) && decide (p1q0.length < 9223372036854775808) && decide (p1q1.length < 9223372036854775808) then
  (bif decide (((reshS p2q0 p1q0 p1q1)).length < 9223372036854775808) && decide (p2q0.length < 9223372036854775808) then
  (bif (!(decide (((reshS p2q0 p1q0 p1q1)) = p2q0))) then
  some ([.agg [((.ints .i64 []), true), ((.ints .i64 []), true)], .one ((.bool false), false)], [])
  else
  (bif szB ((reshS p2q0 p1q0 p1q1)) then
  (bif szB ((reshD p2q0 p1q0 p1q1)) && decide (((reshD p2q0 p1q0 p1q1)).length ≤ p2q1.length) && pwB q2 ((reshD p2q0 p1q0 p1q1)) p2q1 then
  some ([.agg [((.ints .i64 ((reshS p2q0 p1q0 p1q1))), true), ((.ints .i64 (pwD ((q2v (operF p0))) ((reshD p2q0 p1q0 p1q1)) p2q1)), true)], .one ((.bool true), false)], [])
  else
  none)
  else
  none))
  else
  none)
  else
  none)
  else
  (bif ((((p2q0.length : Nat) : Int) : Int) == 0) then
  (bif decide (p1q0.length < 9223372036854775808) && decide (p2q0.length < 9223372036854775808) && decide (p2q1.length < 9223372036854775808) then
  (bif decide (p1q0.length < 9223372036854775808) && decide (((reshS p1q0 p2q0 p2q1)).length < 9223372036854775808) then
  (bif (!(decide (p1q0 = ((reshS p1q0 p2q0 p2q1))))) then
  some ([.agg [((.ints .i64 []), true), ((.ints .i64 []), true)], .one ((.bool false), false)], [])
  else
  (bif szB p1q0 then
  (bif szB p1q1 && decide (p1q1.length ≤ ((reshD p1q0 p2q0 p2q1)).length) && pwB q2 p1q1 ((reshD p1q0 p2q0 p2q1)) then
  some ([.agg [((.ints .i64 p1q0), true), ((.ints .i64 (pwD ((q2v (operF p0))) p1q1 ((reshD p1q0 p2q0 p2q1)))), true)], .one ((.bool true), false)], [])
  else
  none)
  else
  none))
  else
  none)
  else
  none)
  else
  (bif decide (p1q0.length < 9223372036854775808) && decide (p2q0.length < 9223372036854775808) then
  (bif (!(decide (p1q0 = p2q0))) then
  some ([.agg [((.ints .i64 []), true), ((.ints .i64 []), true)], .one ((.bool false), false)], [])
  else
  (bif szB p1q0 then
  (bif szB p1q1 && decide (p1q1.length ≤ p2q1.length) && pwB q2 p1q1 p2q1 then
  some ([.agg [((.ints .i64 p1q0), true), ((.ints .i64 (pwD ((q2v (operF p0))) p1q1 p2q1)), true)], .one ((.bool true), false)], [])
  else
  none)
  else
  none))
  else
  none))))
  else
  none))
  else
  none)
  else
  some ([.agg [((.ints .i64 []), true), ((.ints .i64 []), true)], .one ((.bool false), false)], [])) := by kernel_rfl
end impl_Combine
theorem impl_Combine.ok_of (hX : ∀ E ∈ impl_Combine.X, CallSpec Try.prog E) (h : ∀ (op : Int) (s1 : List Int) (d1 : List Int) (s2 : List Int) (d2 : List Int), (decide (s1.length < 9223372036854775808) && decide (d1.length < 9223372036854775808) && decide (s2.length < 9223372036854775808) && decide (d2.length < 9223372036854775808)) = true → ∃ fuel, runF Try.prog impl_Combine.X impl_Combine.I 0 fuel 20 Try.f20 [.d (.int .i64 op), .d (.agg [(.ints .i64 s1), (.ints .i64 d1)]), .d (.agg [(.ints .i64 s2), (.ints .i64 d2)])] = some ([.agg [((.ints .i64 (comS op s1 d1 s2 d2)), true), ((.ints .i64 (comD op s1 d1 s2 d2)), true)], .one ((.bool (comB op s1 d1 s2 d2)), false)], [])) : CallSpec Try.prog impl_Combine.E :=
  callSpec_of (d := 0) hX (by kernel_rfl) impl_Combine.I_ok (by kernel_rfl) (by kernel_rfl) (by kernel_rfl) (fun _ _ _ _ h => by dsimp only [impl_Combine.E] at h; cases h) (fun xs hp => by
    dsimp only [impl_Combine.E] at hp ⊢
    split at hp
    · exact h _ _ _ _ _ hp
    · cases hp)
theorem impl_Combine.ok : CallSpec Try.prog impl_Combine.E := impl_Combine.ok_of (by simp [impl_Combine.X, impl_functionOfTwo_f.ok, impl_ValidArray.ok, impl_Reshape.ok, slices_Equal_int_int.ok, impl_copyList.ok, impl_pairwise.ok]) fun op s1 d1 s2 d2 h => ⟨0, by
  rw [impl_Combine.e]
  simp only [Bool.and_eq_true] at h
  obtain ⟨⟨⟨h1, h2⟩, h3⟩, h4⟩ := h
  simp only [h1, h2, h3, h4, Bool.and_self, Bool.true_and, Bool.and_true, cond_true, len0, pwB_q2, pwD_q2]
  unfold comS comD
  cases ho : opOk op with
  | false => simp only [comB, ho]; rfl
  | true =>
    cases v1 : validA s1 d1 with
    | false => simp only [comB, ho, v1]; rfl
    | true =>
      cases v2 : validA s2 d2 with
      | false => simp only [comB, ho, v1, v2]; rfl
      | true =>
        have b1 := validA_len v1
        have b2 := validA_len v2
        simp only [comB, ho, v1, v2, Bool.and_self, Bool.true_and, cond_true, Bool.not_true, cond_false]
        by_cases e1 : s1.length = 0
        · have e1' := List.length_eq_zero_iff.mp e1
          have hr := resh_sc (e1' ▸ v1) v2 e1'
          have b3 := resh_len s2 s1 d1
          have hd : (reshD s2 s1 d1).length = d2.length := by rw [hr.2, tab_length]
          rw [decide_eq_true e1, cond_true, decide_eq_true (p := (reshS s2 s1 d1).length < 9223372036854775808) (by omega), cond_true, decide_eq_true hr.1, szB_of (by omega), szB_of (by omega), decide_eq_true (p := (reshD s2 s1 d1).length ≤ d2.length) (by omega), hd]
          subst e1'
          rw [cD_a op v1 v2, hr.1]
          simp [fitB, cS]
        · rw [decide_eq_false e1, cond_false]
          by_cases e2 : s2.length = 0
          · have e2' := List.length_eq_zero_iff.mp e2
            have hr := resh_sc (e2' ▸ v2) v1 e2'
            have b3 := resh_len s1 s2 d2
            have hd : (reshD s1 s2 d2).length = d1.length := by rw [hr.2, tab_length]
            rw [decide_eq_true e2, cond_true, decide_eq_true (p := (reshS s1 s2 d2).length < 9223372036854775808) (by omega), cond_true, decide_eq_true hr.1.symm, szB_of (by omega), szB_of (by omega), decide_eq_true (p := d1.length ≤ (reshD s1 s2 d2).length) (by omega)]
            subst e2'
            rw [cD_b op v1 v2 e1]
            simp [fitB, cS, e1]
          · rw [decide_eq_false e2, cond_false]
            by_cases e3 : s1 = s2
            · subst e3
              have l1 := vol_len v1
              have l2 := vol_len v2
              rw [decide_eq_true rfl, szB_of (by omega), szB_of (by omega), decide_eq_true (p := d1.length ≤ d2.length) (by omega), cD_c op v1 v2 e1]
              simp [fitB, cS, e1]
            · rw [decide_eq_false e3]
              simp [fitB, e1, e2, e3]⟩

namespace laws_FnReduceAxisJoin
noncomputable def E : Entry := ⟨6, true, false, fun | [.d (.ints .u8 bs)] => bytesB bs | _ => false, fun | [.d (.ints .u8 bs)] => ([.one ((.bool true), false)], []) | _ => ([], []), fun _ => [], false, fun _ => none⟩
end laws_FnReduceAxisJoin
namespace laws_FnReduceAxisJoin
noncomputable def X : List Entry := [spec_DrawJoinAxis.E, impl_JoinAxis.E, spec_JoinAxis.E, laws_equalArray.E, impl_ReduceAxis.E, impl_Combine.E]
noncomputable def I : List Inl := [⟨6, Try.f6, ⟨[23, 31, 38, 65, 71, 77, 83], [], [], [], [], []⟩⟩]
theorem I_ok : ∀ i ∈ I, Try.prog.funcs[i.f]? = some i.fn ∧ (i.fn.name == "runtime.NumGoroutine") = false := by
  intro i hi
  simp only [I, List.mem_cons, List.not_mem_nil, or_false] at hi
  subst hi
  exact ⟨by kernel_rfl, by kernel_rfl⟩
theorem e (fuel : Nat) (p0 : List Int) : runF Try.prog X I 0 fuel 6 Try.f6 [.d (.ints .u8 p0)] =
  (bif (decide ((((p0.length : Nat) : Int) : Int) > 1048576)) then
  some ([.one ((.bool true), false)], [])
  else
  (bif bytesB p0 then
  (bif decide (((aArS (cutC p0) 0)).length < 9223372036854775808) && decide (((aArD (cutC p0) 0)).length < 9223372036854775808) && decide (((djS (cutC p0))).length < 9223372036854775808) && decide (((djD (cutC p0))).length < 9223372036854775808) then
  (bif decide (((aArS (cutC p0) 0)).length < 9223372036854775808) && decide (((aArD (cutC p0) 0)).length < 9223372036854775808) && decide (((djS (cutC p0))).length < 9223372036854775808) && decide (((djD (cutC p0))).length < 9223372036854775808) then
  (bif decide (((joS ((aArS (cutC p0) 0)) ((aArD (cutC p0) 0)) ((djS (cutC p0))) ((djD (cutC p0))) ((djK (cutC p0))))).length < 9223372036854775808) && decide (((joD ((aArS (cutC p0) 0)) ((aArD (cutC p0) 0)) ((djS (cutC p0))) ((djD (cutC p0))) ((djK (cutC p0))))).length < 9223372036854775808) && decide (((joS ((aArS (cutC p0) 0)) ((aArD (cutC p0) 0)) ((djS (cutC p0))) ((djD (cutC p0))) ((djK (cutC p0))))).length < 9223372036854775808) && decide (((joD ((aArS (cutC p0) 0)) ((aArD (cutC p0) 0)) ((djS (cutC p0))) ((djD (cutC p0))) ((djK (cutC p0))))).length < 9223372036854775808) then
  (bif (!(decide (((joS ((aArS (cutC p0) 0)) ((aArD (cutC p0) 0)) ((djS (cutC p0))) ((djD (cutC p0))) ((djK (cutC p0))))) = ((joS ((aArS (cutC p0) 0)) ((aArD (cutC p0) 0)) ((djS (cutC p0))) ((djD (cutC p0))) ((djK (cutC p0)))))) && decide (((joD ((aArS (cutC p0) 0)) ((aArD (cutC p0) 0)) ((djS (cutC p0))) ((djD (cutC p0))) ((djK (cutC p0))))) = ((joD ((aArS (cutC p0) 0)) ((aArD (cutC p0) 0)) ((djS (cutC p0))) ((djD (cutC p0))) ((djK (cutC p0)))))))) then
  (bif decide (((joS ((aArS (cutC p0) 0)) ((aArD (cutC p0) 0)) ((djS (cutC p0))) ((djD (cutC p0))) ((djK (cutC p0))))).length < 9223372036854775808) && decide (((joD ((aArS (cutC p0) 0)) ((aArD (cutC p0) 0)) ((djS (cutC p0))) ((djD (cutC p0))) ((djK (cutC p0))))).length < 9223372036854775808) && decide (((joS ((aArS (cutC p0) 0)) ((aArD (cutC p0) 0)) ((djS (cutC p0))) ((djD (cutC p0))) ((djK (cutC p0))))).length < 9223372036854775808) && decide (((joD ((aArS (cutC p0) 0)) ((aArD (cutC p0) 0)) ((djS (cutC p0))) ((djD (cutC p0))) ((djK (cutC p0))))).length < 9223372036854775808) then
  (bif (decide (((joS ((aArS (cutC p0) 0)) ((aArD (cutC p0) 0)) ((djS (cutC p0))) ((djD (cutC p0))) ((djK (cutC p0))))) = ((joS ((aArS (cutC p0) 0)) ((aArD (cutC p0) 0)) ((djS (cutC p0))) ((djD (cutC p0))) ((djK (cutC p0)))))) && decide (((joD ((aArS (cutC p0) 0)) ((aArD (cutC p0) 0)) ((djS (cutC p0))) ((djD (cutC p0))) ((djK (cutC p0))))) = ((joD ((aArS (cutC p0) 0)) ((aArD (cutC p0) 0)) ((djS (cutC p0))) ((djD (cutC p0))) ((djK (cutC p0))))))) then
  some ([.one ((.bool ((joB ((aArS (cutC p0) 0)) ((aArD (cutC p0) 0)) ((djS (cutC p0))) ((djD (cutC p0))) ((djK (cutC p0)))) == (joB ((aArS (cutC p0) 0)) ((aArD (cutC p0) 0)) ((djS (cutC p0))) ((djD (cutC p0))) ((djK (cutC p0)))))), false)], [])
  else
  some ([.one ((.bool false), false)], []))
  else
  none)
  else
  (bif (!((joB ((aArS (cutC p0) 0)) ((aArD (cutC p0) 0)) ((djS (cutC p0))) ((djD (cutC p0))) ((djK (cutC p0)))) == (joB ((aArS (cutC p0) 0)) ((aArD (cutC p0) 0)) ((djS (cutC p0))) ((djD (cutC p0))) ((djK (cutC p0)))))) then
  (bif decide (((joS ((aArS (cutC p0) 0)) ((aArD (cutC p0) 0)) ((djS (cutC p0))) ((djD (cutC p0))) ((djK (cutC p0))))).length < 9223372036854775808) && decide (((joD ((aArS (cutC p0) 0)) ((aArD (cutC p0) 0)) ((djS (cutC p0))) ((djD (cutC p0))) ((djK (cutC p0))))).length < 9223372036854775808) && decide (((joS ((aArS (cutC p0) 0)) ((aArD (cutC p0) 0)) ((djS (cutC p0))) ((djD (cutC p0))) ((djK (cutC p0))))).length < 9223372036854775808) && decide (((joD ((aArS (cutC p0) 0)) ((aArD (cutC p0) 0)) ((djS (cutC p0))) ((djD (cutC p0))) ((djK (cutC p0))))).length < 9223372036854775808) then
  (bif (decide (((joS ((aArS (cutC p0) 0)) ((aArD (cutC p0) 0)) ((djS (cutC p0))) ((djD (cutC p0))) ((djK (cutC p0))))) = ((joS ((aArS (cutC p0) 0)) ((aArD (cutC p0) 0)) ((djS (cutC p0))) ((djD (cutC p0))) ((djK (cutC p0)))))) && decide (((joD ((aArS (cutC p0) 0)) ((aArD (cutC p0) 0)) ((djS (cutC p0))) ((djD (cutC p0))) ((djK (cutC p0))))) = ((joD ((aArS (cutC p0) 0)) ((aArD (cutC p0) 0)) ((djS (cutC p0))) ((djD (cutC p0))) ((djK (cutC p0))))))) then
  some ([.one ((.bool ((joB ((aArS (cutC p0) 0)) ((aArD (cutC p0) 0)) ((djS (cutC p0))) ((djD (cutC p0))) ((djK (cutC p0)))) == (joB ((aArS (cutC p0) 0)) ((aArD (cutC p0) 0)) ((djS (cutC p0))) ((djD (cutC p0))) ((djK (cutC p0)))))), false)], [])
  else
  some ([.one ((.bool false), false)], []))
  else
  none)
  else
  (bif (!(joB ((aArS (cutC p0) 0)) ((aArD (cutC p0) 0)) ((djS (cutC p0))) ((djD (cutC p0))) ((djK (cutC p0))))) then
  (bif decide (((joS ((aArS (cutC p0) 0)) ((aArD (cutC p0) 0)) ((djS (cutC p0))) ((djD (cutC p0))) ((djK (cutC p0))))).length < 9223372036854775808) && decide (((joD ((aArS (cutC p0) 0)) ((aArD (cutC p0) 0)) ((djS (cutC p0))) ((djD (cutC p0))) ((djK (cutC p0))))).length < 9223372036854775808) && decide (((joS ((aArS (cutC p0) 0)) ((aArD (cutC p0) 0)) ((djS (cutC p0))) ((djD (cutC p0))) ((djK (cutC p0))))).length < 9223372036854775808) && decide (((joD ((aArS (cutC p0) 0)) ((aArD (cutC p0) 0)) ((djS (cutC p0))) ((djD (cutC p0))) ((djK (cutC p0))))).length < 9223372036854775808) then
  (bif (decide (((joS ((aArS (cutC p0) 0)) ((aArD (cutC p0) 0)) ((djS (cutC p0))) ((djD (cutC p0))) ((djK (cutC p0))))) = ((joS ((aArS (cutC p0) 0)) ((aArD (cutC p0) 0)) ((djS (cutC p0))) ((djD (cutC p0))) ((djK (cutC p0)))))) && decide (((joD ((aArS (cutC p0) 0)) ((aArD (cutC p0) 0)) ((djS (cutC p0))) ((djD (cutC p0))) ((djK (cutC p0))))) = ((joD ((aArS (cutC p0) 0)) ((aArD (cutC p0) 0)) ((djS (cutC p0))) ((djD (cutC p0))) ((djK (cutC p0))))))) then
  some ([.one ((.bool ((joB ((aArS (cutC p0) 0)) ((aArD (cutC p0) 0)) ((djS (cutC p0))) ((djD (cutC p0))) ((djK (cutC p0)))) == (joB ((aArS (cutC p0) 0)) ((aArD (cutC p0) 0)) ((djS (cutC p0))) ((djD (cutC p0))) ((djK (cutC p0)))))), false)], [])
  else
  some ([.one ((.bool false), false)], []))
  else
  none)
  else
  (bif decide (((aArS (cutC p0) 0)).length < 9223372036854775808) && decide (((aArD (cutC p0) 0)).length < 9223372036854775808) then
  (bif decide (((djS (cutC p0))).length < 9223372036854775808) && decide (((djD (cutC p0))).length < 9223372036854775808) then
  (bif decide (((joS ((aArS (cutC p0) 0)) ((aArD (cutC p0) 0)) ((djS (cutC p0))) ((djD (cutC p0))) ((djK (cutC p0))))).length < 9223372036854775808) && decide (((joD ((aArS (cutC p0) 0)) ((aArD (cutC p0) 0)) ((djS (cutC p0))) ((djD (cutC p0))) ((djK (cutC p0))))).length < 9223372036854775808) then
  (bif decide (((rdxS 4 ((aArS (cutC p0) 0)) ((aArD (cutC p0) 0)) ((djK (cutC p0))))).length < 9223372036854775808) && decide (((rdxD 4 ((aArS (cutC p0) 0)) ((aArD (cutC p0) 0)) ((djK (cutC p0))))).length < 9223372036854775808) && decide (((rdxS 4 ((djS (cutC p0))) ((djD (cutC p0))) ((djK (cutC p0))))).length < 9223372036854775808) && decide (((rdxD 4 ((djS (cutC p0))) ((djD (cutC p0))) ((djK (cutC p0))))).length < 9223372036854775808) then
  (bif (!(rdxB 4 ((aArS (cutC p0) 0)) ((aArD (cutC p0) 0)) ((djK (cutC p0))))) then
  some ([.one ((.bool true), false)], [])
  else
  (bif (!(rdxB 4 ((djS (cutC p0))) ((djD (cutC p0))) ((djK (cutC p0))))) then
  some ([.one ((.bool true), false)], [])
  else
  (bif (!(rdxB 4 ((joS ((aArS (cutC p0) 0)) ((aArD (cutC p0) 0)) ((djS (cutC p0))) ((djD (cutC p0))) ((djK (cutC p0))))) ((joD ((aArS (cutC p0) 0)) ((aArD (cutC p0) 0)) ((djS (cutC p0))) ((djD (cutC p0))) ((djK (cutC p0))))) ((djK (cutC p0))))) then
  some ([.one ((.bool true), false)], [])
  else
  (bif (comB 4 ((rdxS 4 ((aArS (cutC p0) 0)) ((aArD (cutC p0) 0)) ((djK (cutC p0))))) ((rdxD 4 ((aArS (cutC p0) 0)) ((aArD (cutC p0) 0)) ((djK (cutC p0))))) ((rdxS 4 ((djS (cutC p0))) ((djD (cutC p0))) ((djK (cutC p0))))) ((rdxD 4 ((djS (cutC p0))) ((djD (cutC p0))) ((djK (cutC p0)))))) then
  (bif decide (((comS 4 ((rdxS 4 ((aArS (cutC p0) 0)) ((aArD (cutC p0) 0)) ((djK (cutC p0))))) ((rdxD 4 ((aArS (cutC p0) 0)) ((aArD (cutC p0) 0)) ((djK (cutC p0))))) ((rdxS 4 ((djS (cutC p0))) ((djD (cutC p0))) ((djK (cutC p0))))) ((rdxD 4 ((djS (cutC p0))) ((djD (cutC p0))) ((djK (cutC p0))))))).length < 9223372036854775808) && decide (((comD 4 ((rdxS 4 ((aArS (cutC p0) 0)) ((aArD (cutC p0) 0)) ((djK (cutC p0))))) ((rdxD 4 ((aArS (cutC p0) 0)) ((aArD (cutC p0) 0)) ((djK (cutC p0))))) ((rdxS 4 ((djS (cutC p0))) ((djD (cutC p0))) ((djK (cutC p0))))) ((rdxD 4 ((djS (cutC p0))) ((djD (cutC p0))) ((djK (cutC p0))))))).length < 9223372036854775808) && decide (((rdxS 4 ((joS ((aArS (cutC p0) 0)) ((aArD (cutC p0) 0)) ((djS (cutC p0))) ((djD (cutC p0))) ((djK (cutC p0))))) ((joD ((aArS (cutC p0) 0)) ((aArD (cutC p0) 0)) ((djS (cutC p0))) ((djD (cutC p0))) ((djK (cutC p0))))) ((djK (cutC p0))))).length < 9223372036854775808) && decide (((rdxD 4 ((joS ((aArS (cutC p0) 0)) ((aArD (cutC p0) 0)) ((djS (cutC p0))) ((djD (cutC p0))) ((djK (cutC p0))))) ((joD ((aArS (cutC p0) 0)) ((aArD (cutC p0) 0)) ((djS (cutC p0))) ((djD (cutC p0))) ((djK (cutC p0))))) ((djK (cutC p0))))).length < 9223372036854775808) then
  some ([.one ((.bool (decide (((comS 4 ((rdxS 4 ((aArS (cutC p0) 0)) ((aArD (cutC p0) 0)) ((djK (cutC p0))))) ((rdxD 4 ((aArS (cutC p0) 0)) ((aArD (cutC p0) 0)) ((djK (cutC p0))))) ((rdxS 4 ((djS (cutC p0))) ((djD (cutC p0))) ((djK (cutC p0))))) ((rdxD 4 ((djS (cutC p0))) ((djD (cutC p0))) ((djK (cutC p0))))))) = ((rdxS 4 ((joS ((aArS (cutC p0) 0)) ((aArD (cutC p0) 0)) ((djS (cutC p0))) ((djD (cutC p0))) ((djK (cutC p0))))) ((joD ((aArS (cutC p0) 0)) ((aArD (cutC p0) 0)) ((djS (cutC p0))) ((djD (cutC p0))) ((djK (cutC p0))))) ((djK (cutC p0)))))) && decide (((comD 4 ((rdxS 4 ((aArS (cutC p0) 0)) ((aArD (cutC p0) 0)) ((djK (cutC p0))))) ((rdxD 4 ((aArS (cutC p0) 0)) ((aArD (cutC p0) 0)) ((djK (cutC p0))))) ((rdxS 4 ((djS (cutC p0))) ((djD (cutC p0))) ((djK (cutC p0))))) ((rdxD 4 ((djS (cutC p0))) ((djD (cutC p0))) ((djK (cutC p0))))))) = ((rdxD 4 ((joS ((aArS (cutC p0) 0)) ((aArD (cutC p0) 0)) ((djS (cutC p0))) ((djD (cutC p0))) ((djK (cutC p0))))) ((joD ((aArS (cutC p0) 0)) ((aArD (cutC p0) 0)) ((djS (cutC p0))) ((djD (cutC p0))) ((djK (cutC p0))))) ((djK (cutC p0)))))))), false)], [])
  else
  none)
  else
  some ([.one ((.bool false), false)], [])))))
  else
  none)
  else
  none)
  else
  none)
  else
  none))))
  else
  none)
  else
  none)
  else
  none)
  else
  none)) := by kernel_rfl
end laws_FnReduceAxisJoin
theorem laws_FnReduceAxisJoin.ok_of (hX : ∀ E ∈ laws_FnReduceAxisJoin.X, CallSpec Try.prog E) (h : ∀ (bs : List Int), (bytesB bs) = true → ∃ fuel, runF Try.prog laws_FnReduceAxisJoin.X laws_FnReduceAxisJoin.I 0 fuel 6 Try.f6 [.d (.ints .u8 bs)] = some ([.one ((.bool true), false)], [])) : CallSpec Try.prog laws_FnReduceAxisJoin.E :=
  callSpec_of (d := 0) hX (by kernel_rfl) laws_FnReduceAxisJoin.I_ok (by kernel_rfl) (by kernel_rfl) (by kernel_rfl) (fun _ _ _ _ h => by dsimp only [laws_FnReduceAxisJoin.E] at h; cases h) (fun xs hp => by
    dsimp only [laws_FnReduceAxisJoin.E] at hp ⊢
    split at hp
    · exact h _ hp
    · cases hp)
theorem laws_FnReduceAxisJoin.ok : CallSpec Try.prog laws_FnReduceAxisJoin.E := laws_FnReduceAxisJoin.ok_of (by simp [laws_FnReduceAxisJoin.X, spec_DrawJoinAxis.ok, impl_JoinAxis.ok, spec_JoinAxis.ok, laws_equalArray.ok, impl_ReduceAxis.ok, impl_Combine.ok]) fun bs h => by
  obtain ⟨F, hF⟩ : ∃ F : Nat, 4000 < F := ⟨4001, by omega⟩
  refine ⟨F, ?_⟩
  rw [laws_FnReduceAxisJoin.e]
  by_cases hl : ((bs.length : Nat) : Int) > 1048576
  · rw [decide_eq_true hl]; rfl
  rw [decide_eq_false hl, cond_false, h, cond_true]
  have r0 := cut_ok h (p := 0) (by omega) (by omega)
  obtain ⟨b1, b2, a1, a2, _, _⟩ := dj_bd r0
  obtain ⟨sa, hsa⟩ : ∃ x, aArS (cutC bs) 0 = x := ⟨_, rfl⟩
  obtain ⟨da, hda⟩ : ∃ x, aArD (cutC bs) 0 = x := ⟨_, rfl⟩
  obtain ⟨sb, hsb⟩ : ∃ x, djS (cutC bs) = x := ⟨_, rfl⟩
  obtain ⟨db, hdb⟩ : ∃ x, djD (cutC bs) = x := ⟨_, rfl⟩
  obtain ⟨k, hk⟩ : ∃ x, djK (cutC bs) = x := ⟨_, rfl⟩
  rw [hsa] at a1
  rw [hda] at a2
  rw [hsb] at b1
  rw [hdb] at b2
  have g1 := lt_of (xs := sa) (by omega)
  have g2 := lt_of (xs := da) (by omega)
  have g3 := lt_of (xs := sb) (by omega)
  have g4 := lt_of (xs := db) (by omega)
  simp only [hsa, hda, hsb, hdb, hk]
  cases hb : joB sa da sb db k with
  | false =>
    have e0 : joS sa da sb db k = [] := by simp only [joS, hb, cond_false]
    have e1 : joD sa da sb db k = [] := by simp only [joD, hb, cond_false]
    have g0 : decide (([] : List Int).length < 9223372036854775808) = true := rfl
    simp only [Bool.and_self, Bool.and_true, Bool.true_and, cond_true, cond_false, Bool.not_true, Bool.not_false, bne_self_eq_false, beq_self_eq_true, decide_true, eq_self, g1, g2, g3, g4, e0, e1, g0]
  | true =>
    obtain ⟨j, rfl, o⟩ := joB_inv hb
    have f := jo_f o
    have e0 : joS sa da sb db (j : Int) = joSh sa sb j := by simp only [joS, hb, cond_true, Int.toNat_natCast]
    have e1 : joD sa da sb db (j : Int) = joN sa da sb db j := by simp only [joD, hb, cond_true, Int.toNat_natCast]
    have jl := validA_len f.val
    have g5 := lt_of (xs := joSh sa sb j) (by omega)
    have g6 := lt_of (xs := joN sa da sb db j) (by omega)
    have hxS : axB (joSh sa sb j) (joN sa da sb db j) (j : Int) = true := axB_of f.val (by rw [f.len]; exact o.la)
    have hLs := (ax_of o.vs (k := j) (by rw [f.len]; exact o.la)).len_le
    rw [f.ln] at hLs
    have xa := axB_of o.va o.la
    have xb := axB_of o.vb o.lb
    have he : sb.eraseIdx j = sa.eraseIdx j := ((set_iff o.la o.lb).1 o.eqs).1.symm
    have hS : (joSh sa sb j).eraseIdx j = sa.eraseIdx j := by rw [o.sh, List.eraseIdx_set_eq]
    have w4 : opOk 4 = true := rfl
    have el : (sa.eraseIdx j).length ≤ 3 := by
      have := set_eraseIdx_len o.la
      have := (validA_len o.va).1
      omega
    have q0 : decide ((sa.eraseIdx j).length < 9223372036854775808) = true := lt_of (by omega)
    cases hv : validS (sa.eraseIdx j) with
    | false =>
      have z1 : rdxB 4 sa da (j : Int) = false := by simp only [rdxB, Int.toNat_natCast, hv, Bool.and_false]
      have z2 : rdxB 4 sb db (j : Int) = false := by simp only [rdxB, Int.toNat_natCast, he, hv, Bool.and_false]
      have z3 : rdxB 4 (joSh sa sb j) (joN sa da sb db j) (j : Int) = false := by simp only [rdxB, Int.toNat_natCast, hS, hv, Bool.and_false]
      have g0 : decide (([] : List Int).length < 9223372036854775808) = true := rfl
      simp only [Bool.and_self, Bool.and_true, Bool.true_and, cond_true, cond_false, Bool.not_true, Bool.not_false, bne_self_eq_false, beq_self_eq_true, decide_true, eq_self, g1, g2, g3, g4, g5, g6, e0, e1, rdxS, rdxD, z1, z2, z3, g0]
      try rfl
    | true =>
      have z1 : rdxB 4 sa da (j : Int) = true := by simp only [rdxB, w4, xa, Int.toNat_natCast, hv, Bool.and_self]
      have z2 : rdxB 4 sb db (j : Int) = true := by simp only [rdxB, w4, xb, Int.toNat_natCast, he, hv, Bool.and_self]
      have z3 : rdxB 4 (joSh sa sb j) (joN sa da sb db j) (j : Int) = true := by simp only [rdxB, w4, hxS, Int.toNat_natCast, hS, hv, Bool.and_self]
      have vA := rdx_valid z1
      have vB := rdx_valid z2
      have vC := rdx_valid z3
      rw [Int.toNat_natCast] at vA vB vC
      rw [he] at vB
      rw [hS] at vC
      obtain ⟨m0, m1, m2⟩ := com_same (op := 4) rfl vA vB
      have lA : (rdxN 4 sa da (j : Int)).length = befN sa j * behN sa j := by unfold rdxN; rw [tab_length, Int.toNat_natCast]
      have key : (tab (rdxN 4 sa da (j : Int)).length fun i => operF 4 ((rdxN 4 sa da (j : Int)).getD i 0) ((rdxN 4 sb db (j : Int)).getD i 0)) = rdxN 4 (joSh sa sb j) (joN sa da sb db j) (j : Int) := by
        rw [lA]
        unfold rdxN
        rw [Int.toNat_natCast, f.bef, f.beh, o.bef, o.beh]
        refine tab_congr fun n hn => ?_
        obtain ⟨d1, d2, d3⟩ := dec2 hn
        rw [tab_getD hn, tab_getD hn, jo_lane o d1 d2, red_min_app (ln_num o.va o.la d1 d2) (ln_num o.vb o.lb (by rw [o.bef]; exact d1) (by rw [o.beh]; exact d2))]
        rfl
      have lA := validA_len vA
      have lB := validA_len vB
      have lC := validA_len vC
      have k1 := lt_of (xs := rdxN 4 sa da (j : Int)) (by omega)
      have k2 := lt_of (xs := rdxN 4 sb db (j : Int)) (by omega)
      have k3 := lt_of (xs := rdxN 4 (joSh sa sb j) (joN sa da sb db j) (j : Int)) (by omega)
      rw [key] at m2
      simp only [Bool.and_self, Bool.and_true, Bool.true_and, cond_true, cond_false, Bool.not_true, Bool.not_false, bne_self_eq_false, beq_self_eq_true, decide_true, eq_self, g1, g2, g3, g4, g5, g6, e0, e1, rdxS, rdxD, z1, z2, z3, Int.toNat_natCast, he, hS, q0, k1, k2, k3, m0, m1, m2]

namespace spec_anyOp
noncomputable def E : Entry := ⟨51, false, false, fun | [.box [(.ints .u8 bs), (.int .i64 p)]] => rdOk bs (p + 1) && rdOk bs p | _ => false, fun | [.box [(.ints .u8 bs), (.int .i64 p)]] => ([.one ((.int .i64 (anyOpV bs p)), false)], [[(.ints .u8 bs), (.int .i64 (p + 2))]]) | _ => ([], []), fun _ => [], false, fun _ => none⟩
end spec_anyOp
namespace spec_anyOp
noncomputable def X : List Entry := [spec_reader_pick.E, spec_reader_one.E]
noncomputable def I : List Inl := [⟨51, Try.f51, ⟨[], [], [], [], [7], []⟩⟩]
theorem I_ok : ∀ i ∈ I, Try.prog.funcs[i.f]? = some i.fn ∧ (i.fn.name == "runtime.NumGoroutine") = false := by
  intro i hi
  simp only [I, List.mem_cons, List.not_mem_nil, or_false] at hi
  subst hi
  exact ⟨by kernel_rfl, by kernel_rfl⟩
theorem e (fuel : Nat) (p0q0 : List Int) (p0q1 : Int) : runF Try.prog X I 0 fuel 51 Try.f51 [.box [(.ints .u8 p0q0), (.int .i64 p0q1)]] =
  (bif rdOk p0q0 p0q1 && decide ((16 : Int) ≤ 1048576) then
  (bif (((pickV p0q0 p0q1 16) : Int) == 0) then
  (bif rdOk p0q0 ((p0q1 + 1)) && decide (0 < ((([0, 9, (-1)] : List Int)) : List Int).length) && decide (((([0, 9, (-1)] : List Int)) : List Int).length ≤ 1048576) then
  some ([.one ((.int .i64 (oneV p0q0 ((p0q1 + 1)) (([0, 9, (-1)] : List Int)))), false)], [[(.ints .u8 p0q0), (.int .i64 (((p0q1 + 1)) + 1))]])
  else
  none)
  else
  (bif rdOk p0q0 ((p0q1 + 1)) && decide ((8 : Int) ≤ 1048576) then
  some ([.one ((.int .i64 (IntKind.wrap .i64 (1 + (pickV p0q0 ((p0q1 + 1)) 8)))), false)], [[(.ints .u8 p0q0), (.int .i64 (((p0q1 + 1)) + 1))]])
  else
  none))
  else
  none) := by kernel_rfl
end spec_anyOp
theorem spec_anyOp.ok_of (hX : ∀ E ∈ spec_anyOp.X, CallSpec Try.prog E) (h : ∀ (bs : List Int) (p : Int), (rdOk bs (p + 1) && rdOk bs p) = true → ∃ fuel, runF Try.prog spec_anyOp.X spec_anyOp.I 0 fuel 51 Try.f51 [.box [(.ints .u8 bs), (.int .i64 p)]] = some ([.one ((.int .i64 (anyOpV bs p)), false)], [[(.ints .u8 bs), (.int .i64 (p + 2))]])) : CallSpec Try.prog spec_anyOp.E :=
  callSpec_of (d := 0) hX (by kernel_rfl) spec_anyOp.I_ok (by kernel_rfl) (by kernel_rfl) (by kernel_rfl) (fun _ _ _ _ h => by dsimp only [spec_anyOp.E] at h; cases h) (fun xs hp => by
    dsimp only [spec_anyOp.E] at hp ⊢
    split at hp
    · exact h _ _ hp
    · cases hp)
theorem spec_anyOp.ok : CallSpec Try.prog spec_anyOp.E := spec_anyOp.ok_of (by simp [spec_anyOp.X, spec_reader_pick.ok, spec_reader_one.ok]) fun bs p h => ⟨0, by
  simp only [Bool.and_eq_true] at h
  rw [spec_anyOp.e, h.1, h.2, show p + 2 = p + 1 + 1 by omega]
  unfold anyOpV
  cases pickV bs p 16 == 0 <;> rfl⟩

namespace spec_scalar
noncomputable def E : Entry := ⟨87, false, false, fun | [.d (.int .i64 v)] => true | _ => false, fun | [.d (.int .i64 v)] => ([.agg [((.ints .i64 nilI), true), ((.ints .i64 [v]), true)]], []) | _ => ([], []), fun _ => [], true, fun _ => none⟩
end spec_scalar
namespace spec_scalar
noncomputable def X : List Entry := []
noncomputable def I : List Inl := [⟨87, Try.f87, ⟨[], [], [], [], [], []⟩⟩]
theorem I_ok : ∀ i ∈ I, Try.prog.funcs[i.f]? = some i.fn ∧ (i.fn.name == "runtime.NumGoroutine") = false := by
  intro i hi
  simp only [I, List.mem_cons, List.not_mem_nil, or_false] at hi
  subst hi
  exact ⟨by kernel_rfl, by kernel_rfl⟩
theorem e (fuel : Nat) (p0 : Int) : runF Try.prog X I 0 fuel 87 Try.f87 [.d (.int .i64 p0)] =
  some ([.agg [((.ints .i64 []), true), ((.ints .i64 [p0]), true)]], []) := by kernel_rfl
end spec_scalar
theorem spec_scalar.ok_of (hX : ∀ E ∈ spec_scalar.X, CallSpec Try.prog E) (h : ∀ (v : Int), (true) = true → ∃ fuel, runF Try.prog spec_scalar.X spec_scalar.I 0 fuel 87 Try.f87 [.d (.int .i64 v)] = some ([.agg [((.ints .i64 nilI), true), ((.ints .i64 [v]), true)]], [])) : CallSpec Try.prog spec_scalar.E :=
  callSpec_of (d := 0) hX (by kernel_rfl) spec_scalar.I_ok (by kernel_rfl) (by kernel_rfl) (by kernel_rfl) (fun _ _ _ _ h => by dsimp only [spec_scalar.E] at h; cases h) (fun xs hp => by
    dsimp only [spec_scalar.E] at hp ⊢
    split at hp
    · exact h _ hp
    · cases hp)
theorem spec_scalar.ok : CallSpec Try.prog spec_scalar.E := spec_scalar.ok_of (by simp [spec_scalar.X]) fun v _ => ⟨0, by
  rw [spec_scalar.e]⟩

namespace spec_anyPair
noncomputable def E : Entry := ⟨52, false, false, fun | [.box [(.ints .u8 bs), (.int .i64 p)]] => rdOk bs p && decide ((p : Int) ≤ 900000) | _ => false, fun | [.box [(.ints .u8 bs), (.int .i64 p)]] => ([.agg [((.ints .i64 (apS1 bs p)), false), ((.ints .i64 (apD1 bs p)), false)], .agg [((.ints .i64 (apS2 bs p)), false), ((.ints .i64 (apD2 bs p)), false)]], [[(.ints .u8 bs), (.int .i64 (apP bs p))]]) | _ => ([], []), fun _ => [], false, fun _ => none⟩
end spec_anyPair
namespace spec_anyPair
noncomputable def X : List Entry := [spec_anyArray.E, spec_reader_pick.E, spec_someNum.E, spec_scalar.E, spec_valid.E, spec_fill.E]
noncomputable def I : List Inl := [⟨52, Try.f52, ⟨[], [], [(4, [4]), (6, [4]), (8, [4]), (10, [4]), (11, [4])], [(6, [0, 3, 1, 2, 4, 5]), (10, [1, 0, 2, 3])], [11, 19, 22, 30, 31], []⟩⟩]
theorem I_ok : ∀ i ∈ I, Try.prog.funcs[i.f]? = some i.fn ∧ (i.fn.name == "runtime.NumGoroutine") = false := by
  intro i hi
  simp only [I, List.mem_cons, List.not_mem_nil, or_false] at hi
  subst hi
  exact ⟨by kernel_rfl, by kernel_rfl⟩
theorem e (fuel : Nat) (p0q0 : List Int) (p0q1 : Int) : runF Try.prog X I 0 fuel 52 Try.f52 [.box [(.ints .u8 p0q0), (.int .i64 p0q1)]] =
  (bif rdOk p0q0 p0q1 && decide ((p0q1 : Int) ≤ 1000000) then
  (bif rdOk p0q0 ((aArP p0q0 p0q1)) && decide ((6 : Int) ≤ 1048576) then
  (bif (((pickV p0q0 ((aArP p0q0 p0q1)) 6) : Int) == 0) then
  (bif rdOk p0q0 ((((aArP p0q0 p0q1)) + 1)) && decide ((((((aArP p0q0 p0q1)) + 1)) : Int) ≤ 1000000) then
  some ([.agg [((.ints .i64 (aArS p0q0 p0q1)), false), ((.ints .i64 (aArD p0q0 p0q1)), false)], .agg [((.ints .i64 (aArS p0q0 ((((aArP p0q0 p0q1)) + 1)))), false), ((.ints .i64 (aArD p0q0 ((((aArP p0q0 p0q1)) + 1)))), false)]], [[(.ints .u8 p0q0), (.int .i64 (aArP p0q0 ((((aArP p0q0 p0q1)) + 1))))]])
  else
  none)
  else
  (bif (((pickV p0q0 ((aArP p0q0 p0q1)) 6) : Int) == 1) then
  (bif rdOk p0q0 ((((aArP p0q0 p0q1)) + 1)) then
  some ([.agg [((.ints .i64 nilI), false), ((.ints .i64 [((oneV p0q0 ((((aArP p0q0 p0q1)) + 1)) someL))]), false)], .agg [((.ints .i64 (aArS p0q0 p0q1)), false), ((.ints .i64 (aArD p0q0 p0q1)), false)]], [[(.ints .u8 p0q0), (.int .i64 (((((aArP p0q0 p0q1)) + 1)) + 1))]])
  else
  none)
  else
  (bif (((pickV p0q0 ((aArP p0q0 p0q1)) 6) : Int) == 2) then
  (bif rdOk p0q0 ((((aArP p0q0 p0q1)) + 1)) then
  some ([.agg [((.ints .i64 (aArS p0q0 p0q1)), false), ((.ints .i64 (aArD p0q0 p0q1)), false)], .agg [((.ints .i64 nilI), false), ((.ints .i64 [((oneV p0q0 ((((aArP p0q0 p0q1)) + 1)) someL))]), false)]], [[(.ints .u8 p0q0), (.int .i64 (((((aArP p0q0 p0q1)) + 1)) + 1))]])
  else
  none)
  else
  (bif decide (((aArS p0q0 p0q1)).length < 9223372036854775808) && decide (((aArD p0q0 p0q1)).length < 9223372036854775808) then
  (bif (!(validA ((aArS p0q0 p0q1)) ((aArD p0q0 p0q1)))) then
  some ([.agg [((.ints .i64 (aArS p0q0 p0q1)), false), ((.ints .i64 (aArD p0q0 p0q1)), false)], .agg [((.ints .i64 (aArS p0q0 p0q1)), false), ((.ints .i64 (aArD p0q0 p0q1)), false)]], [[(.ints .u8 p0q0), (.int .i64 (((aArP p0q0 p0q1)) + 1))]])
  else
  (bif rdOk p0q0 ((((aArP p0q0 p0q1)) + 1)) && decide ((((((aArP p0q0 p0q1)) + 1)) : Int) ≤ 2000000) && validS ((aArS p0q0 p0q1)) then
  some ([.agg [((.ints .i64 (aArS p0q0 p0q1)), false), ((.ints .i64 (aArD p0q0 p0q1)), false)], .agg [((.ints .i64 ((aArS p0q0 p0q1))), false), ((.ints .i64 (fillV p0q0 ((((aArP p0q0 p0q1)) + 1)) ((aArS p0q0 p0q1)))), false)]], [[(.ints .u8 p0q0), (.int .i64 (((((aArP p0q0 p0q1)) + 1)) + volW ((aArS p0q0 p0q1))))]])
  else
  none))
  else
  none))))
  else
  none)
  else
  none) := by kernel_rfl
end spec_anyPair
theorem spec_anyPair.ok_of (hX : ∀ E ∈ spec_anyPair.X, CallSpec Try.prog E) (h : ∀ (bs : List Int) (p : Int), (rdOk bs p && decide ((p : Int) ≤ 900000)) = true → ∃ fuel, runF Try.prog spec_anyPair.X spec_anyPair.I 0 fuel 52 Try.f52 [.box [(.ints .u8 bs), (.int .i64 p)]] = some ([.agg [((.ints .i64 (apS1 bs p)), false), ((.ints .i64 (apD1 bs p)), false)], .agg [((.ints .i64 (apS2 bs p)), false), ((.ints .i64 (apD2 bs p)), false)]], [[(.ints .u8 bs), (.int .i64 (apP bs p))]])) : CallSpec Try.prog spec_anyPair.E :=
  callSpec_of (d := 0) hX (by kernel_rfl) spec_anyPair.I_ok (by kernel_rfl) (by kernel_rfl) (by kernel_rfl) (fun _ _ _ _ h => by dsimp only [spec_anyPair.E] at h; cases h) (fun xs hp => by
    dsimp only [spec_anyPair.E] at hp ⊢
    split at hp
    · exact h _ _ hp
    · cases hp)
theorem spec_anyPair.ok : CallSpec Try.prog spec_anyPair.E := spec_anyPair.ok_of (by simp [spec_anyPair.X, spec_anyArray.ok, spec_reader_pick.ok, spec_someNum.ok, spec_scalar.ok, spec_valid.ok, spec_fill.ok]) fun bs p h => ⟨0, by
  simp only [Bool.and_eq_true, decide_eq_true_eq] at h
  obtain ⟨h1, h2, h3, h4⟩ := aAr_bd h.1 (by omega)
  have r1 := rd_le (q := aArP bs p) h.1 (by omega) (by omega)
  have r2 := rd_le (q := aArP bs p + 1) h.1 (by omega) (by omega)
  rw [spec_anyPair.e, h.1, r1, r2, decide_eq_true (p := p ≤ 1000000) (by omega), decide_eq_true (p := aArP bs p + 1 ≤ 1000000) (by omega), decide_eq_true (p := aArP bs p + 1 ≤ 2000000) (by omega), lt_of (xs := aArS bs p) (by omega), lt_of (xs := aArD bs p) (by omega)]
  unfold apS1 apD1 apS2 apD2 apP apB
  cases pickV bs (aArP bs p) 6 == 0 with
  | true => rfl
  | false =>
    cases pickV bs (aArP bs p) 6 == 1 with
    | true => rfl
    | false =>
      cases pickV bs (aArP bs p) 6 == 2 with
      | true => rfl
      | false =>
        cases hv : validA (aArS bs p) (aArD bs p) with
        | false => rfl
        | true => rw [(validA_inv hv).1]; rfl⟩

namespace spec_DrawCombine
noncomputable def E : Entry := ⟨19, false, false, fun | [.d (.ints .u8 bs)] => bytesB bs | _ => false, fun | [.d (.ints .u8 bs)] => ([.one ((.int .i64 (anyOpV (cutC bs) 0)), false), .agg [((.ints .i64 (apS1 (cutC bs) 2)), false), ((.ints .i64 (apD1 (cutC bs) 2)), false)], .agg [((.ints .i64 (apS2 (cutC bs) 2)), false), ((.ints .i64 (apD2 (cutC bs) 2)), false)]], []) | _ => ([], []), fun _ => [], true, fun _ => none⟩
end spec_DrawCombine
namespace spec_DrawCombine
noncomputable def X : List Entry := [spec_newReader.E, spec_anyOp.E, spec_anyPair.E]
noncomputable def I : List Inl := [⟨19, Try.f19, ⟨[15], [], [(4, [8])], [(4, [0, 2, 3, 1, 4, 5])], [20], []⟩⟩]
theorem I_ok : ∀ i ∈ I, Try.prog.funcs[i.f]? = some i.fn ∧ (i.fn.name == "runtime.NumGoroutine") = false := by
  intro i hi
  simp only [I, List.mem_cons, List.not_mem_nil, or_false] at hi
  subst hi
  exact ⟨by kernel_rfl, by kernel_rfl⟩
theorem e (fuel : Nat) (p0 : List Int) : runF Try.prog X I 0 fuel 19 Try.f19 [.d (.ints .u8 p0)] =
  (bif rdOk ((cutC p0)) (0 + 1) && rdOk ((cutC p0)) 0 then
  (bif rdOk (((cutC p0))) ((0 + 2)) && decide ((((0 + 2)) : Int) ≤ 900000) then
  some ([.one ((.int .i64 (anyOpV ((cutC p0)) 0)), false), .agg [((.ints .i64 (apS1 (((cutC p0))) ((0 + 2)))), false), ((.ints .i64 (apD1 (((cutC p0))) ((0 + 2)))), false)], .agg [((.ints .i64 (apS2 (((cutC p0))) ((0 + 2)))), false), ((.ints .i64 (apD2 (((cutC p0))) ((0 + 2)))), false)]], [])
  else
  none)
  else
  none) := by kernel_rfl
end spec_DrawCombine
theorem spec_DrawCombine.ok_of (hX : ∀ E ∈ spec_DrawCombine.X, CallSpec Try.prog E) (h : ∀ (bs : List Int), (bytesB bs) = true → ∃ fuel, runF Try.prog spec_DrawCombine.X spec_DrawCombine.I 0 fuel 19 Try.f19 [.d (.ints .u8 bs)] = some ([.one ((.int .i64 (anyOpV (cutC bs) 0)), false), .agg [((.ints .i64 (apS1 (cutC bs) 2)), false), ((.ints .i64 (apD1 (cutC bs) 2)), false)], .agg [((.ints .i64 (apS2 (cutC bs) 2)), false), ((.ints .i64 (apD2 (cutC bs) 2)), false)]], [])) : CallSpec Try.prog spec_DrawCombine.E :=
  callSpec_of (d := 0) hX (by kernel_rfl) spec_DrawCombine.I_ok (by kernel_rfl) (by kernel_rfl) (by kernel_rfl) (fun _ _ _ _ h => by dsimp only [spec_DrawCombine.E] at h; cases h) (fun xs hp => by
    dsimp only [spec_DrawCombine.E] at hp ⊢
    split at hp
    · exact h _ hp
    · cases hp)
theorem spec_DrawCombine.ok : CallSpec Try.prog spec_DrawCombine.E := spec_DrawCombine.ok_of (by simp [spec_DrawCombine.X, spec_newReader.ok, spec_anyOp.ok, spec_anyPair.ok]) fun bs h => ⟨0, by
  have r0 := cut_ok h (p := 0) (by omega) (by omega)
  rw [spec_DrawCombine.e, r0, rd_le (q := 0 + 1) r0 (by omega) (by omega), rd_le (q := 0 + 2) r0 (by omega) (by omega)]
  rfl⟩

namespace spec_validOp
noncomputable def E : Entry := ⟨57, true, false, fun | [.d (.int .i64 op)] => true | _ => false, fun | [.d (.int .i64 op)] => ([.one ((.bool (opOk op)), false)], []) | _ => ([], []), fun _ => [], false, fun _ => none⟩
end spec_validOp
namespace spec_validOp
noncomputable def X : List Entry := [spec_inRange.E]
noncomputable def I : List Inl := [⟨57, Try.f57, ⟨[], [], [], [], [], []⟩⟩]
theorem I_ok : ∀ i ∈ I, Try.prog.funcs[i.f]? = some i.fn ∧ (i.fn.name == "runtime.NumGoroutine") = false := by
  intro i hi
  simp only [I, List.mem_cons, List.not_mem_nil, or_false] at hi
  subst hi
  exact ⟨by kernel_rfl, by kernel_rfl⟩
theorem e (fuel : Nat) (p0 : Int) : runF Try.prog X I 0 fuel 57 Try.f57 [.d (.int .i64 p0)] =
  some ([.one ((.bool (decide (1 ≤ p0) && decide (p0 ≤ 8))), false)], []) := by kernel_rfl
end spec_validOp
theorem spec_validOp.ok_of (hX : ∀ E ∈ spec_validOp.X, CallSpec Try.prog E) (h : ∀ (op : Int), (true) = true → ∃ fuel, runF Try.prog spec_validOp.X spec_validOp.I 0 fuel 57 Try.f57 [.d (.int .i64 op)] = some ([.one ((.bool (opOk op)), false)], [])) : CallSpec Try.prog spec_validOp.E :=
  callSpec_of (d := 0) hX (by kernel_rfl) spec_validOp.I_ok (by kernel_rfl) (by kernel_rfl) (by kernel_rfl) (fun _ _ _ _ h => by dsimp only [spec_validOp.E] at h; cases h) (fun xs hp => by
    dsimp only [spec_validOp.E] at hp ⊢
    split at hp
    · exact h _ hp
    · cases hp)
theorem spec_validOp.ok : CallSpec Try.prog spec_validOp.E := spec_validOp.ok_of (by simp [spec_validOp.X, spec_inRange.ok]) fun op _ => ⟨0, by rw [spec_validOp.e]; rfl⟩

namespace spec_fits
noncomputable def E : Entry := ⟨59, true, false, fun | [.d (.agg [(.ints .i64 s1), (.ints .i64 d1)]), .d (.agg [(.ints .i64 s2), (.ints .i64 d2)])] => decide (s1.length < 9223372036854775808) && decide (s2.length < 9223372036854775808) | _ => false, fun | [.d (.agg [(.ints .i64 s1), (.ints .i64 d1)]), .d (.agg [(.ints .i64 s2), (.ints .i64 d2)])] => ([.one ((.bool (fitB s1 s2)), false)], []) | _ => ([], []), fun _ => [], false, fun _ => none⟩
end spec_fits
namespace spec_fits
noncomputable def X : List Entry := [spec_sameInts.E]
noncomputable def I : List Inl := [⟨59, Try.f59, ⟨[], [], [], [], [], []⟩⟩]
theorem I_ok : ∀ i ∈ I, Try.prog.funcs[i.f]? = some i.fn ∧ (i.fn.name == "runtime.NumGoroutine") = false := by
  intro i hi
  simp only [I, List.mem_cons, List.not_mem_nil, or_false] at hi
  subst hi
  exact ⟨by kernel_rfl, by kernel_rfl⟩
theorem e (fuel : Nat) (p0q0 : List Int) (p0q1 : List Int) (p1q0 : List Int) (p1q1 : List Int) : runF Try.prog X I 0 fuel 59 Try.f59 [.d (.agg [(.ints .i64 p0q0), (.ints .i64 p0q1)]), .d (.agg [(.ints .i64 p1q0), (.ints .i64 p1q1)])] =
  (bif ((((p0q0.length : Nat) : Int) : Int) == 0) then
  some ([.one ((.bool true), false)], [])
  else
  (bif ((((p1q0.length : Nat) : Int) : Int) == 0) then
  some ([.one ((.bool true), false)], [])
  else
  (bif decide (p0q0.length < 9223372036854775808) && decide (p1q0.length < 9223372036854775808) then
  some ([.one ((.bool (decide (p0q0 = p1q0))), false)], [])
  else
  none))) := by kernel_rfl
end spec_fits
theorem spec_fits.ok_of (hX : ∀ E ∈ spec_fits.X, CallSpec Try.prog E) (h : ∀ (s1 : List Int) (d1 : List Int) (s2 : List Int) (d2 : List Int), (decide (s1.length < 9223372036854775808) && decide (s2.length < 9223372036854775808)) = true → ∃ fuel, runF Try.prog spec_fits.X spec_fits.I 0 fuel 59 Try.f59 [.d (.agg [(.ints .i64 s1), (.ints .i64 d1)]), .d (.agg [(.ints .i64 s2), (.ints .i64 d2)])] = some ([.one ((.bool (fitB s1 s2)), false)], [])) : CallSpec Try.prog spec_fits.E :=
  callSpec_of (d := 0) hX (by kernel_rfl) spec_fits.I_ok (by kernel_rfl) (by kernel_rfl) (by kernel_rfl) (fun _ _ _ _ h => by dsimp only [spec_fits.E] at h; cases h) (fun xs hp => by
    dsimp only [spec_fits.E] at hp ⊢
    split at hp
    · exact h _ _ _ _ hp
    · cases hp)
theorem spec_fits.ok : CallSpec Try.prog spec_fits.E := spec_fits.ok_of (by simp [spec_fits.X, spec_sameInts.ok]) fun s1 d1 s2 d2 h => ⟨0, by
  rw [spec_fits.e, h, len0, len0]
  unfold fitB
  cases decide (s1.length = 0) <;> cases decide (s2.length = 0) <;> rfl⟩

namespace spec_limit
noncomputable def E : Entry := ⟨108, true, false, fun | [.d (.int .i64 n)] => true | _ => false, fun | [.d (.int .i64 n)] => ([.one ((.int .i64 (limV n)), false)], []) | _ => ([], []), fun _ => [], false, fun _ => none⟩
end spec_limit
namespace spec_limit
noncomputable def X : List Entry := []
noncomputable def I : List Inl := [⟨108, Try.f108, ⟨[], [], [], [], [], []⟩⟩]
theorem I_ok : ∀ i ∈ I, Try.prog.funcs[i.f]? = some i.fn ∧ (i.fn.name == "runtime.NumGoroutine") = false := by
  intro i hi
  simp only [I, List.mem_cons, List.not_mem_nil, or_false] at hi
  subst hi
  exact ⟨by kernel_rfl, by kernel_rfl⟩
theorem e (fuel : Nat) (p0 : Int) : runF Try.prog X I 0 fuel 108 Try.f108 [.d (.int .i64 p0)] =
  some ([.one ((.int .i64 (maxI (-1000000) (minI 1000000 p0))), false)], []) := by kernel_rfl
end spec_limit
theorem spec_limit.ok_of (hX : ∀ E ∈ spec_limit.X, CallSpec Try.prog E) (h : ∀ (n : Int), (true) = true → ∃ fuel, runF Try.prog spec_limit.X spec_limit.I 0 fuel 108 Try.f108 [.d (.int .i64 n)] = some ([.one ((.int .i64 (limV n)), false)], [])) : CallSpec Try.prog spec_limit.E :=
  callSpec_of (d := 0) hX (by kernel_rfl) spec_limit.I_ok (by kernel_rfl) (by kernel_rfl) (by kernel_rfl) (fun _ _ _ _ h => by dsimp only [spec_limit.E] at h; cases h) (fun xs hp => by
    dsimp only [spec_limit.E] at hp ⊢
    split at hp
    · exact h _ hp
    · cases hp)
theorem spec_limit.ok : CallSpec Try.prog spec_limit.E := spec_limit.ok_of (by simp [spec_limit.X]) fun n _ => ⟨0, by rw [spec_limit.e, lim_spec]⟩

namespace spec_toInt
noncomputable def E : Entry := ⟨109, true, false, fun | [.d (.bool b)] => true | _ => false, fun | [.d (.bool b)] => ([.one ((.int .i64 (tInt b)), false)], []) | _ => ([], []), fun _ => [], false, fun _ => none⟩
end spec_toInt
namespace spec_toInt
noncomputable def X : List Entry := []
noncomputable def I : List Inl := [⟨109, Try.f109, ⟨[], [], [], [], [], []⟩⟩]
theorem I_ok : ∀ i ∈ I, Try.prog.funcs[i.f]? = some i.fn ∧ (i.fn.name == "runtime.NumGoroutine") = false := by
  intro i hi
  simp only [I, List.mem_cons, List.not_mem_nil, or_false] at hi
  subst hi
  exact ⟨by kernel_rfl, by kernel_rfl⟩
theorem e (fuel : Nat) (p0 : Bool) : runF Try.prog X I 0 fuel 109 Try.f109 [.d (.bool p0)] =
  (bif p0 then
  some ([.one ((.int .i64 1), false)], [])
  else
  some ([.one ((.int .i64 0), false)], [])) := by kernel_rfl
end spec_toInt
theorem spec_toInt.ok_of (hX : ∀ E ∈ spec_toInt.X, CallSpec Try.prog E) (h : ∀ (b : Bool), (true) = true → ∃ fuel, runF Try.prog spec_toInt.X spec_toInt.I 0 fuel 109 Try.f109 [.d (.bool b)] = some ([.one ((.int .i64 (tInt b)), false)], [])) : CallSpec Try.prog spec_toInt.E :=
  callSpec_of (d := 0) hX (by kernel_rfl) spec_toInt.I_ok (by kernel_rfl) (by kernel_rfl) (by kernel_rfl) (fun _ _ _ _ h => by dsimp only [spec_toInt.E] at h; cases h) (fun xs hp => by
    dsimp only [spec_toInt.E] at hp ⊢
    split at hp
    · exact h _ hp
    · cases hp)
theorem spec_toInt.ok : CallSpec Try.prog spec_toInt.E := spec_toInt.ok_of (by simp [spec_toInt.X]) fun b _ => ⟨0, by rw [spec_toInt.e]; cases b <;> rfl⟩

namespace spec_modulo
noncomputable def E : Entry := ⟨110, true, false, fun | [.d (.int .i64 a), .d (.int .i64 b)] => decide (0 < b) | _ => false, fun | [.d (.int .i64 a), .d (.int .i64 b)] => ([.one ((.int .i64 (modV a b)), false)], []) | _ => ([], []), fun _ => [], false, fun _ => none⟩
end spec_modulo
namespace spec_modulo
noncomputable def X : List Entry := []
noncomputable def I : List Inl := [⟨110, Try.f110, ⟨[], [], [], [], [], []⟩⟩]
theorem I_ok : ∀ i ∈ I, Try.prog.funcs[i.f]? = some i.fn ∧ (i.fn.name == "runtime.NumGoroutine") = false := by
  intro i hi
  simp only [I, List.mem_cons, List.not_mem_nil, or_false] at hi
  subst hi
  exact ⟨by kernel_rfl, by kernel_rfl⟩
theorem e (fuel : Nat) (p0 : Int) (p1 : Int) : runF Try.prog X I 0 fuel 110 Try.f110 [.d (.int .i64 p0), .d (.int .i64 p1)] =
  (bif decide ((p1 : Int) = 0) then
  none
  else
  (bif decide ((p1 : Int) = 0) then
  none
  else
  some ([.one ((.int .i64 (Int.tmod (IntKind.wrap .i64 ((Int.tmod p0 p1) + p1)) p1)), false)], []))) := by kernel_rfl
end spec_modulo
theorem spec_modulo.ok_of (hX : ∀ E ∈ spec_modulo.X, CallSpec Try.prog E) (h : ∀ (a : Int) (b : Int), (decide (0 < b)) = true → ∃ fuel, runF Try.prog spec_modulo.X spec_modulo.I 0 fuel 110 Try.f110 [.d (.int .i64 a), .d (.int .i64 b)] = some ([.one ((.int .i64 (modV a b)), false)], [])) : CallSpec Try.prog spec_modulo.E :=
  callSpec_of (d := 0) hX (by kernel_rfl) spec_modulo.I_ok (by kernel_rfl) (by kernel_rfl) (by kernel_rfl) (fun _ _ _ _ h => by dsimp only [spec_modulo.E] at h; cases h) (fun xs hp => by
    dsimp only [spec_modulo.E] at hp ⊢
    split at hp
    · exact h _ _ hp
    · cases hp)
theorem spec_modulo.ok : CallSpec Try.prog spec_modulo.E := spec_modulo.ok_of (by simp [spec_modulo.X]) fun a b h => ⟨0, by
  have := of_decide_eq_true h
  rw [spec_modulo.e, decide_eq_false (p := b = 0) (by omega)]
  rfl⟩

namespace spec_operate
noncomputable def E : Entry := ⟨99, true, false, fun | [.d (.int .i64 op), .d (.int .i64 a), .d (.int .i64 b)] => true | _ => false, fun | [.d (.int .i64 op), .d (.int .i64 a), .d (.int .i64 b)] => ([.one ((.int .i64 (operF op a b)), false)], []) | _ => ([], []), fun _ => [], false, fun _ => none⟩
end spec_operate
namespace spec_operate
noncomputable def X : List Entry := [spec_limit.E, spec_toInt.E, spec_modulo.E]
noncomputable def I : List Inl := [⟨99, Try.f99, ⟨[], [], [], [], [], []⟩⟩]
theorem I_ok : ∀ i ∈ I, Try.prog.funcs[i.f]? = some i.fn ∧ (i.fn.name == "runtime.NumGoroutine") = false := by
  intro i hi
  simp only [I, List.mem_cons, List.not_mem_nil, or_false] at hi
  subst hi
  exact ⟨by kernel_rfl, by kernel_rfl⟩
theorem e (fuel : Nat) (p0 : Int) (p1 : Int) (p2 : Int) : runF Try.prog X I 0 fuel 99 Try.f99 [.d (.int .i64 p0), .d (.int .i64 p1), .d (.int .i64 p2)] =
  (bif ((p0 : Int) == 1) then
  some ([.one ((.int .i64 (limV ((IntKind.wrap .i64 (p1 + p2))))), false)], [])
  else
  (bif ((p0 : Int) == 2) then
  some ([.one ((.int .i64 (limV ((IntKind.wrap .i64 (p1 - p2))))), false)], [])
  else
  (bif ((p0 : Int) == 3) then
  some ([.one ((.int .i64 (limV ((IntKind.wrap .i64 (p1 * p2))))), false)], [])
  else
  (bif ((p0 : Int) == 4) then
  some ([.one ((.int .i64 (minI p1 p2)), false)], [])
  else
  (bif ((p0 : Int) == 5) then
  some ([.one ((.int .i64 (maxI p1 p2)), false)], [])
  else
  (bif ((p0 : Int) == 6) then
  some ([.one ((.int .i64 (tInt (((p1 : Int) == p2)))), false)], [])
  else
  (bif ((p0 : Int) == 7) then
  some ([.one ((.int .i64 (tInt ((decide ((p1 : Int) < p2))))), false)], [])
  else
  (bif (decide ((p1 : Int) ≤ 0)) then
  some ([.one ((.int .i64 p2), false)], [])
  else
  (bif decide (0 < p1) then
  some ([.one ((.int .i64 (modV p2 p1)), false)], [])
  else
  none))))))))) := by kernel_rfl
end spec_operate
theorem spec_operate.ok_of (hX : ∀ E ∈ spec_operate.X, CallSpec Try.prog E) (h : ∀ (op : Int) (a : Int) (b : Int), (true) = true → ∃ fuel, runF Try.prog spec_operate.X spec_operate.I 0 fuel 99 Try.f99 [.d (.int .i64 op), .d (.int .i64 a), .d (.int .i64 b)] = some ([.one ((.int .i64 (operF op a b)), false)], [])) : CallSpec Try.prog spec_operate.E :=
  callSpec_of (d := 0) hX (by kernel_rfl) spec_operate.I_ok (by kernel_rfl) (by kernel_rfl) (by kernel_rfl) (fun _ _ _ _ h => by dsimp only [spec_operate.E] at h; cases h) (fun xs hp => by
    dsimp only [spec_operate.E] at hp ⊢
    split at hp
    · exact h _ _ _ hp
    · cases hp)
theorem spec_operate.ok : CallSpec Try.prog spec_operate.E := spec_operate.ok_of (by simp [spec_operate.X, spec_limit.ok, spec_toInt.ok, spec_modulo.ok]) fun op a b _ => ⟨0, by
  rw [spec_operate.e]
  unfold operF restV
  by_cases h : a ≤ 0
  · rw [decide_eq_true h]
    cases op == 1 <;> cases op == 2 <;> cases op == 3 <;> cases op == 4 <;> cases op == 5 <;> cases op == 6 <;> cases op == 7 <;> rfl
  · rw [decide_eq_false h, decide_eq_true (p := 0 < a) (by omega)]
    cases op == 1 <;> cases op == 2 <;> cases op == 3 <;> cases op == 4 <;> cases op == 5 <;> cases op == 6 <;> cases op == 7 <;> rfl⟩

namespace spec_combine
noncomputable def E : Entry := ⟨60, false, false, fun | [.d (.int .i64 op), .d (.agg [(.ints .i64 s1), (.ints .i64 d1)]), .d (.agg [(.ints .i64 s2), (.ints .i64 d2)])] => validA s1 d1 && validA s2 d2 && fitB s1 s2 | _ => false, fun | [.d (.int .i64 op), .d (.agg [(.ints .i64 s1), (.ints .i64 d1)]), .d (.agg [(.ints .i64 s2), (.ints .i64 d2)])] => ([.agg [((.ints .i64 (cS s1 s2)), true), ((.ints .i64 (cD op s1 d1 s2 d2)), true)]], []) | _ => ([], []), fun _ => [], true, fun _ => none⟩
end spec_combine
namespace spec_combine
noncomputable def X : List Entry := [spec_volume.E, spec_operate.E, spec_make1.E]
noncomputable def I : List Inl := [⟨60, Try.f60, ⟨[52], [(1000006, [1, 2, 3, 10, 11, 12, 13, 14, 15, 16, 17, 18, 19, 20, 21, 22, 23, 24, 25, 26, 27, 28, 29, 30, 31, 32, 33, 34, 35, 36, 37, 38, 39, 40, 41, 42, 43, 44, 45, 46, 47, 48, 49, 50, 51, 52])], [], [(8, [0, 1, 2, 4, 5, 12, 14, 15, 3, 6, 7, 8, 9, 10, 11, 13, 16, 17, 18, 19, 20, 21, 22, 23, 24, 25])], [], []⟩⟩]
theorem I_ok : ∀ i ∈ I, Try.prog.funcs[i.f]? = some i.fn ∧ (i.fn.name == "runtime.NumGoroutine") = false := by
  intro i hi
  simp only [I, List.mem_cons, List.not_mem_nil, or_false] at hi
  subst hi
  exact ⟨by kernel_rfl, by kernel_rfl⟩
noncomputable abbrev L0 (fuel n : Nat) (s : St) (k : Kont) := lAt Try.prog X I fuel true 0 false 60 (bodyOf Try.f60) [1, 1, 1, 1, 0, 1, 0] n s k
noncomputable abbrev k0  (fuel : Nat) : Kont := (kAt Try.prog X I fuel true 0 false 60 (bodyOf Try.f60) [1, 1, 1, 1, 0, 1, 0] [] (endK Try.prog Try.f60))
noncomputable def t0 (p0 : Int) (p1q0 : List Int) (p1q1 : List Int) (p2q0 : List Int) (p2q1 : List Int) (x0q1 : List Int) (x0q2 : Int) (x0q7 : List Int) : St := ⟨[(.imm (.int .i64 p0)), .dead, .dead, .dead, (.ptr 1000000000 0 0), (.ptr 1000000001 0 0), (.ptr 1000000002 0 0), (.imm (.ints .i64 x0q1)), (.all 1000000003 1), (.imm (.int .i64 x0q2)), .dead, .dead, .dead, .dead, .dead, .dead, .dead, .dead, .dead, .dead, .dead, .dead, .dead, .dead, .dead, .dead, .dead, .dead, .dead, .dead, .dead, .dead, .dead, .dead, .dead, .dead, .dead, .dead, .dead, .dead, .dead, .dead, .dead, .dead, .dead, .dead, .dead, .dead, .dead, .dead, .dead, .dead, .dead], hOf [(1000000000, (.box [(.imm (.ints .i64 p1q0)), (.imm (.ints .i64 p1q1))])), (1000000001, (.box [(.imm (.ints .i64 p2q0)), (.imm (.ints .i64 p2q1))])), (1000000002, (.box [(.imm .nils), (.imm .nils)])), (1000000003, (.ints .i64 x0q7))], [], []⟩
theorem e (fuel : Nat) (p0 : Int) (p1q0 : List Int) (p1q1 : List Int) (p2q0 : List Int) (p2q1 : List Int) : runF Try.prog X I 0 fuel 60 Try.f60 [.d (.int .i64 p0), .d (.agg [(.ints .i64 p1q0), (.ints .i64 p1q1)]), .d (.agg [(.ints .i64 p2q0), (.ints .i64 p2q1)])] =
  (bif ((((p1q0.length : Nat) : Int) : Int) == 0) then
  L0 fuel fuel (t0 p0 p1q0 p1q1 p2q0 p2q1 p2q0 0 ([])) (k0  fuel)
  else
  L0 fuel fuel (t0 p0 p1q0 p1q1 p2q0 p2q1 p1q0 0 ([])) (k0  fuel)) := by kernel_rfl
theorem s0 (fuel n0 : Nat) (p0 : Int) (p1q0 : List Int) (p1q1 : List Int) (p2q0 : List Int) (p2q1 : List Int) (x0q1 : List Int) (x0q2 : Int) (x0q7 : List Int) : L0 fuel (n0 + 1) (t0 p0 p1q0 p1q1 p2q0 p2q1 x0q1 x0q2 x0q7) (k0  fuel) =
  (bif decide (x0q1.length < 9223372036854775808) then
  (bif (decide ((x0q2 : Int) < (volW x0q1))) then
  (idx (minI x0q2 (IntKind.wrap .i64 (((p1q1.length : Nat) : Int) - 1))) p1q1.length).bind fun j5 =>
  (p1q1[j5]?).bind fun v6 =>
  (idx (minI x0q2 (IntKind.wrap .i64 (((p2q1.length : Nat) : Int) - 1))) p2q1.length).bind fun j7 =>
  (p2q1[j7]?).bind fun v8 =>
  (bif fits (x0q7.length + ([(operF p0 v6 v8)] : List Int).length) 8 then
  L0 fuel n0 (t0 p0 p1q0 p1q1 p2q0 p2q1 x0q1 ((IntKind.wrap .i64 (x0q2 + 1))) ((x0q7 ++ [(operF p0 v6 v8)]))) (k0  fuel)
  else
  none)
  else
  (bif szB x0q1 && szB x0q7 then
  some ([.agg [((.ints .i64 x0q1), true), ((.ints .i64 x0q7), true)]], [])
  else
  none))
  else
  none) := by kernel_rfl
end spec_combine
theorem spec_combine.ok_of (hX : ∀ E ∈ spec_combine.X, CallSpec Try.prog E) (h : ∀ (op : Int) (s1 : List Int) (d1 : List Int) (s2 : List Int) (d2 : List Int), (validA s1 d1 && validA s2 d2 && fitB s1 s2) = true → ∃ fuel, runF Try.prog spec_combine.X spec_combine.I 0 fuel 60 Try.f60 [.d (.int .i64 op), .d (.agg [(.ints .i64 s1), (.ints .i64 d1)]), .d (.agg [(.ints .i64 s2), (.ints .i64 d2)])] = some ([.agg [((.ints .i64 (cS s1 s2)), true), ((.ints .i64 (cD op s1 d1 s2 d2)), true)]], [])) : CallSpec Try.prog spec_combine.E :=
  callSpec_of (d := 0) hX (by kernel_rfl) spec_combine.I_ok (by kernel_rfl) (by kernel_rfl) (by kernel_rfl) (fun _ _ _ _ h => by dsimp only [spec_combine.E] at h; cases h) (fun xs hp => by
    dsimp only [spec_combine.E] at hp ⊢
    split at hp
    · exact h _ _ _ _ _ hp
    · cases hp)
theorem spec_combine.loop (fuel : Nat) (op : Int) (s1 d1 s2 d2 : List Int) (S : List Int) (hS : S.length ≤ 3) (hV : ((volW S).toNat : Int) = volW S) (hv : (volW S).toNat ≤ 60) (g1 : 0 < d1.length ∧ d1.length ≤ 60 ∨ (volW S).toNat = 0) (g2 : 0 < d2.length ∧ d2.length ≤ 60 ∨ (volW S).toNat = 0) : ∀ (m n j : Nat) (out : List Int), (volW S).toNat - j = m → m < n → j ≤ (volW S).toNat → out = tab j (fun i => operF op (d1.getD (min i (d1.length - 1)) 0) (d2.getD (min i (d2.length - 1)) 0)) →
    spec_combine.L0 fuel n (spec_combine.t0 op s1 d1 s2 d2 S (j : Int) out) (spec_combine.k0 fuel) = some ([.agg [(.ints .i64 S, true), (.ints .i64 (tab (volW S).toNat (fun i => operF op (d1.getD (min i (d1.length - 1)) 0) (d2.getD (min i (d2.length - 1)) 0))), true)]], []) := by
  intro m
  induction m with
  | zero =>
    intro n j out h1 h2 h3 h4
    obtain ⟨n, rfl⟩ : ∃ n', n = n' + 1 := ⟨n - 1, by omega⟩
    have ho : out.length = j := by rw [h4, tab_length]
    rw [spec_combine.s0, decide_eq_true (p := S.length < 9223372036854775808) (by omega), decide_eq_false (p := (j : Int) < volW S) (by omega), szB_of (xs := S) (by omega), szB_of (xs := out) (by omega), h4, show j = (volW S).toNat by omega]
    rfl
  | succ m ih =>
    intro n j out h1 h2 h3 h4
    obtain ⟨n, rfl⟩ : ∃ n', n = n' + 1 := ⟨n - 1, by omega⟩
    have ho : out.length = j := by rw [h4, tab_length]
    have a1 : min j (d1.length - 1) < d1.length := by omega
    have a2 : min j (d2.length - 1) < d2.length := by omega
    have c1 : minI (j : Int) (IntKind.wrap .i64 (((d1.length : Nat) : Int) - 1)) = ((min j (d1.length - 1) : Nat) : Int) := by
      rw [wS (by omega) (by omega)]; unfold minI; split <;> omega
    have c2 : minI (j : Int) (IntKind.wrap .i64 (((d2.length : Nat) : Int) - 1)) = ((min j (d2.length - 1) : Nat) : Int) := by
      rw [wS (by omega) (by omega)]; unfold minI; split <;> omega
    rw [spec_combine.s0, decide_eq_true (p := S.length < 9223372036854775808) (by omega), decide_eq_true (p := (j : Int) < volW S) (by omega), c1, c2, idx_nat a1, idx_nat a2, w1 (by omega)]
    simp only [cond_true, Option.bind_some, getS a1, getS a2]
    rw [fitsOk (by simp; omega)]
    simp only [cond_true]
    have b1 : d1.getD (min j (d1.length - 1)) 0 = d1[min j (d1.length - 1)] := by simp [a1]
    have b2 : d2.getD (min j (d2.length - 1)) 0 = d2[min j (d2.length - 1)] := by simp [a2]
    exact ih n (j + 1) _ (by omega) (by omega) (by omega) (by rw [tab_succ, h4, b1, b2])
theorem spec_combine.ok : CallSpec Try.prog spec_combine.E := spec_combine.ok_of (by simp [spec_combine.X, spec_volume.ok, spec_operate.ok, spec_make1.ok]) fun op s1 d1 s2 d2 h => by
  simp only [Bool.and_eq_true] at h
  obtain ⟨⟨v1, v2⟩, hf⟩ := h
  have b1 := validA_len v1
  have b2 := validA_len v2
  have e1 := vol_len v1
  have e2 := vol_len v2
  have p1 := (vol_bd (validA_inv v1).1).1
  have p2 := (vol_bd (validA_inv v2).1).1
  obtain ⟨F, hF⟩ : ∃ F : Nat, 60 < F := ⟨61, by omega⟩
  refine ⟨F, ?_⟩
  rw [spec_combine.e, len0]
  by_cases h1 : s1.length = 0
  · have e := List.length_eq_zero_iff.mp h1
    subst e
    have l1 := sc_len v1
    have hc : cS [] s2 = s2 := rfl
    rw [decide_eq_true h1, cond_true, cD, hc]
    exact spec_combine.loop F op [] d1 s2 d2 s2 (by omega) (by omega) (by omega) (by omega) (by omega) _ F 0 [] rfl (by omega) (by omega) rfl
  · have hc : cS s1 s2 = s1 := by rw [cS, decide_eq_false h1]; rfl
    rw [decide_eq_false h1, cond_false, cD, hc]
    refine spec_combine.loop F op s1 d1 s2 d2 s1 (by omega) (by omega) (by omega) (by omega) ?_ _ F 0 [] rfl (by omega) (by omega) rfl
    by_cases h2 : s2.length = 0
    · have e := List.length_eq_zero_iff.mp h2
      subst e
      have l2 := sc_len v2
      omega
    · rw [fitB, decide_eq_false h1, decide_eq_false h2, cond_false, cond_false] at hf
      have := of_decide_eq_true hf
      subst this
      omega

namespace spec_Combine
noncomputable def E : Entry := ⟨21, false, false, fun | [.d (.int .i64 op), .d (.agg [(.ints .i64 s1), (.ints .i64 d1)]), .d (.agg [(.ints .i64 s2), (.ints .i64 d2)])] => decide (s1.length < 9223372036854775808) && decide (d1.length < 9223372036854775808) && decide (s2.length < 9223372036854775808) && decide (d2.length < 9223372036854775808) | _ => false, fun | [.d (.int .i64 op), .d (.agg [(.ints .i64 s1), (.ints .i64 d1)]), .d (.agg [(.ints .i64 s2), (.ints .i64 d2)])] => ([.agg [((.ints .i64 (comS op s1 d1 s2 d2)), true), ((.ints .i64 (comD op s1 d1 s2 d2)), true)], .one ((.bool (comB op s1 d1 s2 d2)), false)], []) | _ => ([], []), fun _ => [], true, fun _ => none⟩
end spec_Combine
namespace spec_Combine
noncomputable def X : List Entry := [spec_validOp.E, spec_valid.E, spec_fits.E, spec_combine.E]
noncomputable def I : List Inl := [⟨21, Try.f21, ⟨[31], [], [], [], [], []⟩⟩]
theorem I_ok : ∀ i ∈ I, Try.prog.funcs[i.f]? = some i.fn ∧ (i.fn.name == "runtime.NumGoroutine") = false := by
  intro i hi
  simp only [I, List.mem_cons, List.not_mem_nil, or_false] at hi
  subst hi
  exact ⟨by kernel_rfl, by kernel_rfl⟩
theorem e (fuel : Nat) (p0 : Int) (p1q0 : List Int) (p1q1 : List Int) (p2q0 : List Int) (p2q1 : List Int) : runF Try.prog X I 0 fuel 21 Try.f21 [.d (.int .i64 p0), .d (.agg [(.ints .i64 p1q0), (.ints .i64 p1q1)]), .d (.agg [(.ints .i64 p2q0), (.ints .i64 p2q1)])] =
  (bif (!(opOk p0)) then
  some ([.agg [((.ints .i64 []), true), ((.ints .i64 []), true)], .one ((.bool false), false)], [])
  else
  (bif decide (p1q0.length < 9223372036854775808) && decide (p1q1.length < 9223372036854775808) then
  (bif (!(validA p1q0 p1q1)) then
  some ([.agg [((.ints .i64 []), true), ((.ints .i64 []), true)], .one ((.bool false), false)], [])
  else
  (bif decide (p2q0.length < 9223372036854775808) && decide (p2q1.length < 9223372036854775808) then
  (bif (!(validA p2q0 p2q1)) then
  some ([.agg [((.ints .i64 []), true), ((.ints .i64 []), true)], .one ((.bool false), false)], [])
  else
  (bif decide (p1q0.length < 9223372036854775808) && decide (p2q0.length < 9223372036854775808) then
  (bif (!(fitB p1q0 p2q0)) then
  some ([.agg [((.ints .i64 []), true), ((.ints .i64 []), true)], .one ((.bool false), false)], [])
  else
  (bif validA p1q0 p1q1 && validA p2q0 p2q1 && fitB p1q0 p2q0 then
  some ([.agg [((.ints .i64 (cS p1q0 p2q0)), true), ((.ints .i64 (cD p0 p1q0 p1q1 p2q0 p2q1)), true)], .one ((.bool true), false)], [])
  else
  none))
  else
  none))
  else
  none))
  else
  none)) := by kernel_rfl
end spec_Combine
theorem spec_Combine.ok_of (hX : ∀ E ∈ spec_Combine.X, CallSpec Try.prog E) (h : ∀ (op : Int) (s1 : List Int) (d1 : List Int) (s2 : List Int) (d2 : List Int), (decide (s1.length < 9223372036854775808) && decide (d1.length < 9223372036854775808) && decide (s2.length < 9223372036854775808) && decide (d2.length < 9223372036854775808)) = true → ∃ fuel, runF Try.prog spec_Combine.X spec_Combine.I 0 fuel 21 Try.f21 [.d (.int .i64 op), .d (.agg [(.ints .i64 s1), (.ints .i64 d1)]), .d (.agg [(.ints .i64 s2), (.ints .i64 d2)])] = some ([.agg [((.ints .i64 (comS op s1 d1 s2 d2)), true), ((.ints .i64 (comD op s1 d1 s2 d2)), true)], .one ((.bool (comB op s1 d1 s2 d2)), false)], [])) : CallSpec Try.prog spec_Combine.E :=
  callSpec_of (d := 0) hX (by kernel_rfl) spec_Combine.I_ok (by kernel_rfl) (by kernel_rfl) (by kernel_rfl) (fun _ _ _ _ h => by dsimp only [spec_Combine.E] at h; cases h) (fun xs hp => by
    dsimp only [spec_Combine.E] at hp ⊢
    split at hp
    · exact h _ _ _ _ _ hp
    · cases hp)
theorem spec_Combine.ok : CallSpec Try.prog spec_Combine.E := spec_Combine.ok_of (by simp [spec_Combine.X, spec_validOp.ok, spec_valid.ok, spec_fits.ok, spec_combine.ok]) fun op s1 d1 s2 d2 h => ⟨0, by
  simp only [Bool.and_eq_true] at h
  obtain ⟨⟨⟨h1, h2⟩, h3⟩, h4⟩ := h
  rw [spec_Combine.e]
  simp only [h1, h2, h3, h4, Bool.and_self, cond_true]
  unfold comS comD comB
  cases opOk op <;> cases validA s1 d1 <;> cases validA s2 d2 <;> cases fitB s1 s2 <;> rfl⟩

namespace impl_asOneCell
noncomputable def E : Entry := ⟨61, false, false, fun | [.d (.agg [(.ints .i64 sh), (.ints .i64 da)])] => szB sh && decide (da.length < 9223372036854775808) | _ => false, fun | [.d (.agg [(.ints .i64 sh), (.ints .i64 da)])] => ([.agg [((.ints .i64 (1 :: sh)), true), ((.ints .i64 da), false)]], []) | _ => ([], []), fun _ => [], true, fun _ => none⟩
end impl_asOneCell
namespace impl_asOneCell
noncomputable def X : List Entry := [slices_Concat_int_int.E]
noncomputable def I : List Inl := [⟨61, Try.f61, ⟨[7], [], [], [(1, [1, 5, 2, 6, 0, 3, 4, 7, 8])], [3, 6], []⟩⟩]
theorem I_ok : ∀ i ∈ I, Try.prog.funcs[i.f]? = some i.fn ∧ (i.fn.name == "runtime.NumGoroutine") = false := by
  intro i hi
  simp only [I, List.mem_cons, List.not_mem_nil, or_false] at hi
  subst hi
  exact ⟨by kernel_rfl, by kernel_rfl⟩
theorem e (fuel : Nat) (p0q0 : List Int) (p0q1 : List Int) : runF Try.prog X I 0 fuel 61 Try.f61 [.d (.agg [(.ints .i64 p0q0), (.ints .i64 p0q1)])] =
  (bif szB (([1] : List Int)) && szB p0q0 then
  some ([.agg [((.ints .i64 ((([1] : List Int)) ++ p0q0)), true), ((.ints .i64 p0q1), false)]], [])
  else
  none) := by kernel_rfl
end impl_asOneCell
theorem impl_asOneCell.ok_of (hX : ∀ E ∈ impl_asOneCell.X, CallSpec Try.prog E) (h : ∀ (sh : List Int) (da : List Int), (szB sh && decide (da.length < 9223372036854775808)) = true → ∃ fuel, runF Try.prog impl_asOneCell.X impl_asOneCell.I 0 fuel 61 Try.f61 [.d (.agg [(.ints .i64 sh), (.ints .i64 da)])] = some ([.agg [((.ints .i64 (1 :: sh)), true), ((.ints .i64 da), false)]], [])) : CallSpec Try.prog impl_asOneCell.E :=
  callSpec_of (d := 0) hX (by kernel_rfl) impl_asOneCell.I_ok (by kernel_rfl) (by kernel_rfl) (by kernel_rfl) (fun _ _ _ _ h => by dsimp only [impl_asOneCell.E] at h; cases h) (fun xs hp => by
    dsimp only [impl_asOneCell.E] at hp ⊢
    split at hp
    · exact h _ _ hp
    · cases hp)
theorem impl_asOneCell.ok : CallSpec Try.prog impl_asOneCell.E := impl_asOneCell.ok_of (by simp [impl_asOneCell.X, slices_Concat_int_int.ok]) fun sh da h => ⟨0, by
  simp only [Bool.and_eq_true] at h
  rw [impl_asOneCell.e, h.1]
  rfl⟩

namespace impl_StackArrays
noncomputable def E : Entry := ⟨22, false, false, fun | [.d (.agg [(.ints .i64 sa), (.ints .i64 da)]), .d (.agg [(.ints .i64 sb), (.ints .i64 db)])] => szB sa && szB sb && decide (da.length < 9223372036854775808) && decide (db.length < 9223372036854775808) | _ => false, fun | [.d (.agg [(.ints .i64 sa), (.ints .i64 da)]), .d (.agg [(.ints .i64 sb), (.ints .i64 db)])] => ([.agg [((.ints .i64 (stS sa da sb db)), true), ((.ints .i64 (stD sa da sb db)), true)], .one ((.bool (stB sa da sb db)), false)], []) | _ => ([], []), fun _ => [], true, fun _ => none⟩
end impl_StackArrays
namespace impl_StackArrays
noncomputable def X : List Entry := [impl_asOneCell.E, impl_JoinAxis.E]
noncomputable def I : List Inl := [⟨22, Try.f22, ⟨[7, 9, 10], [], [], [(1, [0, 2, 1, 3, 4, 5, 6, 7, 8])], [], []⟩⟩]
theorem I_ok : ∀ i ∈ I, Try.prog.funcs[i.f]? = some i.fn ∧ (i.fn.name == "runtime.NumGoroutine") = false := by
  intro i hi
  simp only [I, List.mem_cons, List.not_mem_nil, or_false] at hi
  subst hi
  exact ⟨by kernel_rfl, by kernel_rfl⟩
theorem e (fuel : Nat) (p0q0 : List Int) (p0q1 : List Int) (p1q0 : List Int) (p1q1 : List Int) : runF Try.prog X I 0 fuel 22 Try.f22 [.d (.agg [(.ints .i64 p0q0), (.ints .i64 p0q1)]), .d (.agg [(.ints .i64 p1q0), (.ints .i64 p1q1)])] =
  (bif szB p0q0 && decide (p0q1.length < 9223372036854775808) then
  (bif szB p1q0 && decide (p1q1.length < 9223372036854775808) then
  (bif decide (((1 :: p0q0)).length < 9223372036854775808) && decide (p0q1.length < 9223372036854775808) && decide (((1 :: p1q0)).length < 9223372036854775808) && decide (p1q1.length < 9223372036854775808) then
  some ([.agg [((.ints .i64 (joS ((1 :: p0q0)) p0q1 ((1 :: p1q0)) p1q1 0)), true), ((.ints .i64 (joD ((1 :: p0q0)) p0q1 ((1 :: p1q0)) p1q1 0)), true)], .one ((.bool (joB ((1 :: p0q0)) p0q1 ((1 :: p1q0)) p1q1 0)), false)], [])
  else
  none)
  else
  none)
  else
  none) := by kernel_rfl
end impl_StackArrays
theorem impl_StackArrays.ok_of (hX : ∀ E ∈ impl_StackArrays.X, CallSpec Try.prog E) (h : ∀ (sa : List Int) (da : List Int) (sb : List Int) (db : List Int), (szB sa && szB sb && decide (da.length < 9223372036854775808) && decide (db.length < 9223372036854775808)) = true → ∃ fuel, runF Try.prog impl_StackArrays.X impl_StackArrays.I 0 fuel 22 Try.f22 [.d (.agg [(.ints .i64 sa), (.ints .i64 da)]), .d (.agg [(.ints .i64 sb), (.ints .i64 db)])] = some ([.agg [((.ints .i64 (stS sa da sb db)), true), ((.ints .i64 (stD sa da sb db)), true)], .one ((.bool (stB sa da sb db)), false)], [])) : CallSpec Try.prog impl_StackArrays.E :=
  callSpec_of (d := 0) hX (by kernel_rfl) impl_StackArrays.I_ok (by kernel_rfl) (by kernel_rfl) (by kernel_rfl) (fun _ _ _ _ h => by dsimp only [impl_StackArrays.E] at h; cases h) (fun xs hp => by
    dsimp only [impl_StackArrays.E] at hp ⊢
    split at hp
    · exact h _ _ _ _ hp
    · cases hp)
theorem impl_StackArrays.ok : CallSpec Try.prog impl_StackArrays.E := impl_StackArrays.ok_of (by simp [impl_StackArrays.X, impl_asOneCell.ok, impl_JoinAxis.ok]) fun sa da sb db h => ⟨0, by
  simp only [Bool.and_eq_true] at h
  obtain ⟨⟨⟨h1, h2⟩, h3⟩, h4⟩ := h
  have z1 := szB_le h1
  have z2 := szB_le h2
  obtain ⟨q1, q2, q3⟩ := st_jo sa da sb db
  rw [impl_StackArrays.e, h1, h2, h3, h4, lt_of (xs := 1 :: sa) (by simp only [List.length_cons]; omega), lt_of (xs := 1 :: sb) (by simp only [List.length_cons]; omega), q1, q2, q3]
  rfl⟩

namespace laws_FnReduceAxisCells
noncomputable def E : Entry := ⟨5, true, false, fun | [.d (.ints .u8 bs)] => bytesB bs | _ => false, fun | [.d (.ints .u8 bs)] => ([.one ((.bool true), false)], []) | _ => ([], []), fun _ => [], false, fun _ => none⟩
end laws_FnReduceAxisCells
namespace laws_FnReduceAxisCells
noncomputable def X : List Entry := [spec_DrawCombine.E, impl_Combine.E, spec_Combine.E, laws_equalArray.E, laws_equalInts.E, impl_StackArrays.E, impl_ReduceAxis.E]
noncomputable def I : List Inl := [⟨5, Try.f5, ⟨[19, 27, 34, 69, 75], [], [], [], [], []⟩⟩]
theorem I_ok : ∀ i ∈ I, Try.prog.funcs[i.f]? = some i.fn ∧ (i.fn.name == "runtime.NumGoroutine") = false := by
  intro i hi
  simp only [I, List.mem_cons, List.not_mem_nil, or_false] at hi
  subst hi
  exact ⟨by kernel_rfl, by kernel_rfl⟩
theorem e (fuel : Nat) (p0 : List Int) : runF Try.prog X I 0 fuel 5 Try.f5 [.d (.ints .u8 p0)] =
  (bif (decide ((((p0.length : Nat) : Int) : Int) > 1048576)) then
  some ([.one ((.bool true), false)], [])
  else
  (bif bytesB p0 then
  (bif decide (((apS1 (cutC p0) 2)).length < 9223372036854775808) && decide (((apD1 (cutC p0) 2)).length < 9223372036854775808) && decide (((apS2 (cutC p0) 2)).length < 9223372036854775808) && decide (((apD2 (cutC p0) 2)).length < 9223372036854775808) then
  (bif decide (((apS1 (cutC p0) 2)).length < 9223372036854775808) && decide (((apD1 (cutC p0) 2)).length < 9223372036854775808) && decide (((apS2 (cutC p0) 2)).length < 9223372036854775808) && decide (((apD2 (cutC p0) 2)).length < 9223372036854775808) then
  (bif decide (((comS ((anyOpV (cutC p0) 0)) ((apS1 (cutC p0) 2)) ((apD1 (cutC p0) 2)) ((apS2 (cutC p0) 2)) ((apD2 (cutC p0) 2)))).length < 9223372036854775808) && decide (((comD ((anyOpV (cutC p0) 0)) ((apS1 (cutC p0) 2)) ((apD1 (cutC p0) 2)) ((apS2 (cutC p0) 2)) ((apD2 (cutC p0) 2)))).length < 9223372036854775808) && decide (((comS ((anyOpV (cutC p0) 0)) ((apS1 (cutC p0) 2)) ((apD1 (cutC p0) 2)) ((apS2 (cutC p0) 2)) ((apD2 (cutC p0) 2)))).length < 9223372036854775808) && decide (((comD ((anyOpV (cutC p0) 0)) ((apS1 (cutC p0) 2)) ((apD1 (cutC p0) 2)) ((apS2 (cutC p0) 2)) ((apD2 (cutC p0) 2)))).length < 9223372036854775808) then
  (bif (!(decide (((comS ((anyOpV (cutC p0) 0)) ((apS1 (cutC p0) 2)) ((apD1 (cutC p0) 2)) ((apS2 (cutC p0) 2)) ((apD2 (cutC p0) 2)))) = ((comS ((anyOpV (cutC p0) 0)) ((apS1 (cutC p0) 2)) ((apD1 (cutC p0) 2)) ((apS2 (cutC p0) 2)) ((apD2 (cutC p0) 2))))) && decide (((comD ((anyOpV (cutC p0) 0)) ((apS1 (cutC p0) 2)) ((apD1 (cutC p0) 2)) ((apS2 (cutC p0) 2)) ((apD2 (cutC p0) 2)))) = ((comD ((anyOpV (cutC p0) 0)) ((apS1 (cutC p0) 2)) ((apD1 (cutC p0) 2)) ((apS2 (cutC p0) 2)) ((apD2 (cutC p0) 2))))))) then
  (bif decide (((comS ((anyOpV (cutC p0) 0)) ((apS1 (cutC p0) 2)) ((apD1 (cutC p0) 2)) ((apS2 (cutC p0) 2)) ((apD2 (cutC p0) 2)))).length < 9223372036854775808) && decide (((comD ((anyOpV (cutC p0) 0)) ((apS1 (cutC p0) 2)) ((apD1 (cutC p0) 2)) ((apS2 (cutC p0) 2)) ((apD2 (cutC p0) 2)))).length < 9223372036854775808) && decide (((comS ((anyOpV (cutC p0) 0)) ((apS1 (cutC p0) 2)) ((apD1 (cutC p0) 2)) ((apS2 (cutC p0) 2)) ((apD2 (cutC p0) 2)))).length < 9223372036854775808) && decide (((comD ((anyOpV (cutC p0) 0)) ((apS1 (cutC p0) 2)) ((apD1 (cutC p0) 2)) ((apS2 (cutC p0) 2)) ((apD2 (cutC p0) 2)))).length < 9223372036854775808) then
  (bif (decide (((comS ((anyOpV (cutC p0) 0)) ((apS1 (cutC p0) 2)) ((apD1 (cutC p0) 2)) ((apS2 (cutC p0) 2)) ((apD2 (cutC p0) 2)))) = ((comS ((anyOpV (cutC p0) 0)) ((apS1 (cutC p0) 2)) ((apD1 (cutC p0) 2)) ((apS2 (cutC p0) 2)) ((apD2 (cutC p0) 2))))) && decide (((comD ((anyOpV (cutC p0) 0)) ((apS1 (cutC p0) 2)) ((apD1 (cutC p0) 2)) ((apS2 (cutC p0) 2)) ((apD2 (cutC p0) 2)))) = ((comD ((anyOpV (cutC p0) 0)) ((apS1 (cutC p0) 2)) ((apD1 (cutC p0) 2)) ((apS2 (cutC p0) 2)) ((apD2 (cutC p0) 2)))))) then
  some ([.one ((.bool ((comB ((anyOpV (cutC p0) 0)) ((apS1 (cutC p0) 2)) ((apD1 (cutC p0) 2)) ((apS2 (cutC p0) 2)) ((apD2 (cutC p0) 2))) == (comB ((anyOpV (cutC p0) 0)) ((apS1 (cutC p0) 2)) ((apD1 (cutC p0) 2)) ((apS2 (cutC p0) 2)) ((apD2 (cutC p0) 2))))), false)], [])
  else
  some ([.one ((.bool false), false)], []))
  else
  none)
  else
  (bif (!((comB ((anyOpV (cutC p0) 0)) ((apS1 (cutC p0) 2)) ((apD1 (cutC p0) 2)) ((apS2 (cutC p0) 2)) ((apD2 (cutC p0) 2))) == (comB ((anyOpV (cutC p0) 0)) ((apS1 (cutC p0) 2)) ((apD1 (cutC p0) 2)) ((apS2 (cutC p0) 2)) ((apD2 (cutC p0) 2))))) then
  (bif decide (((comS ((anyOpV (cutC p0) 0)) ((apS1 (cutC p0) 2)) ((apD1 (cutC p0) 2)) ((apS2 (cutC p0) 2)) ((apD2 (cutC p0) 2)))).length < 9223372036854775808) && decide (((comD ((anyOpV (cutC p0) 0)) ((apS1 (cutC p0) 2)) ((apD1 (cutC p0) 2)) ((apS2 (cutC p0) 2)) ((apD2 (cutC p0) 2)))).length < 9223372036854775808) && decide (((comS ((anyOpV (cutC p0) 0)) ((apS1 (cutC p0) 2)) ((apD1 (cutC p0) 2)) ((apS2 (cutC p0) 2)) ((apD2 (cutC p0) 2)))).length < 9223372036854775808) && decide (((comD ((anyOpV (cutC p0) 0)) ((apS1 (cutC p0) 2)) ((apD1 (cutC p0) 2)) ((apS2 (cutC p0) 2)) ((apD2 (cutC p0) 2)))).length < 9223372036854775808) then
  (bif (decide (((comS ((anyOpV (cutC p0) 0)) ((apS1 (cutC p0) 2)) ((apD1 (cutC p0) 2)) ((apS2 (cutC p0) 2)) ((apD2 (cutC p0) 2)))) = ((comS ((anyOpV (cutC p0) 0)) ((apS1 (cutC p0) 2)) ((apD1 (cutC p0) 2)) ((apS2 (cutC p0) 2)) ((apD2 (cutC p0) 2))))) && decide (((comD ((anyOpV (cutC p0) 0)) ((apS1 (cutC p0) 2)) ((apD1 (cutC p0) 2)) ((apS2 (cutC p0) 2)) ((apD2 (cutC p0) 2)))) = ((comD ((anyOpV (cutC p0) 0)) ((apS1 (cutC p0) 2)) ((apD1 (cutC p0) 2)) ((apS2 (cutC p0) 2)) ((apD2 (cutC p0) 2)))))) then
  some ([.one ((.bool ((comB ((anyOpV (cutC p0) 0)) ((apS1 (cutC p0) 2)) ((apD1 (cutC p0) 2)) ((apS2 (cutC p0) 2)) ((apD2 (cutC p0) 2))) == (comB ((anyOpV (cutC p0) 0)) ((apS1 (cutC p0) 2)) ((apD1 (cutC p0) 2)) ((apS2 (cutC p0) 2)) ((apD2 (cutC p0) 2))))), false)], [])
  else
  some ([.one ((.bool false), false)], []))
  else
  none)
  else
  (bif (!(comB ((anyOpV (cutC p0) 0)) ((apS1 (cutC p0) 2)) ((apD1 (cutC p0) 2)) ((apS2 (cutC p0) 2)) ((apD2 (cutC p0) 2)))) then
  (bif decide (((comS ((anyOpV (cutC p0) 0)) ((apS1 (cutC p0) 2)) ((apD1 (cutC p0) 2)) ((apS2 (cutC p0) 2)) ((apD2 (cutC p0) 2)))).length < 9223372036854775808) && decide (((comD ((anyOpV (cutC p0) 0)) ((apS1 (cutC p0) 2)) ((apD1 (cutC p0) 2)) ((apS2 (cutC p0) 2)) ((apD2 (cutC p0) 2)))).length < 9223372036854775808) && decide (((comS ((anyOpV (cutC p0) 0)) ((apS1 (cutC p0) 2)) ((apD1 (cutC p0) 2)) ((apS2 (cutC p0) 2)) ((apD2 (cutC p0) 2)))).length < 9223372036854775808) && decide (((comD ((anyOpV (cutC p0) 0)) ((apS1 (cutC p0) 2)) ((apD1 (cutC p0) 2)) ((apS2 (cutC p0) 2)) ((apD2 (cutC p0) 2)))).length < 9223372036854775808) then
  (bif (decide (((comS ((anyOpV (cutC p0) 0)) ((apS1 (cutC p0) 2)) ((apD1 (cutC p0) 2)) ((apS2 (cutC p0) 2)) ((apD2 (cutC p0) 2)))) = ((comS ((anyOpV (cutC p0) 0)) ((apS1 (cutC p0) 2)) ((apD1 (cutC p0) 2)) ((apS2 (cutC p0) 2)) ((apD2 (cutC p0) 2))))) && decide (((comD ((anyOpV (cutC p0) 0)) ((apS1 (cutC p0) 2)) ((apD1 (cutC p0) 2)) ((apS2 (cutC p0) 2)) ((apD2 (cutC p0) 2)))) = ((comD ((anyOpV (cutC p0) 0)) ((apS1 (cutC p0) 2)) ((apD1 (cutC p0) 2)) ((apS2 (cutC p0) 2)) ((apD2 (cutC p0) 2)))))) then
  some ([.one ((.bool ((comB ((anyOpV (cutC p0) 0)) ((apS1 (cutC p0) 2)) ((apD1 (cutC p0) 2)) ((apS2 (cutC p0) 2)) ((apD2 (cutC p0) 2))) == (comB ((anyOpV (cutC p0) 0)) ((apS1 (cutC p0) 2)) ((apD1 (cutC p0) 2)) ((apS2 (cutC p0) 2)) ((apD2 (cutC p0) 2))))), false)], [])
  else
  some ([.one ((.bool false), false)], []))
  else
  none)
  else
  (bif decide (((apS1 (cutC p0) 2)).length < 9223372036854775808) && decide (((apS2 (cutC p0) 2)).length < 9223372036854775808) then
  (bif (!(decide (((apS1 (cutC p0) 2)) = ((apS2 (cutC p0) 2))))) then
  (bif decide (((comS ((anyOpV (cutC p0) 0)) ((apS1 (cutC p0) 2)) ((apD1 (cutC p0) 2)) ((apS2 (cutC p0) 2)) ((apD2 (cutC p0) 2)))).length < 9223372036854775808) && decide (((comD ((anyOpV (cutC p0) 0)) ((apS1 (cutC p0) 2)) ((apD1 (cutC p0) 2)) ((apS2 (cutC p0) 2)) ((apD2 (cutC p0) 2)))).length < 9223372036854775808) && decide (((comS ((anyOpV (cutC p0) 0)) ((apS1 (cutC p0) 2)) ((apD1 (cutC p0) 2)) ((apS2 (cutC p0) 2)) ((apD2 (cutC p0) 2)))).length < 9223372036854775808) && decide (((comD ((anyOpV (cutC p0) 0)) ((apS1 (cutC p0) 2)) ((apD1 (cutC p0) 2)) ((apS2 (cutC p0) 2)) ((apD2 (cutC p0) 2)))).length < 9223372036854775808) then
  (bif (decide (((comS ((anyOpV (cutC p0) 0)) ((apS1 (cutC p0) 2)) ((apD1 (cutC p0) 2)) ((apS2 (cutC p0) 2)) ((apD2 (cutC p0) 2)))) = ((comS ((anyOpV (cutC p0) 0)) ((apS1 (cutC p0) 2)) ((apD1 (cutC p0) 2)) ((apS2 (cutC p0) 2)) ((apD2 (cutC p0) 2))))) && decide (((comD ((anyOpV (cutC p0) 0)) ((apS1 (cutC p0) 2)) ((apD1 (cutC p0) 2)) ((apS2 (cutC p0) 2)) ((apD2 (cutC p0) 2)))) = ((comD ((anyOpV (cutC p0) 0)) ((apS1 (cutC p0) 2)) ((apD1 (cutC p0) 2)) ((apS2 (cutC p0) 2)) ((apD2 (cutC p0) 2)))))) then
  some ([.one ((.bool ((comB ((anyOpV (cutC p0) 0)) ((apS1 (cutC p0) 2)) ((apD1 (cutC p0) 2)) ((apS2 (cutC p0) 2)) ((apD2 (cutC p0) 2))) == (comB ((anyOpV (cutC p0) 0)) ((apS1 (cutC p0) 2)) ((apD1 (cutC p0) 2)) ((apS2 (cutC p0) 2)) ((apD2 (cutC p0) 2))))), false)], [])
  else
  some ([.one ((.bool false), false)], []))
  else
  none)
  else
  (bif szB ((apS1 (cutC p0) 2)) && szB ((apS2 (cutC p0) 2)) && decide (((apD1 (cutC p0) 2)).length < 9223372036854775808) && decide (((apD2 (cutC p0) 2)).length < 9223372036854775808) then
  (bif decide (((stS ((apS1 (cutC p0) 2)) ((apD1 (cutC p0) 2)) ((apS2 (cutC p0) 2)) ((apD2 (cutC p0) 2)))).length < 9223372036854775808) && decide (((stD ((apS1 (cutC p0) 2)) ((apD1 (cutC p0) 2)) ((apS2 (cutC p0) 2)) ((apD2 (cutC p0) 2)))).length < 9223372036854775808) then
  (bif (!(stB ((apS1 (cutC p0) 2)) ((apD1 (cutC p0) 2)) ((apS2 (cutC p0) 2)) ((apD2 (cutC p0) 2)))) then
  some ([.one ((.bool true), false)], [])
  else
  (bif (rdxB ((anyOpV (cutC p0) 0)) ((stS ((apS1 (cutC p0) 2)) ((apD1 (cutC p0) 2)) ((apS2 (cutC p0) 2)) ((apD2 (cutC p0) 2)))) ((stD ((apS1 (cutC p0) 2)) ((apD1 (cutC p0) 2)) ((apS2 (cutC p0) 2)) ((apD2 (cutC p0) 2)))) 0) then
  (bif decide (((rdxS ((anyOpV (cutC p0) 0)) ((stS ((apS1 (cutC p0) 2)) ((apD1 (cutC p0) 2)) ((apS2 (cutC p0) 2)) ((apD2 (cutC p0) 2)))) ((stD ((apS1 (cutC p0) 2)) ((apD1 (cutC p0) 2)) ((apS2 (cutC p0) 2)) ((apD2 (cutC p0) 2)))) 0)).length < 9223372036854775808) && decide (((rdxD ((anyOpV (cutC p0) 0)) ((stS ((apS1 (cutC p0) 2)) ((apD1 (cutC p0) 2)) ((apS2 (cutC p0) 2)) ((apD2 (cutC p0) 2)))) ((stD ((apS1 (cutC p0) 2)) ((apD1 (cutC p0) 2)) ((apS2 (cutC p0) 2)) ((apD2 (cutC p0) 2)))) 0)).length < 9223372036854775808) && decide (((comS ((anyOpV (cutC p0) 0)) ((apS1 (cutC p0) 2)) ((apD1 (cutC p0) 2)) ((apS2 (cutC p0) 2)) ((apD2 (cutC p0) 2)))).length < 9223372036854775808) && decide (((comD ((anyOpV (cutC p0) 0)) ((apS1 (cutC p0) 2)) ((apD1 (cutC p0) 2)) ((apS2 (cutC p0) 2)) ((apD2 (cutC p0) 2)))).length < 9223372036854775808) then
  some ([.one ((.bool (decide (((rdxS ((anyOpV (cutC p0) 0)) ((stS ((apS1 (cutC p0) 2)) ((apD1 (cutC p0) 2)) ((apS2 (cutC p0) 2)) ((apD2 (cutC p0) 2)))) ((stD ((apS1 (cutC p0) 2)) ((apD1 (cutC p0) 2)) ((apS2 (cutC p0) 2)) ((apD2 (cutC p0) 2)))) 0)) = ((comS ((anyOpV (cutC p0) 0)) ((apS1 (cutC p0) 2)) ((apD1 (cutC p0) 2)) ((apS2 (cutC p0) 2)) ((apD2 (cutC p0) 2))))) && decide (((rdxD ((anyOpV (cutC p0) 0)) ((stS ((apS1 (cutC p0) 2)) ((apD1 (cutC p0) 2)) ((apS2 (cutC p0) 2)) ((apD2 (cutC p0) 2)))) ((stD ((apS1 (cutC p0) 2)) ((apD1 (cutC p0) 2)) ((apS2 (cutC p0) 2)) ((apD2 (cutC p0) 2)))) 0)) = ((comD ((anyOpV (cutC p0) 0)) ((apS1 (cutC p0) 2)) ((apD1 (cutC p0) 2)) ((apS2 (cutC p0) 2)) ((apD2 (cutC p0) 2))))))), false)], [])
  else
  none)
  else
  some ([.one ((.bool false), false)], [])))
  else
  none)
  else
  none))
  else
  none))))
  else
  none)
  else
  none)
  else
  none)
  else
  none)) := by kernel_rfl
end laws_FnReduceAxisCells
theorem laws_FnReduceAxisCells.ok_of (hX : ∀ E ∈ laws_FnReduceAxisCells.X, CallSpec Try.prog E) (h : ∀ (bs : List Int), (bytesB bs) = true → ∃ fuel, runF Try.prog laws_FnReduceAxisCells.X laws_FnReduceAxisCells.I 0 fuel 5 Try.f5 [.d (.ints .u8 bs)] = some ([.one ((.bool true), false)], [])) : CallSpec Try.prog laws_FnReduceAxisCells.E :=
  callSpec_of (d := 0) hX (by kernel_rfl) laws_FnReduceAxisCells.I_ok (by kernel_rfl) (by kernel_rfl) (by kernel_rfl) (fun _ _ _ _ h => by dsimp only [laws_FnReduceAxisCells.E] at h; cases h) (fun xs hp => by
    dsimp only [laws_FnReduceAxisCells.E] at hp ⊢
    split at hp
    · exact h _ hp
    · cases hp)
theorem laws_FnReduceAxisCells.ok : CallSpec Try.prog laws_FnReduceAxisCells.E := laws_FnReduceAxisCells.ok_of (by simp [laws_FnReduceAxisCells.X, spec_DrawCombine.ok, impl_Combine.ok, spec_Combine.ok, laws_equalArray.ok, laws_equalInts.ok, impl_StackArrays.ok, impl_ReduceAxis.ok]) fun bs h => by
  obtain ⟨F, hF⟩ : ∃ F : Nat, 4000 < F := ⟨4001, by omega⟩
  refine ⟨F, ?_⟩
  rw [laws_FnReduceAxisCells.e]
  by_cases hl : ((bs.length : Nat) : Int) > 1048576
  · rw [decide_eq_true hl]; rfl
  rw [decide_eq_false hl, cond_false, h, cond_true]
  have r0 := cut_ok h (p := 0) (by omega) (by omega)
  have hop := rd_le (q := 2) r0 (by omega) (by omega)
  obtain ⟨a1, a2, b1, b2, _, _⟩ := ap_bd hop (by omega)
  obtain ⟨op, hO⟩ : ∃ x, anyOpV (cutC bs) 0 = x := ⟨_, rfl⟩
  obtain ⟨sa, hsa⟩ : ∃ x, apS1 (cutC bs) 2 = x := ⟨_, rfl⟩
  obtain ⟨da, hda⟩ : ∃ x, apD1 (cutC bs) 2 = x := ⟨_, rfl⟩
  obtain ⟨sb, hsb⟩ : ∃ x, apS2 (cutC bs) 2 = x := ⟨_, rfl⟩
  obtain ⟨db, hdb⟩ : ∃ x, apD2 (cutC bs) 2 = x := ⟨_, rfl⟩
  rw [hsa] at a1
  rw [hda] at a2
  rw [hsb] at b1
  rw [hdb] at b2
  have g1 := lt_of (xs := sa) (by omega)
  have g2 := lt_of (xs := da) (by omega)
  have g3 := lt_of (xs := sb) (by omega)
  have g4 := lt_of (xs := db) (by omega)
  have y1 := szB_of (xs := sa) (by omega)
  have y2 := szB_of (xs := sb) (by omega)
  simp only [hO, hsa, hda, hsb, hdb]
  have cl := com_len op sa da sb db
  have h1 := lt_of (xs := comS op sa da sb db) (by omega)
  have h2 := lt_of (xs := comD op sa da sb db) (by omega)
  cases hc : comB op sa da sb db with
  | false =>
    simp only [Bool.and_self, Bool.and_true, Bool.true_and, cond_true, cond_false, Bool.not_true, Bool.not_false, bne_self_eq_false, beq_self_eq_true, decide_true, eq_self, g1, g2, g3, g4, h1, h2]
  | true =>
    by_cases he : sa = sb
    · cases hb : stB sa da sb db with
      | false =>
        have sl := st_len sa da sb db
        have k1 := lt_of (xs := stS sa da sb db) (by omega)
        have k2 := lt_of (xs := stD sa da sb db) (by omega)
        simp only [Bool.and_self, Bool.and_true, Bool.true_and, cond_true, cond_false, Bool.not_true, Bool.not_false, bne_self_eq_false, beq_self_eq_true, decide_true, eq_self, g1, g2, g3, g4, h1, h2, y1, y2, decide_eq_true he, k1, k2]
      | true =>
        have f := st_f hb
        obtain ⟨ho, _, _, _, _⟩ := com_inv hc
        have vb := f.vb
        rw [← he] at vb
        obtain ⟨_, m1, m2⟩ := com_same ho f.va vb
        have hx : axB (2 :: sa) (da ++ db) 0 = true := axB_of (k := 0) f.val (by simp)
        have hr : rdxB op (2 :: sa) (da ++ db) 0 = true := by
          have : (2 :: sa).eraseIdx (0 : Int).toNat = sa := rfl
          simp only [rdxB, ho, hx, this, (validA_inv f.va).1, Bool.and_self]
        have r1 : rdxS op (2 :: sa) (da ++ db) 0 = sa := by simp only [rdxS, hr, cond_true]; rfl
        have r2 : rdxD op (2 :: sa) (da ++ db) 0 = tab da.length fun i => operF op (da.getD i 0) (db.getD i 0) := by
          simp only [rdxD, hr, cond_true]
          exact st_lane op f.la f.lb
        have jl := validA_len f.val
        have g5 := lt_of (xs := 2 :: sa) (by omega)
        have g6 := lt_of (xs := da ++ db) (by omega)
        have s1 := f.s
        have s2 := f.d
        rw [← he] at s1 s2 hb g3 y2 h1 h2
        rw [← he, m1] at *
        rw [m2] at h2
        simp only [Bool.and_self, Bool.and_true, Bool.true_and, cond_true, cond_false, Bool.not_true, Bool.not_false, bne_self_eq_false, beq_self_eq_true, decide_true, eq_self, g1, g2, g4, g5, g6, h2, y1, hb, s1, s2, hr, r1, r2, m2]
    · simp only [Bool.and_self, Bool.and_true, Bool.true_and, cond_true, cond_false, Bool.not_true, Bool.not_false, bne_self_eq_false, beq_self_eq_true, decide_true, eq_self, g1, g2, g3, g4, h1, h2, decide_eq_false he]

namespace spec_DrawRepeatAxis
noncomputable def E : Entry := ⟨31, false, false, fun | [.d (.ints .u8 bs)] => bytesB bs | _ => false, fun | [.d (.ints .u8 bs)] => ([.agg [((.ints .i64 (aArS (cutC bs) 0)), false), ((.ints .i64 (aArD (cutC bs) 0)), false)], .one ((.int .i64 (dAx (cutC bs))), false), .one ((.ints .i64 (drT (cutC bs))), false)], []) | _ => ([], []), fun _ => [], true, fun _ => none⟩
end spec_DrawRepeatAxis
namespace spec_DrawRepeatAxis
noncomputable def X : List Entry := [spec_newReader.E, spec_anyArray.E, spec_anyAxis.E, spec_isAxis.E, spec_reader_one.E, spec_reader_spoil.E]
noncomputable def I : List Inl := [⟨31, Try.f31, ⟨[13, 42], [(1000006, [0, 1, 3, 4, 10, 11, 12, 13, 14, 15, 16, 17, 18, 19, 20, 21, 22, 23, 24, 25, 26, 27, 28, 29, 30, 31, 32, 33, 34, 35, 36, 37, 38, 39, 40, 41, 42])], [(9, [8, 6])], [], [34, 38], []⟩⟩]
theorem I_ok : ∀ i ∈ I, Try.prog.funcs[i.f]? = some i.fn ∧ (i.fn.name == "runtime.NumGoroutine") = false := by
  intro i hi
  simp only [I, List.mem_cons, List.not_mem_nil, or_false] at hi
  subst hi
  exact ⟨by kernel_rfl, by kernel_rfl⟩
noncomputable abbrev L0 (fuel n : Nat) (s : St) (k : Kont) := lAt Try.prog X I fuel true 0 false 31 (bodyOf Try.f31) [1, 1, 1, 1, 1, 0, 1, 0] n s k
noncomputable abbrev k0  (fuel : Nat) : Kont := (kAt Try.prog X I fuel true 0 false 31 (bodyOf Try.f31) [1, 1, 1, 1, 1, 0, 1, 0] [] (endK Try.prog Try.f31))
noncomputable def t0 (p0 : List Int) (x0q1 : Int) (x0q2 : List Int) (x0q3 : Int) (x0q6 : List Int) : St := ⟨[.dead, .dead, (.ptr 1000000000 0 0), .dead, .dead, (.ptr 1000000001 0 0), (.ptr 1000000002 0 0), (.imm (.int .i64 (aAx (((cutC p0))) ((aArP ((cutC p0)) 0)) ((aArS ((cutC p0)) 0))))), (.all 1000000003 1), (.imm (.int .i64 x0q1)), .dead, .dead, .dead, .dead, .dead, .dead, .dead, .dead, .dead, .dead, .dead, .dead, .dead, .dead, .dead, .dead, .dead, .dead, .dead, .dead, .dead, .dead, .dead, .dead, .dead, .dead, .dead, .dead, .dead, .dead, .dead, .dead, .dead], hOf [(1000000000, (.box [(.imm .nils), (.imm .nils)])), (1000000001, (.box [(.imm (.ints .u8 x0q2)), (.imm (.int .i64 x0q3))])), (1000000002, (.box [(.imm (.ints .i64 (aArS ((cutC p0)) 0))), (.imm (.ints .i64 (aArD ((cutC p0)) 0)))])), (1000000003, (.ints .i64 x0q6))], [], []⟩
theorem e (fuel : Nat) (p0 : List Int) : runF Try.prog X I 0 fuel 31 Try.f31 [.d (.ints .u8 p0)] =
  (bif rdOk ((cutC p0)) 0 && decide ((0 : Int) ≤ 1000000) then
  (bif rdOk (((cutC p0))) ((aArP ((cutC p0)) 0)) && decide ((((aArP ((cutC p0)) 0)) : Int) ≤ 2000000) && decide ((((aArS ((cutC p0)) 0)) : List Int).length ≤ 1000) then
  L0 fuel fuel (t0 p0 0 ((((cutC p0)))) ((aAxP ((aArP ((cutC p0)) 0)) ((aArS ((cutC p0)) 0)))) ([])) (k0  fuel)
  else
  none)
  else
  none) := by kernel_rfl
theorem s0 (fuel n0 : Nat) (p0 : List Int) (x0q1 : Int) (x0q2 : List Int) (x0q3 : Int) (x0q6 : List Int) : L0 fuel (n0 + 1) (t0 p0 x0q1 x0q2 x0q3 x0q6) (k0  fuel) =
  (bif decide (((aArS ((cutC p0)) 0)).length < 9223372036854775808) && decide (((aArD ((cutC p0)) 0)).length < 9223372036854775808) then
  (bif (axB ((aArS ((cutC p0)) 0)) ((aArD ((cutC p0)) 0)) ((aAx (((cutC p0))) ((aArP ((cutC p0)) 0)) ((aArS ((cutC p0)) 0))))) then
  (idx (aAx (((cutC p0))) ((aArP ((cutC p0)) 0)) ((aArS ((cutC p0)) 0))) (aArS ((cutC p0)) 0).length).bind fun j5 =>
  ((aArS ((cutC p0)) 0)[j5]?).bind fun v6 =>
  (bif (decide ((x0q1 : Int) < v6)) then
  (bif rdOk x0q2 x0q3 && decide (0 < ((([1, 0, 2, 1, 3] : List Int)) : List Int).length) && decide (((([1, 0, 2, 1, 3] : List Int)) : List Int).length ≤ 1048576) then
  (bif fits (x0q6.length + ([(oneV x0q2 x0q3 (([1, 0, 2, 1, 3] : List Int)))] : List Int).length) 8 then
  L0 fuel n0 (t0 p0 ((IntKind.wrap .i64 (x0q1 + 1))) x0q2 ((x0q3 + 1)) ((x0q6 ++ [(oneV x0q2 x0q3 (([1, 0, 2, 1, 3] : List Int)))]))) (k0  fuel)
  else
  none)
  else
  none)
  else
  (bif rdOk x0q2 x0q3 && decide ((x0q3 : Int) ≤ 2000000) && decide ((x0q6 : List Int).length ≤ 1000000) then
  some ([.agg [((.ints .i64 (aArS ((cutC p0)) 0)), false), ((.ints .i64 (aArD ((cutC p0)) 0)), false)], .one ((.int .i64 (aAx (((cutC p0))) ((aArP ((cutC p0)) 0)) ((aArS ((cutC p0)) 0)))), false), .one ((.ints .i64 (spV x0q2 x0q3 x0q6 61)), false)], [])
  else
  none))
  else
  (bif rdOk x0q2 x0q3 && decide ((x0q3 : Int) ≤ 2000000) && decide ((x0q6 : List Int).length ≤ 1000000) then
  some ([.agg [((.ints .i64 (aArS ((cutC p0)) 0)), false), ((.ints .i64 (aArD ((cutC p0)) 0)), false)], .one ((.int .i64 (aAx (((cutC p0))) ((aArP ((cutC p0)) 0)) ((aArS ((cutC p0)) 0)))), false), .one ((.ints .i64 (spV x0q2 x0q3 x0q6 61)), false)], [])
  else
  none))
  else
  none) := by kernel_rfl
end spec_DrawRepeatAxis
theorem spec_DrawRepeatAxis.ok_of (hX : ∀ E ∈ spec_DrawRepeatAxis.X, CallSpec Try.prog E) (h : ∀ (bs : List Int), (bytesB bs) = true → ∃ fuel, runF Try.prog spec_DrawRepeatAxis.X spec_DrawRepeatAxis.I 0 fuel 31 Try.f31 [.d (.ints .u8 bs)] = some ([.agg [((.ints .i64 (aArS (cutC bs) 0)), false), ((.ints .i64 (aArD (cutC bs) 0)), false)], .one ((.int .i64 (dAx (cutC bs))), false), .one ((.ints .i64 (drT (cutC bs))), false)], [])) : CallSpec Try.prog spec_DrawRepeatAxis.E :=
  callSpec_of (d := 0) hX (by kernel_rfl) spec_DrawRepeatAxis.I_ok (by kernel_rfl) (by kernel_rfl) (by kernel_rfl) (fun _ _ _ _ h => by dsimp only [spec_DrawRepeatAxis.E] at h; cases h) (fun xs hp => by
    dsimp only [spec_DrawRepeatAxis.E] at hp ⊢
    split at hp
    · exact h _ hp
    · cases hp)
theorem spec_DrawRepeatAxis.ok : CallSpec Try.prog spec_DrawRepeatAxis.E := spec_DrawRepeatAxis.ok_of (by simp [spec_DrawRepeatAxis.X, spec_newReader.ok, spec_anyArray.ok, spec_anyAxis.ok, spec_isAxis.ok, spec_reader_one.ok, spec_reader_spoil.ok]) fun bs h => by
  obtain ⟨F, hF⟩ : ∃ F : Nat, 1000 < F := ⟨1001, by omega⟩
  refine ⟨F, ?_⟩
  have r0 := cut_ok h (p := 0) (by omega) (by omega)
  obtain ⟨_, _, a1, a2, p1, p2⟩ := dj_bd r0
  obtain ⟨_, _, a3, a4⟩ := aAr_bd r0 (by omega)
  have hN := drN_bd (bs := cutC bs)
  have hlen : (dr0 (cutC bs)).length = drN (cutC bs) := tab_length _ _
  have e1 : aAxP (aArP (cutC bs) 0) (aArS (cutC bs) 0) = dAxP (cutC bs) := rfl
  have e2 : aAx (cutC bs) (aArP (cutC bs) 0) (aArS (cutC bs) 0) = dAx (cutC bs) := rfl
  have g1 := lt_of (xs := aArS (cutC bs) 0) (by omega)
  have g2 := lt_of (xs := aArD (cutC bs) 0) (by omega)
  rw [spec_DrawRepeatAxis.e, e1, r0, rd_le (q := aArP (cutC bs) 0) r0 (by omega) (by omega), decide_eq_true (p := aArP (cutC bs) 0 ≤ 2000000) (by omega), decide_eq_true (p := (aArS (cutC bs) 0).length ≤ 1000) (by omega)]
  show spec_DrawRepeatAxis.L0 F F _ _ = _
  refine run_loop (N := drN (cutC bs)) (fun n j (st : Int × List Int) => spec_DrawRepeatAxis.L0 F n (spec_DrawRepeatAxis.t0 bs (j : Int) (cutC bs) st.1 st.2) (spec_DrawRepeatAxis.k0 F)) (fun j st => st.1 = dAxP (cutC bs) + ((j : Nat) : Int) ∧ st.2 = (dr0 (cutC bs)).take j) ?_ ?_ F 0 (dAxP (cutC bs), []) (by omega) (by omega) ⟨by simp, by simp⟩
  · rintro n ⟨q, out⟩ ⟨e3, e4⟩
    simp only at e3 e4
    rw [← hlen, List.take_length] at e4
    subst e3
    subst e4
    have r1 := rd_le (q := dAxP (cutC bs) + ((drN (cutC bs) : Nat) : Int)) r0 (by omega) (by omega)
    dsimp only
    rw [spec_DrawRepeatAxis.s0, e2, g1, g2, r1, decide_eq_true (p := dAxP (cutC bs) + ((drN (cutC bs) : Nat) : Int) ≤ 2000000) (by omega), decide_eq_true (p := (dr0 (cutC bs)).length ≤ 1000000) (by omega)]
    cases hb : axB (aArS (cutC bs) 0) (aArD (cutC bs) 0) (dAx (cutC bs)) with
    | false => rfl
    | true =>
      obtain ⟨k, hk, hk2, hv, ax, hd, hl⟩ := axB_inv hb
      have hn : drN (cutC bs) = lenN (aArS (cutC bs) 0) k := by
        have hb2 := hb
        rw [hk] at hb2
        simp only [drN, djB1, hk, hb2, cond_true, lenK, Int.toNat_natCast]
      rw [hk, idx_nat hk2]
      simp only [Option.bind_some, getD_get hk2, ax.len]
      rw [← hk, decide_eq_false (by omega)]
      rfl
  · rintro n j ⟨q, out⟩ hj ⟨e3, e4⟩
    simp only at e3 e4
    subst e3
    have hol : out.length = j := by rw [e4, take_len (by omega)]
    have r1 := rd_le (q := dAxP (cutC bs) + ((j : Nat) : Int)) r0 (by omega) (by omega)
    cases hb : axB (aArS (cutC bs) 0) (aArD (cutC bs) 0) (dAx (cutC bs)) with
    | false =>
      have : drN (cutC bs) = 0 := by simp only [drN, djB1, hb, cond_false]
      omega
    | true =>
      obtain ⟨k, hk, hk2, hv, ax, hd, hl⟩ := axB_inv hb
      have hn : drN (cutC bs) = lenN (aArS (cutC bs) 0) k := by
        have hb2 := hb
        rw [hk] at hb2
        simp only [drN, djB1, hk, hb2, cond_true, lenK, Int.toNat_natCast]
      dsimp only
      rw [spec_DrawRepeatAxis.s0, e2, g1, g2, hb, hk, idx_nat hk2]
      simp only [Option.bind_some, getD_get hk2, ax.len, Bool.and_self, cond_true]
      rw [decide_eq_true (by omega), cond_true, r1, fitsOk (by simp only [List.length_cons, List.length_nil]; omega), w1 (by omega)]
      refine ⟨(dAxP (cutC bs) + ((j + 1 : Nat) : Int), out ++ [oneV (cutC bs) (dAxP (cutC bs) + ((j : Nat) : Int)) [1, 0, 2, 1, 3]]), ⟨rfl, ?_⟩, ?_⟩
      · simp only
        rw [e4]
        refine take_push (by omega) ?_
        simp only [dr0]
        rw [tab_getD hj]
      · dsimp only
        rw [show dAxP (cutC bs) + ((j + 1 : Nat) : Int) = dAxP (cutC bs) + ((j : Nat) : Int) + 1 by omega]
        rfl

namespace math_bits_Mul64
noncomputable def E : Entry := ⟨113, true, false, fun | [.d (.int .u64 x), .d (.int .u64 y)] => decide (0 ≤ x) && decide (x ≤ 60) && decide (0 ≤ y) && decide (y ≤ 60) | _ => false, fun | [.d (.int .u64 x), .d (.int .u64 y)] => ([.one ((.int .u64 0), false), .one ((.int .u64 (x * y)), false)], []) | _ => ([], []), fun _ => [], false, fun _ => none⟩
end math_bits_Mul64
namespace math_bits_Mul64
noncomputable def X : List Entry := []
noncomputable def I : List Inl := [⟨113, Try.f113, ⟨[], [], [], [], [], []⟩⟩]
theorem I_ok : ∀ i ∈ I, Try.prog.funcs[i.f]? = some i.fn ∧ (i.fn.name == "runtime.NumGoroutine") = false := by
  intro i hi
  simp only [I, List.mem_cons, List.not_mem_nil, or_false] at hi
  subst hi
  exact ⟨by kernel_rfl, by kernel_rfl⟩
theorem e (fuel : Nat) (p0 : Int) (p1 : Int) : runF Try.prog X I 0 fuel 113 Try.f113 [.d (.int .u64 p0), .d (.int .u64 p1)] =
  some ([.one ((.int .u64 (IntKind.wrap .u64 ((IntKind.wrap .u64 ((IntKind.wrap .u64 ((Int.fdiv p0 (2 ^ min (32 : Int).toNat (IntKind.bits .u64))) * (Int.fdiv p1 (2 ^ min (32 : Int).toNat (IntKind.bits .u64))))) + (Int.fdiv (IntKind.wrap .u64 ((IntKind.wrap .u64 ((Int.fdiv p0 (2 ^ min (32 : Int).toNat (IntKind.bits .u64))) * (IntKind.wrap .u64 ((BitVec.ofInt (IntKind.bits .u64) p1 &&& BitVec.ofInt (IntKind.bits .u64) 4294967295).toNat : Int)))) + (Int.fdiv (IntKind.wrap .u64 ((IntKind.wrap .u64 ((BitVec.ofInt (IntKind.bits .u64) p0 &&& BitVec.ofInt (IntKind.bits .u64) 4294967295).toNat : Int)) * (IntKind.wrap .u64 ((BitVec.ofInt (IntKind.bits .u64) p1 &&& BitVec.ofInt (IntKind.bits .u64) 4294967295).toNat : Int)))) (2 ^ min (32 : Int).toNat (IntKind.bits .u64))))) (2 ^ min (32 : Int).toNat (IntKind.bits .u64))))) + (Int.fdiv (IntKind.wrap .u64 ((IntKind.wrap .u64 ((BitVec.ofInt (IntKind.bits .u64) (IntKind.wrap .u64 ((IntKind.wrap .u64 ((Int.fdiv p0 (2 ^ min (32 : Int).toNat (IntKind.bits .u64))) * (IntKind.wrap .u64 ((BitVec.ofInt (IntKind.bits .u64) p1 &&& BitVec.ofInt (IntKind.bits .u64) 4294967295).toNat : Int)))) + (Int.fdiv (IntKind.wrap .u64 ((IntKind.wrap .u64 ((BitVec.ofInt (IntKind.bits .u64) p0 &&& BitVec.ofInt (IntKind.bits .u64) 4294967295).toNat : Int)) * (IntKind.wrap .u64 ((BitVec.ofInt (IntKind.bits .u64) p1 &&& BitVec.ofInt (IntKind.bits .u64) 4294967295).toNat : Int)))) (2 ^ min (32 : Int).toNat (IntKind.bits .u64))))) &&& BitVec.ofInt (IntKind.bits .u64) 4294967295).toNat : Int)) + (IntKind.wrap .u64 ((IntKind.wrap .u64 ((BitVec.ofInt (IntKind.bits .u64) p0 &&& BitVec.ofInt (IntKind.bits .u64) 4294967295).toNat : Int)) * (Int.fdiv p1 (2 ^ min (32 : Int).toNat (IntKind.bits .u64))))))) (2 ^ min (32 : Int).toNat (IntKind.bits .u64)))))), false), .one ((.int .u64 (IntKind.wrap .u64 (p0 * p1))), false)], []) := by kernel_rfl
end math_bits_Mul64
theorem math_bits_Mul64.ok_of (hX : ∀ E ∈ math_bits_Mul64.X, CallSpec Try.prog E) (h : ∀ (x : Int) (y : Int), (decide (0 ≤ x) && decide (x ≤ 60) && decide (0 ≤ y) && decide (y ≤ 60)) = true → ∃ fuel, runF Try.prog math_bits_Mul64.X math_bits_Mul64.I 0 fuel 113 Try.f113 [.d (.int .u64 x), .d (.int .u64 y)] = some ([.one ((.int .u64 0), false), .one ((.int .u64 (x * y)), false)], [])) : CallSpec Try.prog math_bits_Mul64.E :=
  callSpec_of (d := 0) hX (by kernel_rfl) math_bits_Mul64.I_ok (by kernel_rfl) (by kernel_rfl) (by kernel_rfl) (fun _ _ _ _ h => by dsimp only [math_bits_Mul64.E] at h; cases h) (fun xs hp => by
    dsimp only [math_bits_Mul64.E] at hp ⊢
    split at hp
    · exact h _ _ hp
    · cases hp)
theorem mul_and_fin : ∀ a : Fin 61, IntKind.wrap .u64 ((BitVec.ofInt (IntKind.bits .u64) ((a.1 : Nat) : Int) &&& BitVec.ofInt (IntKind.bits .u64) 4294967295).toNat : Int) = ((a.1 : Nat) : Int) := by decide +kernel
theorem mul_and {n : Nat} (h : n ≤ 60) : IntKind.wrap .u64 ((BitVec.ofInt (IntKind.bits .u64) (n : Int) &&& BitVec.ofInt (IntKind.bits .u64) 4294967295).toNat : Int) = (n : Int) := mul_and_fin ⟨n, by omega⟩
theorem mul_shr {n : Nat} (h : n < 4294967296) : Int.fdiv (n : Int) (2 ^ min (32 : Int).toNat (IntKind.bits .u64)) = 0 := by
  have : Int.fdiv (n : Int) (2 ^ min (32 : Int).toNat (IntKind.bits .u64)) = ((n / 4294967296 : Nat) : Int) := fdivN n 4294967296
  rw [this]
  have : n / 4294967296 = 0 := Nat.div_eq_of_lt h
  omega
theorem math_bits_Mul64.ok : CallSpec Try.prog math_bits_Mul64.E := math_bits_Mul64.ok_of (by simp [math_bits_Mul64.X]) fun x y h => ⟨0, by
  simp only [Bool.and_eq_true, decide_eq_true_eq] at h
  obtain ⟨a, rfl⟩ : ∃ n : Nat, x = n := ⟨x.toNat, by omega⟩
  obtain ⟨b, rfl⟩ : ∃ n : Nat, y = n := ⟨y.toNat, by omega⟩
  have ha : a ≤ 60 := by omega
  have hb : b ≤ 60 := by omega
  have hab : a * b ≤ 60 * 60 := Nat.mul_le_mul ha hb
  have e : ((a : Int) * (b : Int)) = ((a * b : Nat) : Int) := by rw [Int.natCast_mul]
  have z0 : IntKind.wrap .u64 0 = 0 := rfl
  have z1 : Int.fdiv 0 (2 ^ min (32 : Int).toNat (IntKind.bits .u64)) = 0 := mul_shr (n := 0) (by omega)
  have z2 : IntKind.wrap .u64 ((BitVec.ofInt (IntKind.bits .u64) 0 &&& BitVec.ofInt (IntKind.bits .u64) 4294967295).toNat : Int) = 0 := mul_and (n := 0) (by omega)
  rw [math_bits_Mul64.e, mul_and ha, mul_and hb, mul_shr (n := a) (by omega), mul_shr (n := b) (by omega), e, wU0 (by omega), mul_shr (n := a * b) (by omega)]
  simp only [Int.zero_mul, Int.mul_zero, Int.add_zero, z0, z1, z2]⟩

namespace math_bits_Mul
noncomputable def E : Entry := ⟨106, true, false, fun | [.d (.int .u64 x), .d (.int .u64 y)] => decide (0 ≤ x) && decide (x ≤ 60) && decide (0 ≤ y) && decide (y ≤ 60) | _ => false, fun | [.d (.int .u64 x), .d (.int .u64 y)] => ([.one ((.int .u64 0), false), .one ((.int .u64 (x * y)), false)], []) | _ => ([], []), fun _ => [], false, fun _ => none⟩
end math_bits_Mul
namespace math_bits_Mul
noncomputable def X : List Entry := [math_bits_Mul64.E]
noncomputable def I : List Inl := [⟨106, Try.f106, ⟨[], [(1, [2, 3, 4, 5, 6, 7, 8, 9, 10, 11, 12, 13, 14, 15, 16, 17, 18, 19, 20, 21, 22, 23, 24, 25, 26, 27, 28, 29])], [], [], [], []⟩⟩]
theorem I_ok : ∀ i ∈ I, Try.prog.funcs[i.f]? = some i.fn ∧ (i.fn.name == "runtime.NumGoroutine") = false := by
  intro i hi
  simp only [I, List.mem_cons, List.not_mem_nil, or_false] at hi
  subst hi
  exact ⟨by kernel_rfl, by kernel_rfl⟩
theorem e (fuel : Nat) (p0 : Int) (p1 : Int) : runF Try.prog X I 0 fuel 106 Try.f106 [.d (.int .u64 p0), .d (.int .u64 p1)] =
  (bif decide (0 ≤ p0) && decide (p0 ≤ 60) && decide (0 ≤ p1) && decide (p1 ≤ 60) then
  some ([.one ((.int .u64 0), false), .one ((.int .u64 (p0 * p1)), false)], [])
  else
  none) := by kernel_rfl
end math_bits_Mul
theorem math_bits_Mul.ok_of (hX : ∀ E ∈ math_bits_Mul.X, CallSpec Try.prog E) (h : ∀ (x : Int) (y : Int), (decide (0 ≤ x) && decide (x ≤ 60) && decide (0 ≤ y) && decide (y ≤ 60)) = true → ∃ fuel, runF Try.prog math_bits_Mul.X math_bits_Mul.I 0 fuel 106 Try.f106 [.d (.int .u64 x), .d (.int .u64 y)] = some ([.one ((.int .u64 0), false), .one ((.int .u64 (x * y)), false)], [])) : CallSpec Try.prog math_bits_Mul.E :=
  callSpec_of (d := 0) hX (by kernel_rfl) math_bits_Mul.I_ok (by kernel_rfl) (by kernel_rfl) (by kernel_rfl) (fun _ _ _ _ h => by dsimp only [math_bits_Mul.E] at h; cases h) (fun xs hp => by
    dsimp only [math_bits_Mul.E] at hp ⊢
    split at hp
    · exact h _ _ hp
    · cases hp)
theorem math_bits_Mul.ok : CallSpec Try.prog math_bits_Mul.E := math_bits_Mul.ok_of (by simp [math_bits_Mul.X, math_bits_Mul64.ok]) fun x y h => ⟨0, by
  rw [math_bits_Mul.e, h]
  rfl⟩

namespace slices_Repeat_int_int
noncomputable def E : Entry := ⟨81, false, false, fun | [.d (.ints .i64 xs), .d (.int .i64 n)] => decide ((xs : List Int).length = 1) && decide (0 ≤ n) && decide (n ≤ 60) | _ => false, fun | [.d (.ints .i64 xs), .d (.int .i64 n)] => ([.one ((.ints .i64 (List.replicate n.toNat (xs.getD 0 0))), true)], []) | _ => ([], []), fun _ => [], true, fun _ => none⟩
end slices_Repeat_int_int
namespace slices_Repeat_int_int
noncomputable def X : List Entry := [math_bits_Mul.E]
noncomputable def I : List Inl := [⟨81, Try.f81, ⟨[], [(1000008, [0, 1, 2, 3, 4, 5, 6, 9, 10, 11, 12, 13, 14, 15, 16, 17, 18, 19, 20, 21, 22, 23, 24, 25, 26, 27, 28, 29, 30, 31, 32, 33, 34, 35, 36, 37, 38, 39, 40, 41, 42, 43, 44, 45, 46, 47])], [], [(9, [0, 1, 2, 4, 5, 3, 6, 7, 8, 9])], [], []⟩⟩]
theorem I_ok : ∀ i ∈ I, Try.prog.funcs[i.f]? = some i.fn ∧ (i.fn.name == "runtime.NumGoroutine") = false := by
  intro i hi
  simp only [I, List.mem_cons, List.not_mem_nil, or_false] at hi
  subst hi
  exact ⟨by kernel_rfl, by kernel_rfl⟩
noncomputable abbrev L0 (fuel n : Nat) (s : St) (k : Kont) := lAt Try.prog X I fuel true 0 false 81 (bodyOf Try.f81) [1, 1, 1, 1, 1, 1, 0, 0] n s k
noncomputable abbrev k0  (fuel : Nat) : Kont := (kAt Try.prog X I fuel true 0 false 81 (bodyOf Try.f81) [1, 1, 1, 1, 1, 1, 0, 0] [] (endK Try.prog Try.f81))
noncomputable def t0 (x0q0 : Int) (x0q1 : List Int) : St := ⟨[.dead, .dead, .dead, .dead, .dead, .dead, .dead, (.all 1000000000 1), (.imm (.int .i64 x0q0)), .dead, .dead, .dead, .dead, .dead, .dead, .dead, .dead, .dead, .dead, .dead, .dead, .dead, .dead, .dead, .dead, .dead, .dead, .dead, .dead, .dead, .dead, .dead, .dead, .dead, .dead, .dead, .dead, .dead, .dead, .dead, .dead, .dead, .dead, .dead, .dead, .dead, .dead, .dead], hOf [(1000000000, (.ints .i64 x0q1))], [], []⟩
theorem e (fuel : Nat) (p0 : List Int) (p1 : Int) : runF Try.prog X I 0 fuel 81 Try.f81 [.d (.ints .i64 p0), .d (.int .i64 p1)] =
  (bif (decide ((p1 : Int) < 0)) then
  none
  else
  (bif decide (0 ≤ ((IntKind.wrap .u64 ((p0.length : Nat) : Int)))) && decide (((IntKind.wrap .u64 ((p0.length : Nat) : Int))) ≤ 60) && decide (0 ≤ ((IntKind.wrap .u64 p1))) && decide (((IntKind.wrap .u64 p1)) ≤ 60) then
  (bif (decide ((0 : Int) > 0)) then
  none
  else
  (bif (decide (((((IntKind.wrap .u64 ((p0.length : Nat) : Int))) * ((IntKind.wrap .u64 p1))) : Int) > 9223372036854775807)) then
  none
  else
  (bif decide (0 ≤ ((IntKind.wrap .i64 (((IntKind.wrap .u64 ((p0.length : Nat) : Int))) * ((IntKind.wrap .u64 p1)))) : Int)) && decide (((IntKind.wrap .i64 (((IntKind.wrap .u64 ((p0.length : Nat) : Int))) * ((IntKind.wrap .u64 p1)))) : Int) ≤ (IntKind.wrap .i64 (((IntKind.wrap .u64 ((p0.length : Nat) : Int))) * ((IntKind.wrap .u64 p1))))) && decide (((IntKind.wrap .i64 (((IntKind.wrap .u64 ((p0.length : Nat) : Int))) * ((IntKind.wrap .u64 p1)))) : Int) ≤ 1152921504606846976) && decide (((8 : Nat) : Int) * (IntKind.wrap .i64 (((IntKind.wrap .u64 ((p0.length : Nat) : Int))) * ((IntKind.wrap .u64 p1)))) ≤ 281474976710656) then
  L0 fuel fuel (t0 (((min p0.length (List.replicate ((IntKind.wrap .i64 (((IntKind.wrap .u64 ((p0.length : Nat) : Int))) * ((IntKind.wrap .u64 p1))))).toNat (0 : Int)).length : Nat) : Int)) ((copyL (List.replicate ((IntKind.wrap .i64 (((IntKind.wrap .u64 ((p0.length : Nat) : Int))) * ((IntKind.wrap .u64 p1))))).toNat (0 : Int)) 0 (List.replicate ((IntKind.wrap .i64 (((IntKind.wrap .u64 ((p0.length : Nat) : Int))) * ((IntKind.wrap .u64 p1))))).toNat (0 : Int)).length p0))) (k0  fuel)
  else
  none)))
  else
  none)) := by kernel_rfl
theorem s0 (fuel n0 : Nat) (x0q0 : Int) (x0q1 : List Int) : L0 fuel (n0 + 1) (t0 x0q0 x0q1) (k0  fuel) =
  (bif (decide ((x0q0 : Int) < ((x0q1.length : Nat) : Int))) then
  (cutEnds x0q1.length (some (.imm (.int .i64 x0q0))) (none)).bind fun cq5 =>
  (cutEnds x0q1.length (none) (some (.imm (.int .i64 x0q0)))).bind fun cq6 =>
  (bif decide (cq6.1 + (cq6.2 - cq6.1) ≤ x0q1.length) then
  (bif decide (cq5.1 + (cq5.2 - cq5.1) ≤ x0q1.length) then
  L0 fuel n0 (t0 ((IntKind.wrap .i64 (x0q0 + ((min ((x0q1.drop cq6.1).take ((cq6.2 - cq6.1))).length ((cq5.2 - cq5.1)) : Nat) : Int)))) ((copyL x0q1 cq5.1 ((cq5.2 - cq5.1)) ((x0q1.drop cq6.1).take ((cq6.2 - cq6.1)))))) (k0  fuel)
  else
  none)
  else
  none)
  else
  some ([.one ((.ints .i64 x0q1), true)], [])) := by kernel_rfl
end slices_Repeat_int_int
theorem slices_Repeat_int_int.ok_of (hX : ∀ E ∈ slices_Repeat_int_int.X, CallSpec Try.prog E) (h : ∀ (xs : List Int) (n : Int), (decide ((xs : List Int).length = 1) && decide (0 ≤ n) && decide (n ≤ 60)) = true → ∃ fuel, runF Try.prog slices_Repeat_int_int.X slices_Repeat_int_int.I 0 fuel 81 Try.f81 [.d (.ints .i64 xs), .d (.int .i64 n)] = some ([.one ((.ints .i64 (List.replicate n.toNat (xs.getD 0 0))), true)], [])) : CallSpec Try.prog slices_Repeat_int_int.E :=
  callSpec_of (d := 0) hX (by kernel_rfl) slices_Repeat_int_int.I_ok (by kernel_rfl) (by kernel_rfl) (by kernel_rfl) (fun _ _ _ _ h => by dsimp only [slices_Repeat_int_int.E] at h; cases h) (fun xs hp => by
    dsimp only [slices_Repeat_int_int.E] at hp ⊢
    split at hp
    · exact h _ _ hp
    · cases hp)
theorem rep_step {N m : Nat} {v : Int} (h1 : m ≤ N) : copyL (List.replicate m v ++ List.replicate (N - m) 0) m (N - m) (List.replicate m v) = List.replicate (m + min m (N - m)) v ++ List.replicate (N - (m + min m (N - m))) 0 := by
  have e1 : min (List.replicate m v).length (N - m) = min m (N - m) := by simp
  unfold copyL spl
  rw [e1, List.take_left' (by simp), List.take_replicate, List.length_replicate, Nat.min_eq_left (Nat.min_le_left _ _), List.replicate_append_replicate]
  congr 1
  rw [List.drop_append, List.drop_eq_nil_of_le (by simp), List.nil_append, List.length_replicate, List.drop_replicate]
  congr 1
  omega
theorem slices_Repeat_int_int.loop (fuel N : Nat) (v : Int) (hN : N ≤ 60) : ∀ (f m : Nat), 1 ≤ m → m ≤ N → N - m < f →
    slices_Repeat_int_int.L0 fuel f (slices_Repeat_int_int.t0 (m : Int) (List.replicate m v ++ List.replicate (N - m) 0)) (slices_Repeat_int_int.k0 fuel) = some ([.one ((.ints .i64 (List.replicate N v)), true)], []) := by
  intro f
  induction f with
  | zero => intro m _ _ h; omega
  | succ f ih =>
    intro m h1 h2 h3
    have hl : (List.replicate m v ++ List.replicate (N - m) 0).length = N := by simp; omega
    rw [slices_Repeat_int_int.s0, hl]
    by_cases hm : m < N
    · have et : ((List.replicate m v ++ List.replicate (N - m) 0).drop 0).take (m - 0) = List.replicate m v := by
        rw [List.drop_zero, Nat.sub_zero, List.take_left' (by simp)]
      rw [dlt hm, cond_true, cut_lo (by omega), cut_hi (by omega)]
      simp only [Option.bind_some]
      rw [decide_eq_true (p := 0 + (m - 0) ≤ N) (by omega), decide_eq_true (p := m + (N - m) ≤ N) (by omega), cond_true, cond_true, et, rep_step (by omega), List.length_replicate, wAdd (by omega)]
      exact ih (m + min m (N - m)) (by omega) (by omega) (by omega)
    · obtain rfl : m = N := by omega
      rw [dge hm, cond_false, Nat.sub_self]
      simp
theorem slices_Repeat_int_int.ok : CallSpec Try.prog slices_Repeat_int_int.E := slices_Repeat_int_int.ok_of (by simp [slices_Repeat_int_int.X, math_bits_Mul.ok]) fun xs n h => by
  obtain ⟨F, hF⟩ : ∃ F : Nat, 100 < F := ⟨101, by omega⟩
  refine ⟨F, ?_⟩
  simp only [Bool.and_eq_true, decide_eq_true_eq] at h
  obtain ⟨N, rfl⟩ : ∃ N : Nat, n = N := ⟨n.toNat, by omega⟩
  obtain ⟨v, rfl⟩ : ∃ v, xs = [v] := by
    match xs, h.1.1 with
    | [v], _ => exact ⟨v, rfl⟩
  have hN : N ≤ 60 := by omega
  have eN : IntKind.wrap .u64 ((N : Nat) : Int) = ((N : Nat) : Int) := wU0 (by omega)
  have e1 : IntKind.wrap .u64 (((([v] : List Int).length : Nat) : Int)) = 1 := rfl
  rw [slices_Repeat_int_int.e, e1, eN, Int.one_mul, wN (by omega), mkOk (by omega) (by omega), decide_eq_false (p := (N : Int) < 0) (by omega), decide_eq_true (p := (0 : Int) ≤ ((N : Nat) : Int)) (by omega), decide_eq_true (p := ((N : Nat) : Int) ≤ 60) (by omega), decide_eq_false (p := ((N : Nat) : Int) > 9223372036854775807) (by omega), Int.toNat_natCast, List.length_replicate]
  show slices_Repeat_int_int.L0 F F (slices_Repeat_int_int.t0 _ _) (slices_Repeat_int_int.k0 F) = _
  by_cases h0 : N = 0
  · subst h0
    obtain ⟨f, rfl⟩ : ∃ f, F = f + 1 := ⟨F - 1, by omega⟩
    rw [slices_Repeat_int_int.s0]
    rfl
  · have e2 : copyL (List.replicate N (0 : Int)) 0 N [v] = List.replicate 1 v ++ List.replicate (N - 1) 0 := by
      obtain ⟨M, rfl⟩ : ∃ M, N = M + 1 := ⟨N - 1, by omega⟩
      unfold copyL spl
      rw [show min ([v] : List Int).length (M + 1) = 1 by simp]
      simp
    have e3 : min ([v] : List Int).length N = 1 := by simp; omega
    rw [e2, e3]
    exact slices_Repeat_int_int.loop F N v hN F 1 (by omega) (by omega) (by omega)

namespace impl_withPlaces_1
noncomputable def E : Entry := ⟨107, true, false, fun | [.d (.int .i64 i), .d (.pbox [(.ints .i64 ls)])] => lsB ls i | _ => false, fun | [.d (.int .i64 i), .d (.pbox [(.ints .i64 ls)])] => ([.one ((.int .i64 (lsI ls i)), false)], []) | _ => ([], []), fun _ => [], false, fun | [(.pbox [(.ints .i64 ls)])] => some (false, (lsQ ls), (q1v (lsI ls))) | _ => none⟩
end impl_withPlaces_1
namespace impl_withPlaces_1
noncomputable def X : List Entry := []
noncomputable def I : List Inl := [⟨107, Try.f107, ⟨[], [], [], [], [], []⟩⟩]
theorem I_ok : ∀ i ∈ I, Try.prog.funcs[i.f]? = some i.fn ∧ (i.fn.name == "runtime.NumGoroutine") = false := by
  intro i hi
  simp only [I, List.mem_cons, List.not_mem_nil, or_false] at hi
  subst hi
  exact ⟨by kernel_rfl, by kernel_rfl⟩
theorem e (fuel : Nat) (p0 : Int) (f0q0 : List Int) : runF Try.prog X I 0 fuel 107 Try.f107 [.d (.int .i64 p0), .d (.pbox [(.ints .i64 f0q0)])] =
  (idx p0 f0q0.length).bind fun j1 =>
  (f0q0[j1]?).bind fun v2 =>
  some ([.one ((.int .i64 v2), false)], []) := by kernel_rfl
end impl_withPlaces_1
theorem impl_withPlaces_1.ok_of (hX : ∀ E ∈ impl_withPlaces_1.X, CallSpec Try.prog E) (hfn : ∀ ds rb dom G, impl_withPlaces_1.E.fnOf ds = some (rb, dom, G) → ∀ qs, dom qs = true → impl_withPlaces_1.E.m ((qs.map fun q => .d q.d) ++ ds.map .d) = some ([.one (fnD rb (G qs), false)], [])) (h : ∀ (i : Int) (ls : List Int), (lsB ls i) = true → ∃ fuel, runF Try.prog impl_withPlaces_1.X impl_withPlaces_1.I 0 fuel 107 Try.f107 [.d (.int .i64 i), .d (.pbox [(.ints .i64 ls)])] = some ([.one ((.int .i64 (lsI ls i)), false)], [])) : CallSpec Try.prog impl_withPlaces_1.E :=
  callSpec_of (d := 0) hX (by kernel_rfl) impl_withPlaces_1.I_ok (by kernel_rfl) (by kernel_rfl) (by kernel_rfl) hfn (fun xs hp => by
    dsimp only [impl_withPlaces_1.E] at hp ⊢
    split at hp
    · exact h _ _ hp
    · cases hp)
theorem impl_withPlaces_1.ok : CallSpec Try.prog impl_withPlaces_1.E := impl_withPlaces_1.ok_of (by simp [impl_withPlaces_1.X]) (fun ds rb dom G h qs hq => by
  dsimp only [impl_withPlaces_1.E] at h
  split at h
  case h_2 => cases h
  cases h
  match qs, hq with
  | [.i n], hq =>
    simp only [lsQ] at hq
    simp only [impl_withPlaces_1.E, Entry.m, List.map, List.cons_append, List.nil_append, Q.d, hq, cond_true, if_true]
    rfl) fun i ls h => ⟨0, by
  simp only [lsB, Bool.and_eq_true, decide_eq_true_eq] at h
  obtain ⟨j, rfl⟩ : ∃ j : Nat, i = j := ⟨i.toNat, by omega⟩
  have hj : j < ls.length := by omega
  rw [impl_withPlaces_1.e, idx_nat hj]
  simp only [Option.bind_some, getD_get hj, lsI, Int.toNat_natCast]⟩

end Go.Ab
