import Derived.Test.YtmonjjdcebboiacEc1
import Derived.Test.YtmonjjdcebboiacProg
import Derived.Test.YtmonjjdcebboiacChecked
open Go Go.Ab Go.Proofs
set_option maxRecDepth 100000
set_option linter.unusedVariables false
set_option linter.unusedSimpArgs false
namespace Go.Ab
namespace spec_around
noncomputable def E : Entry := ⟨113, true, false, fun | [.d (.ints .i64 sh), .d (.int .i64 k)] => validS sh && axOk sh k | _ => false, fun | [.d (.ints .i64 sh), .d (.int .i64 k)] => ([.one ((.int .i64 ((befN sh k.toNat : Nat) : Int)), false), .one ((.int .i64 ((behN sh k.toNat : Nat) : Int)), false)], []) | _ => ([], []), fun _ => [], false, fun _ => none⟩
end spec_around
namespace spec_around
noncomputable def X : List Entry := [spec_volume.E]
noncomputable def I : List Inl := [⟨113, Try.f113, ⟨[], [], [], [(1, [0, 1, 4, 5, 6, 2, 3, 7, 8, 9, 10])], [], []⟩⟩]
theorem I_ok : ∀ i ∈ I, Try.prog.funcs[i.f]? = some i.fn ∧ (i.fn.name == "runtime.NumGoroutine") = false := by
  intro i hi
  simp only [I, List.mem_cons, List.not_mem_nil, or_false] at hi
  subst hi
  exact ⟨by kernel_rfl, by kernel_rfl⟩
theorem e (fuel : Nat) (p0 : List Int) (p1 : Int) : runF Try.prog X I 0 fuel 113 Try.f113 [.d (.ints .i64 p0), .d (.int .i64 p1)] =
  (cutEnds p0.length (none) (some (.imm (.int .i64 p1)))).bind fun cq1 =>
  (bif decide ((((p0.drop cq1.1).take (cq1.2 - cq1.1))).length < 9223372036854775808) then
  (cutEnds p0.length (some (.imm (.int .i64 (IntKind.wrap .i64 (p1 + 1))))) (none)).bind fun cq2 =>
  (bif decide ((((p0.drop cq2.1).take (cq2.2 - cq2.1))).length < 9223372036854775808) then
  some ([.one ((.int .i64 (volW (((p0.drop cq1.1).take (cq1.2 - cq1.1))))), false), .one ((.int .i64 (volW (((p0.drop cq2.1).take (cq2.2 - cq2.1))))), false)], [])
  else
  none)
  else
  none) := by kernel_rfl
end spec_around
theorem spec_around.ok_of (hX : ∀ E ∈ spec_around.X, CallSpec Try.prog E) (h : ∀ (sh : List Int) (k : Int), (validS sh && axOk sh k) = true → ∃ fuel, runF Try.prog spec_around.X spec_around.I 0 fuel 113 Try.f113 [.d (.ints .i64 sh), .d (.int .i64 k)] = some ([.one ((.int .i64 ((befN sh k.toNat : Nat) : Int)), false), .one ((.int .i64 ((behN sh k.toNat : Nat) : Int)), false)], [])) : CallSpec Try.prog spec_around.E :=
  callSpec_of (d := 0) hX (by kernel_rfl) spec_around.I_ok (by kernel_rfl) (by kernel_rfl) (by kernel_rfl) (fun _ _ _ _ h => by dsimp only [spec_around.E] at h; cases h) (fun xs hp => by
    dsimp only [spec_around.E] at hp ⊢
    split at hp
    · exact h _ _ hp
    · cases hp)
theorem spec_around.ok : CallSpec Try.prog spec_around.E := spec_around.ok_of (by simp [spec_around.X, spec_volume.ok]) fun sh k h => ⟨0, by
  rw [spec_around.e]
  simp only [Bool.and_eq_true] at h
  obtain ⟨e1, e2⟩ := axOk_nat h.2
  have ax := ax_of h.1 e2
  have hr := ax.rank
  generalize k.toNat = j at *
  subst e1
  rw [cut_hi (by omega), w1 (by omega), cut_lo (by omega)]
  simp only [Option.bind_some, List.drop_zero, Nat.sub_zero, drop_take]
  rw [lt_of (by simp; omega), lt_of (by simp; omega), ax.bef, ax.beh]
  rfl⟩

namespace spec_lane
noncomputable def E : Entry := ⟨106, false, false, fun | [.d (.agg [(.ints .i64 sh), (.ints .i64 da)]), .d (.int .i64 k), .d (.int .i64 i), .d (.int .i64 m)] => axB sh da k && laneB sh k i m | _ => false, fun | [.d (.agg [(.ints .i64 sh), (.ints .i64 da)]), .d (.int .i64 k), .d (.int .i64 i), .d (.int .i64 m)] => ([.one ((.ints .i64 (lnK sh da k (Int.toNat i) (Int.toNat m))), true)], []) | _ => ([], []), fun _ => [], true, fun _ => none⟩
end spec_lane
namespace spec_lane
noncomputable def X : List Entry := [spec_around.E]
noncomputable def I : List Inl := [⟨106, Try.f106, ⟨[], [(1000004, [0, 5, 6, 7, 8, 10, 13, 14, 15, 16, 17, 18, 19, 20, 21, 22, 23, 24, 25, 26, 27, 28, 29, 30, 31, 32, 33, 34, 35, 36, 37, 38, 39, 40, 41, 42, 43, 44, 45, 46, 47, 48, 49, 50])], [], [(6, [0, 1, 3, 4, 6, 10, 12, 14, 2, 5, 7, 8, 9, 11, 13, 15, 16, 17, 18, 19, 20])], [], []⟩⟩]
theorem I_ok : ∀ i ∈ I, Try.prog.funcs[i.f]? = some i.fn ∧ (i.fn.name == "runtime.NumGoroutine") = false := by
  intro i hi
  simp only [I, List.mem_cons, List.not_mem_nil, or_false] at hi
  subst hi
  exact ⟨by kernel_rfl, by kernel_rfl⟩
noncomputable abbrev L0 (fuel n : Nat) (s : St) (k : Kont) := lAt Try.prog X I fuel true 0 false 106 (bodyOf Try.f106) [1, 1, 1, 0, 1, 0] n s k
noncomputable abbrev k0  (fuel : Nat) : Kont := (kAt Try.prog X I fuel true 0 false 106 (bodyOf Try.f106) [1, 1, 1, 0, 1, 0] [] (endK Try.prog Try.f106))
noncomputable def t0 (p1 : Int) (p2 : Int) (p3 : Int) (p0q0 : List Int) (p0q1 : List Int) (x0q4 : Int) (x0q7 : List Int) : St := ⟨[.dead, (.imm (.int .i64 p1)), (.imm (.int .i64 p2)), (.imm (.int .i64 p3)), (.ptr 1000000000 0 0), .dead, .dead, .dead, .dead, (.all 1000000001 1), .dead, (.imm (.int .i64 ((behN p0q0 p1.toNat : Nat) : Int))), (.imm (.int .i64 x0q4)), .dead, .dead, .dead, .dead, .dead, .dead, .dead, .dead, .dead, .dead, .dead, .dead, .dead, .dead, .dead, .dead, .dead, .dead, .dead, .dead, .dead, .dead, .dead, .dead, .dead, .dead, .dead, .dead, .dead, .dead, .dead, .dead, .dead, .dead, .dead, .dead, .dead, .dead], hOf [(1000000000, (.box [(.imm (.ints .i64 p0q0)), (.imm (.ints .i64 p0q1))])), (1000000001, (.ints .i64 x0q7))], [], []⟩
theorem e (fuel : Nat) (p0q0 : List Int) (p0q1 : List Int) (p1 : Int) (p2 : Int) (p3 : Int) : runF Try.prog X I 0 fuel 106 Try.f106 [.d (.agg [(.ints .i64 p0q0), (.ints .i64 p0q1)]), .d (.int .i64 p1), .d (.int .i64 p2), .d (.int .i64 p3)] =
  (bif validS p0q0 && axOk p0q0 p1 then
  L0 fuel fuel (t0 p1 p2 p3 p0q0 p0q1 0 ([])) (k0  fuel)
  else
  none) := by kernel_rfl
theorem s0 (fuel n0 : Nat) (p1 : Int) (p2 : Int) (p3 : Int) (p0q0 : List Int) (p0q1 : List Int) (x0q4 : Int) (x0q7 : List Int) : L0 fuel (n0 + 1) (t0 p1 p2 p3 p0q0 p0q1 x0q4 x0q7) (k0  fuel) =
  (idx p1 p0q0.length).bind fun j13 =>
  (p0q0[j13]?).bind fun v14 =>
  (bif (decide ((x0q4 : Int) < v14)) then
  (idx p1 p0q0.length).bind fun j15 =>
  (p0q0[j15]?).bind fun v16 =>
  (idx (IntKind.wrap .i64 ((IntKind.wrap .i64 ((IntKind.wrap .i64 ((IntKind.wrap .i64 (p2 * v16)) + x0q4)) * ((behN p0q0 p1.toNat : Nat) : Int))) + p3)) p0q1.length).bind fun j17 =>
  (p0q1[j17]?).bind fun v18 =>
  (bif fits (x0q7.length + ([v18] : List Int).length) 8 then
  L0 fuel n0 (t0 p1 p2 p3 p0q0 p0q1 ((IntKind.wrap .i64 (x0q4 + 1))) ((x0q7 ++ [v18]))) (k0  fuel)
  else
  none)
  else
  some ([.one ((.ints .i64 x0q7), true)], [])) := by kernel_rfl
end spec_lane
theorem spec_lane.ok_of (hX : ∀ E ∈ spec_lane.X, CallSpec Try.prog E) (h : ∀ (sh : List Int) (da : List Int) (k : Int) (i : Int) (m : Int), (axB sh da k && laneB sh k i m) = true → ∃ fuel, runF Try.prog spec_lane.X spec_lane.I 0 fuel 106 Try.f106 [.d (.agg [(.ints .i64 sh), (.ints .i64 da)]), .d (.int .i64 k), .d (.int .i64 i), .d (.int .i64 m)] = some ([.one ((.ints .i64 (lnK sh da k (Int.toNat i) (Int.toNat m))), true)], [])) : CallSpec Try.prog spec_lane.E :=
  callSpec_of (d := 0) hX (by kernel_rfl) spec_lane.I_ok (by kernel_rfl) (by kernel_rfl) (by kernel_rfl) (fun _ _ _ _ h => by dsimp only [spec_lane.E] at h; cases h) (fun xs hp => by
    dsimp only [spec_lane.E] at hp ⊢
    split at hp
    · exact h _ _ _ _ _ hp
    · cases hp)
theorem spec_lane.loop (fuel : Nat) (sh da : List Int) (k i m : Nat) (ax : Ax sh k) (hd : da.length = befN sh k * lenN sh k * behN sh k) (hi : i < befN sh k) (hm : m < behN sh k) (hf : 60 < fuel) :
    spec_lane.L0 fuel fuel (spec_lane.t0 (k : Int) (i : Int) (m : Int) sh da 0 []) (spec_lane.k0 fuel) = some ([.one ((.ints .i64 (lnD (lenN sh k) (behN sh k) da i m)), true)], []) := by
  have hL := ax.len_le
  have hlk := ax.lt
  have hle := ax.le
  refine run_loop (N := lenN sh k) (fun n j out => spec_lane.L0 fuel n (spec_lane.t0 (k : Int) (i : Int) (m : Int) sh da (j : Int) out) (spec_lane.k0 fuel)) (fun j out => out = tab j fun j => da.getD ((i * lenN sh k + j) * behN sh k + m) 0) ?_ ?_ fuel 0 [] (by omega) (by omega) rfl
  · intro n out ho
    change out = lnD (lenN sh k) (behN sh k) da i m at ho
    rw [spec_lane.s0, idx_nat hlk]
    simp only [Option.bind_some, getD_get hlk, ax.len]
    rw [decide_eq_false (by omega), ho]
    rfl
  · intro n j out hj ho
    have hl : out.length = j := by rw [ho, tab_length]
    obtain ⟨e1, _, _, _⟩ := enc3 hi hj hm
    have hx : i * lenN sh k + j ≤ 1000000000 := by
      have h2 := ax.bef_le
      have : i * lenN sh k ≤ 3600 * 60 := Nat.mul_le_mul (by omega) hL
      omega
    rw [spec_lane.s0, idx_nat hlk]
    simp only [Option.bind_some, getD_get hlk, ax.len]
    rw [dlt hj, cond_true, Int.toNat_natCast, wIdx hx (by omega), idx_nat (by omega), w1 (by omega)]
    simp only [Option.bind_some, getD_get (show (i * lenN sh k + j) * behN sh k + m < da.length by omega)]
    rw [fitsOk (by simp only [List.length_cons, List.length_nil]; omega), cond_true]
    exact ⟨_, by rw [tab_succ, ho], rfl⟩
theorem spec_lane.ok : CallSpec Try.prog spec_lane.E := spec_lane.ok_of (by simp [spec_lane.X, spec_around.ok]) fun sh da k i m h => by
  obtain ⟨F, hF⟩ : ∃ F : Nat, 60 < F := ⟨61, by omega⟩
  refine ⟨F, ?_⟩
  simp only [Bool.and_eq_true, laneB, decide_eq_true_eq] at h
  obtain ⟨j, rfl, hj, hv, ax, hd, hl⟩ := axB_inv h.1
  rw [Int.toNat_natCast] at h
  rw [spec_lane.e, (validA_inv hv).1, axOk_of hj]
  obtain ⟨i', rfl⟩ : ∃ i' : Nat, i = i' := ⟨i.toNat, by omega⟩
  obtain ⟨m', rfl⟩ : ∃ m' : Nat, m = m' := ⟨m.toNat, by omega⟩
  rw [Bool.and_self, cond_true, lnK, Int.toNat_natCast, Int.toNat_natCast, Int.toNat_natCast]
  exact spec_lane.loop F sh da j i' m' ax hd (by omega) (by omega) (by omega)

namespace spec_vector
noncomputable def E : Entry := ⟨54, false, false, fun | [.d (.ints .i64 xs)] => szB xs | _ => false, fun | [.d (.ints .i64 xs)] => ([.agg [((.ints .i64 [((xs.length : Nat) : Int)]), true), ((.ints .i64 xs), true)]], []) | _ => ([], []), fun _ => [], true, fun _ => none⟩
end spec_vector
namespace spec_vector
noncomputable def X : List Entry := [spec_make1.E]
noncomputable def I : List Inl := [⟨54, Try.f54, ⟨[7], [], [], [], [5], []⟩⟩]
theorem I_ok : ∀ i ∈ I, Try.prog.funcs[i.f]? = some i.fn ∧ (i.fn.name == "runtime.NumGoroutine") = false := by
  intro i hi
  simp only [I, List.mem_cons, List.not_mem_nil, or_false] at hi
  subst hi
  exact ⟨by kernel_rfl, by kernel_rfl⟩
theorem e (fuel : Nat) (p0 : List Int) : runF Try.prog X I 0 fuel 54 Try.f54 [.d (.ints .i64 p0)] =
  (bif szB (([((p0.length : Nat) : Int)] : List Int)) && szB p0 then
  some ([.agg [((.ints .i64 (([((p0.length : Nat) : Int)] : List Int))), true), ((.ints .i64 p0), true)]], [])
  else
  none) := by kernel_rfl
end spec_vector
theorem spec_vector.ok_of (hX : ∀ E ∈ spec_vector.X, CallSpec Try.prog E) (h : ∀ (xs : List Int), (szB xs) = true → ∃ fuel, runF Try.prog spec_vector.X spec_vector.I 0 fuel 54 Try.f54 [.d (.ints .i64 xs)] = some ([.agg [((.ints .i64 [((xs.length : Nat) : Int)]), true), ((.ints .i64 xs), true)]], [])) : CallSpec Try.prog spec_vector.E :=
  callSpec_of (d := 0) hX (by kernel_rfl) spec_vector.I_ok (by kernel_rfl) (by kernel_rfl) (by kernel_rfl) (fun _ _ _ _ h => by dsimp only [spec_vector.E] at h; cases h) (fun xs hp => by
    dsimp only [spec_vector.E] at hp ⊢
    split at hp
    · exact h _ hp
    · cases hp)
theorem spec_vector.ok : CallSpec Try.prog spec_vector.E := spec_vector.ok_of (by simp [spec_vector.X, spec_make1.ok]) fun xs h => ⟨0, by
  rw [spec_vector.e, h, szB_of (by simp)]
  rfl⟩

namespace spec_limit
noncomputable def E : Entry := ⟨91, true, false, fun | [.d (.int .i64 n)] => true | _ => false, fun | [.d (.int .i64 n)] => ([.one ((.int .i64 (limV n)), false)], []) | _ => ([], []), fun _ => [], false, fun _ => none⟩
end spec_limit
namespace spec_limit
noncomputable def X : List Entry := []
noncomputable def I : List Inl := [⟨91, Try.f91, ⟨[], [], [], [], [], []⟩⟩]
theorem I_ok : ∀ i ∈ I, Try.prog.funcs[i.f]? = some i.fn ∧ (i.fn.name == "runtime.NumGoroutine") = false := by
  intro i hi
  simp only [I, List.mem_cons, List.not_mem_nil, or_false] at hi
  subst hi
  exact ⟨by kernel_rfl, by kernel_rfl⟩
theorem e (fuel : Nat) (p0 : Int) : runF Try.prog X I 0 fuel 91 Try.f91 [.d (.int .i64 p0)] =
  some ([.one ((.int .i64 (maxI (-1000000) (minI 1000000 p0))), false)], []) := by kernel_rfl
end spec_limit
theorem spec_limit.ok_of (hX : ∀ E ∈ spec_limit.X, CallSpec Try.prog E) (h : ∀ (n : Int), (true) = true → ∃ fuel, runF Try.prog spec_limit.X spec_limit.I 0 fuel 91 Try.f91 [.d (.int .i64 n)] = some ([.one ((.int .i64 (limV n)), false)], [])) : CallSpec Try.prog spec_limit.E :=
  callSpec_of (d := 0) hX (by kernel_rfl) spec_limit.I_ok (by kernel_rfl) (by kernel_rfl) (by kernel_rfl) (fun _ _ _ _ h => by dsimp only [spec_limit.E] at h; cases h) (fun xs hp => by
    dsimp only [spec_limit.E] at hp ⊢
    split at hp
    · exact h _ hp
    · cases hp)
theorem spec_limit.ok : CallSpec Try.prog spec_limit.E := spec_limit.ok_of (by simp [spec_limit.X]) fun n _ => ⟨0, by rw [spec_limit.e, lim_spec]⟩

namespace spec_modulo
noncomputable def E : Entry := ⟨92, true, false, fun | [.d (.int .i64 a), .d (.int .i64 b)] => decide (0 < b) | _ => false, fun | [.d (.int .i64 a), .d (.int .i64 b)] => ([.one ((.int .i64 (modV a b)), false)], []) | _ => ([], []), fun _ => [], false, fun _ => none⟩
end spec_modulo
namespace spec_modulo
noncomputable def X : List Entry := []
noncomputable def I : List Inl := [⟨92, Try.f92, ⟨[], [], [], [], [], []⟩⟩]
theorem I_ok : ∀ i ∈ I, Try.prog.funcs[i.f]? = some i.fn ∧ (i.fn.name == "runtime.NumGoroutine") = false := by
  intro i hi
  simp only [I, List.mem_cons, List.not_mem_nil, or_false] at hi
  subst hi
  exact ⟨by kernel_rfl, by kernel_rfl⟩
theorem e (fuel : Nat) (p0 : Int) (p1 : Int) : runF Try.prog X I 0 fuel 92 Try.f92 [.d (.int .i64 p0), .d (.int .i64 p1)] =
  (bif decide ((p1 : Int) = 0) then
  none
  else
  (bif decide ((p1 : Int) = 0) then
  none
  else
  some ([.one ((.int .i64 (Int.tmod (IntKind.wrap .i64 ((Int.tmod p0 p1) + p1)) p1)), false)], []))) := by kernel_rfl
end spec_modulo
theorem spec_modulo.ok_of (hX : ∀ E ∈ spec_modulo.X, CallSpec Try.prog E) (h : ∀ (a : Int) (b : Int), (decide (0 < b)) = true → ∃ fuel, runF Try.prog spec_modulo.X spec_modulo.I 0 fuel 92 Try.f92 [.d (.int .i64 a), .d (.int .i64 b)] = some ([.one ((.int .i64 (modV a b)), false)], [])) : CallSpec Try.prog spec_modulo.E :=
  callSpec_of (d := 0) hX (by kernel_rfl) spec_modulo.I_ok (by kernel_rfl) (by kernel_rfl) (by kernel_rfl) (fun _ _ _ _ h => by dsimp only [spec_modulo.E] at h; cases h) (fun xs hp => by
    dsimp only [spec_modulo.E] at hp ⊢
    split at hp
    · exact h _ _ hp
    · cases hp)
theorem spec_modulo.ok : CallSpec Try.prog spec_modulo.E := spec_modulo.ok_of (by simp [spec_modulo.X]) fun a b h => ⟨0, by
  have := of_decide_eq_true h
  rw [spec_modulo.e, decide_eq_false (p := b = 0) (by omega)]
  rfl⟩

namespace spec_operate
noncomputable def E : Entry := ⟨53, true, false, fun | [.d (.int .i64 op), .d (.int .i64 a), .d (.int .i64 b)] => true | _ => false, fun | [.d (.int .i64 op), .d (.int .i64 a), .d (.int .i64 b)] => ([.one ((.int .i64 (operF op a b)), false)], []) | _ => ([], []), fun _ => [], false, fun _ => none⟩
end spec_operate
namespace spec_operate
noncomputable def X : List Entry := [spec_limit.E, spec_toInt.E, spec_modulo.E]
noncomputable def I : List Inl := [⟨53, Try.f53, ⟨[], [], [], [], [], []⟩⟩]
theorem I_ok : ∀ i ∈ I, Try.prog.funcs[i.f]? = some i.fn ∧ (i.fn.name == "runtime.NumGoroutine") = false := by
  intro i hi
  simp only [I, List.mem_cons, List.not_mem_nil, or_false] at hi
  subst hi
  exact ⟨by kernel_rfl, by kernel_rfl⟩
theorem e (fuel : Nat) (p0 : Int) (p1 : Int) (p2 : Int) : runF Try.prog X I 0 fuel 53 Try.f53 [.d (.int .i64 p0), .d (.int .i64 p1), .d (.int .i64 p2)] =
  (bif ((p0 : Int) == 1) then
  some ([.one ((.int .i64 (limV ((IntKind.wrap .i64 (p1 + p2))))), false)], [])
  else
  (bif ((p0 : Int) == 2) then
  some ([.one ((.int .i64 (limV ((IntKind.wrap .i64 (p1 - p2))))), false)], [])
  else
  (bif ((p0 : Int) == 3) then
  some ([.one ((.int .i64 (limV ((IntKind.wrap .i64 (p1 * p2))))), false)], [])
  else
  (bif ((p0 : Int) == 4) then
  some ([.one ((.int .i64 (minI p1 p2)), false)], [])
  else
  (bif ((p0 : Int) == 5) then
  some ([.one ((.int .i64 (maxI p1 p2)), false)], [])
  else
  (bif ((p0 : Int) == 6) then
  some ([.one ((.int .i64 (tInt (((p1 : Int) == p2)))), false)], [])
  else
  (bif ((p0 : Int) == 7) then
  some ([.one ((.int .i64 (tInt ((decide ((p1 : Int) < p2))))), false)], [])
  else
  (bif (decide ((p1 : Int) ≤ 0)) then
  some ([.one ((.int .i64 p2), false)], [])
  else
  (bif decide (0 < p1) then
  some ([.one ((.int .i64 (modV p2 p1)), false)], [])
  else
  none))))))))) := by kernel_rfl
end spec_operate
theorem spec_operate.ok_of (hX : ∀ E ∈ spec_operate.X, CallSpec Try.prog E) (h : ∀ (op : Int) (a : Int) (b : Int), (true) = true → ∃ fuel, runF Try.prog spec_operate.X spec_operate.I 0 fuel 53 Try.f53 [.d (.int .i64 op), .d (.int .i64 a), .d (.int .i64 b)] = some ([.one ((.int .i64 (operF op a b)), false)], [])) : CallSpec Try.prog spec_operate.E :=
  callSpec_of (d := 0) hX (by kernel_rfl) spec_operate.I_ok (by kernel_rfl) (by kernel_rfl) (by kernel_rfl) (fun _ _ _ _ h => by dsimp only [spec_operate.E] at h; cases h) (fun xs hp => by
    dsimp only [spec_operate.E] at hp ⊢
    split at hp
    · exact h _ _ _ hp
    · cases hp)
theorem spec_operate.ok : CallSpec Try.prog spec_operate.E := spec_operate.ok_of (by simp [spec_operate.X, spec_limit.ok, spec_toInt.ok, spec_modulo.ok]) fun op a b _ => ⟨0, by
  rw [spec_operate.e]
  unfold operF restV
  by_cases h : a ≤ 0
  · rw [decide_eq_true h]
    cases op == 1 <;> cases op == 2 <;> cases op == 3 <;> cases op == 4 <;> cases op == 5 <;> cases op == 6 <;> cases op == 7 <;> rfl
  · rw [decide_eq_false h, decide_eq_true (p := 0 < a) (by omega)]
    cases op == 1 <;> cases op == 2 <;> cases op == 3 <;> cases op == 4 <;> cases op == 5 <;> cases op == 6 <;> cases op == 7 <;> rfl⟩

namespace spec_combine
noncomputable def E : Entry := ⟨108, false, false, fun | [.d (.int .i64 op), .d (.agg [(.ints .i64 s1), (.ints .i64 d1)]), .d (.agg [(.ints .i64 s2), (.ints .i64 d2)])] => validA s1 d1 && validA s2 d2 && fitB s1 s2 | _ => false, fun | [.d (.int .i64 op), .d (.agg [(.ints .i64 s1), (.ints .i64 d1)]), .d (.agg [(.ints .i64 s2), (.ints .i64 d2)])] => ([.agg [((.ints .i64 (cS s1 s2)), true), ((.ints .i64 (cD op s1 d1 s2 d2)), true)]], []) | _ => ([], []), fun _ => [], true, fun _ => none⟩
end spec_combine
namespace spec_combine
noncomputable def X : List Entry := [spec_volume.E, spec_operate.E, spec_make1.E]
noncomputable def I : List Inl := [⟨108, Try.f108, ⟨[52], [(1000006, [1, 2, 3, 10, 11, 12, 13, 14, 15, 16, 17, 18, 19, 20, 21, 22, 23, 24, 25, 26, 27, 28, 29, 30, 31, 32, 33, 34, 35, 36, 37, 38, 39, 40, 41, 42, 43, 44, 45, 46, 47, 48, 49, 50, 51, 52])], [], [(8, [0, 1, 2, 4, 5, 12, 14, 15, 3, 6, 7, 8, 9, 10, 11, 13, 16, 17, 18, 19, 20, 21, 22, 23, 24, 25])], [], []⟩⟩]
theorem I_ok : ∀ i ∈ I, Try.prog.funcs[i.f]? = some i.fn ∧ (i.fn.name == "runtime.NumGoroutine") = false := by
  intro i hi
  simp only [I, List.mem_cons, List.not_mem_nil, or_false] at hi
  subst hi
  exact ⟨by kernel_rfl, by kernel_rfl⟩
noncomputable abbrev L0 (fuel n : Nat) (s : St) (k : Kont) := lAt Try.prog X I fuel true 0 false 108 (bodyOf Try.f108) [1, 1, 1, 1, 0, 1, 0] n s k
noncomputable abbrev k0  (fuel : Nat) : Kont := (kAt Try.prog X I fuel true 0 false 108 (bodyOf Try.f108) [1, 1, 1, 1, 0, 1, 0] [] (endK Try.prog Try.f108))
noncomputable def t0 (p0 : Int) (p1q0 : List Int) (p1q1 : List Int) (p2q0 : List Int) (p2q1 : List Int) (x0q1 : List Int) (x0q2 : Int) (x0q7 : List Int) : St := ⟨[(.imm (.int .i64 p0)), .dead, .dead, .dead, (.ptr 1000000000 0 0), (.ptr 1000000001 0 0), (.ptr 1000000002 0 0), (.imm (.ints .i64 x0q1)), (.all 1000000003 1), (.imm (.int .i64 x0q2)), .dead, .dead, .dead, .dead, .dead, .dead, .dead, .dead, .dead, .dead, .dead, .dead, .dead, .dead, .dead, .dead, .dead, .dead, .dead, .dead, .dead, .dead, .dead, .dead, .dead, .dead, .dead, .dead, .dead, .dead, .dead, .dead, .dead, .dead, .dead, .dead, .dead, .dead, .dead, .dead, .dead, .dead, .dead], hOf [(1000000000, (.box [(.imm (.ints .i64 p1q0)), (.imm (.ints .i64 p1q1))])), (1000000001, (.box [(.imm (.ints .i64 p2q0)), (.imm (.ints .i64 p2q1))])), (1000000002, (.box [(.imm .nils), (.imm .nils)])), (1000000003, (.ints .i64 x0q7))], [], []⟩
theorem e (fuel : Nat) (p0 : Int) (p1q0 : List Int) (p1q1 : List Int) (p2q0 : List Int) (p2q1 : List Int) : runF Try.prog X I 0 fuel 108 Try.f108 [.d (.int .i64 p0), .d (.agg [(.ints .i64 p1q0), (.ints .i64 p1q1)]), .d (.agg [(.ints .i64 p2q0), (.ints .i64 p2q1)])] =
  (bif ((((p1q0.length : Nat) : Int) : Int) == 0) then
  L0 fuel fuel (t0 p0 p1q0 p1q1 p2q0 p2q1 p2q0 0 ([])) (k0  fuel)
  else
  L0 fuel fuel (t0 p0 p1q0 p1q1 p2q0 p2q1 p1q0 0 ([])) (k0  fuel)) := by kernel_rfl
theorem s0 (fuel n0 : Nat) (p0 : Int) (p1q0 : List Int) (p1q1 : List Int) (p2q0 : List Int) (p2q1 : List Int) (x0q1 : List Int) (x0q2 : Int) (x0q7 : List Int) : L0 fuel (n0 + 1) (t0 p0 p1q0 p1q1 p2q0 p2q1 x0q1 x0q2 x0q7) (k0  fuel) =
  (bif decide (x0q1.length < 9223372036854775808) then
  (bif (decide ((x0q2 : Int) < (volW x0q1))) then
  (idx (minI x0q2 (IntKind.wrap .i64 (((p1q1.length : Nat) : Int) - 1))) p1q1.length).bind fun j5 =>
  (p1q1[j5]?).bind fun v6 =>
  (idx (minI x0q2 (IntKind.wrap .i64 (((p2q1.length : Nat) : Int) - 1))) p2q1.length).bind fun j7 =>
  (p2q1[j7]?).bind fun v8 =>
  (bif fits (x0q7.length + ([(operF p0 v6 v8)] : List Int).length) 8 then
  L0 fuel n0 (t0 p0 p1q0 p1q1 p2q0 p2q1 x0q1 ((IntKind.wrap .i64 (x0q2 + 1))) ((x0q7 ++ [(operF p0 v6 v8)]))) (k0  fuel)
  else
  none)
  else
  (bif szB x0q1 && szB x0q7 then
  some ([.agg [((.ints .i64 x0q1), true), ((.ints .i64 x0q7), true)]], [])
  else
  none))
  else
  none) := by kernel_rfl
end spec_combine
theorem spec_combine.ok_of (hX : ∀ E ∈ spec_combine.X, CallSpec Try.prog E) (h : ∀ (op : Int) (s1 : List Int) (d1 : List Int) (s2 : List Int) (d2 : List Int), (validA s1 d1 && validA s2 d2 && fitB s1 s2) = true → ∃ fuel, runF Try.prog spec_combine.X spec_combine.I 0 fuel 108 Try.f108 [.d (.int .i64 op), .d (.agg [(.ints .i64 s1), (.ints .i64 d1)]), .d (.agg [(.ints .i64 s2), (.ints .i64 d2)])] = some ([.agg [((.ints .i64 (cS s1 s2)), true), ((.ints .i64 (cD op s1 d1 s2 d2)), true)]], [])) : CallSpec Try.prog spec_combine.E :=
  callSpec_of (d := 0) hX (by kernel_rfl) spec_combine.I_ok (by kernel_rfl) (by kernel_rfl) (by kernel_rfl) (fun _ _ _ _ h => by dsimp only [spec_combine.E] at h; cases h) (fun xs hp => by
    dsimp only [spec_combine.E] at hp ⊢
    split at hp
    · exact h _ _ _ _ _ hp
    · cases hp)
theorem spec_combine.loop (fuel : Nat) (op : Int) (s1 d1 s2 d2 : List Int) (S : List Int) (hS : S.length ≤ 3) (hV : ((volW S).toNat : Int) = volW S) (hv : (volW S).toNat ≤ 60) (g1 : 0 < d1.length ∧ d1.length ≤ 60 ∨ (volW S).toNat = 0) (g2 : 0 < d2.length ∧ d2.length ≤ 60 ∨ (volW S).toNat = 0) : ∀ (m n j : Nat) (out : List Int), (volW S).toNat - j = m → m < n → j ≤ (volW S).toNat → out = tab j (fun i => operF op (d1.getD (min i (d1.length - 1)) 0) (d2.getD (min i (d2.length - 1)) 0)) →
    spec_combine.L0 fuel n (spec_combine.t0 op s1 d1 s2 d2 S (j : Int) out) (spec_combine.k0 fuel) = some ([.agg [(.ints .i64 S, true), (.ints .i64 (tab (volW S).toNat (fun i => operF op (d1.getD (min i (d1.length - 1)) 0) (d2.getD (min i (d2.length - 1)) 0))), true)]], []) := by
  intro m
  induction m with
  | zero =>
    intro n j out h1 h2 h3 h4
    obtain ⟨n, rfl⟩ : ∃ n', n = n' + 1 := ⟨n - 1, by omega⟩
    have ho : out.length = j := by rw [h4, tab_length]
    rw [spec_combine.s0, decide_eq_true (p := S.length < 9223372036854775808) (by omega), decide_eq_false (p := (j : Int) < volW S) (by omega), szB_of (xs := S) (by omega), szB_of (xs := out) (by omega), h4, show j = (volW S).toNat by omega]
    rfl
  | succ m ih =>
    intro n j out h1 h2 h3 h4
    obtain ⟨n, rfl⟩ : ∃ n', n = n' + 1 := ⟨n - 1, by omega⟩
    have ho : out.length = j := by rw [h4, tab_length]
    have a1 : min j (d1.length - 1) < d1.length := by omega
    have a2 : min j (d2.length - 1) < d2.length := by omega
    have c1 : minI (j : Int) (IntKind.wrap .i64 (((d1.length : Nat) : Int) - 1)) = ((min j (d1.length - 1) : Nat) : Int) := by
      rw [wS (by omega) (by omega)]; unfold minI; split <;> omega
    have c2 : minI (j : Int) (IntKind.wrap .i64 (((d2.length : Nat) : Int) - 1)) = ((min j (d2.length - 1) : Nat) : Int) := by
      rw [wS (by omega) (by omega)]; unfold minI; split <;> omega
    rw [spec_combine.s0, decide_eq_true (p := S.length < 9223372036854775808) (by omega), decide_eq_true (p := (j : Int) < volW S) (by omega), c1, c2, idx_nat a1, idx_nat a2, w1 (by omega)]
    simp only [cond_true, Option.bind_some, getS a1, getS a2]
    rw [fitsOk (by simp; omega)]
    simp only [cond_true]
    have b1 : d1.getD (min j (d1.length - 1)) 0 = d1[min j (d1.length - 1)] := by simp [a1]
    have b2 : d2.getD (min j (d2.length - 1)) 0 = d2[min j (d2.length - 1)] := by simp [a2]
    exact ih n (j + 1) _ (by omega) (by omega) (by omega) (by rw [tab_succ, h4, b1, b2])
theorem spec_combine.ok : CallSpec Try.prog spec_combine.E := spec_combine.ok_of (by simp [spec_combine.X, spec_volume.ok, spec_operate.ok, spec_make1.ok]) fun op s1 d1 s2 d2 h => by
  simp only [Bool.and_eq_true] at h
  obtain ⟨⟨v1, v2⟩, hf⟩ := h
  have b1 := validA_len v1
  have b2 := validA_len v2
  have e1 := vol_len v1
  have e2 := vol_len v2
  have p1 := (vol_bd (validA_inv v1).1).1
  have p2 := (vol_bd (validA_inv v2).1).1
  obtain ⟨F, hF⟩ : ∃ F : Nat, 60 < F := ⟨61, by omega⟩
  refine ⟨F, ?_⟩
  rw [spec_combine.e, len0]
  by_cases h1 : s1.length = 0
  · have e := List.length_eq_zero_iff.mp h1
    subst e
    have l1 := sc_len v1
    have hc : cS [] s2 = s2 := rfl
    rw [decide_eq_true h1, cond_true, cD, hc]
    exact spec_combine.loop F op [] d1 s2 d2 s2 (by omega) (by omega) (by omega) (by omega) (by omega) _ F 0 [] rfl (by omega) (by omega) rfl
  · have hc : cS s1 s2 = s1 := by rw [cS, decide_eq_false h1]; rfl
    rw [decide_eq_false h1, cond_false, cD, hc]
    refine spec_combine.loop F op s1 d1 s2 d2 s1 (by omega) (by omega) (by omega) (by omega) ?_ _ F 0 [] rfl (by omega) (by omega) rfl
    by_cases h2 : s2.length = 0
    · have e := List.length_eq_zero_iff.mp h2
      subst e
      have l2 := sc_len v2
      omega
    · rw [fitB, decide_eq_false h1, decide_eq_false h2, cond_false, cond_false] at hf
      have := of_decide_eq_true hf
      subst this
      omega

namespace spec_neutral
noncomputable def E : Entry := ⟨114, true, false, fun | [.d (.int .i64 op)] => opOk op | _ => false, fun | [.d (.int .i64 op)] => ([.one ((.int .i64 (neuF op)), false)], []) | _ => ([], []), fun _ => [], false, fun _ => none⟩
end spec_neutral
namespace spec_neutral
noncomputable def X : List Entry := []
noncomputable def I : List Inl := [⟨114, Try.f114, ⟨[], [], [], [], [], []⟩⟩]
theorem I_ok : ∀ i ∈ I, Try.prog.funcs[i.f]? = some i.fn ∧ (i.fn.name == "runtime.NumGoroutine") = false := by
  intro i hi
  simp only [I, List.mem_cons, List.not_mem_nil, or_false] at hi
  subst hi
  exact ⟨by kernel_rfl, by kernel_rfl⟩
theorem e (fuel : Nat) (p0 : Int) : runF Try.prog X I 0 fuel 114 Try.f114 [.d (.int .i64 p0)] =
  (idx (IntKind.wrap .i64 (p0 - 1)) [0, 0, 1, 1000000, (-1000000), 1, 0, 0].length).bind fun j1 =>
  ([0, 0, 1, 1000000, (-1000000), 1, 0, 0][j1]?).bind fun v2 =>
  some ([.one ((.int .i64 v2), false)], []) := by kernel_rfl
end spec_neutral
theorem spec_neutral.ok_of (hX : ∀ E ∈ spec_neutral.X, CallSpec Try.prog E) (h : ∀ (op : Int), (opOk op) = true → ∃ fuel, runF Try.prog spec_neutral.X spec_neutral.I 0 fuel 114 Try.f114 [.d (.int .i64 op)] = some ([.one ((.int .i64 (neuF op)), false)], [])) : CallSpec Try.prog spec_neutral.E :=
  callSpec_of (d := 0) hX (by kernel_rfl) spec_neutral.I_ok (by kernel_rfl) (by kernel_rfl) (by kernel_rfl) (fun _ _ _ _ h => by dsimp only [spec_neutral.E] at h; cases h) (fun xs hp => by
    dsimp only [spec_neutral.E] at hp ⊢
    split at hp
    · exact h _ hp
    · cases hp)
theorem spec_neutral.ok : CallSpec Try.prog spec_neutral.E := spec_neutral.ok_of (by simp [spec_neutral.X]) fun op h => ⟨0, by
  rw [spec_neutral.e]
  rcases opOk_cases h with rfl | rfl | rfl | rfl | rfl | rfl | rfl | rfl <;> rfl⟩

namespace spec_fold
noncomputable def E : Entry := ⟨107, true, false, fun | [.d (.int .i64 op), .d (.ints .i64 xs)] => opOk op && decide (xs.length < 9223372036854775808) | _ => false, fun | [.d (.int .i64 op), .d (.ints .i64 xs)] => ([.one ((.int .i64 (redF op xs)), false)], []) | _ => ([], []), fun _ => [], false, fun _ => none⟩
end spec_fold
namespace spec_fold
noncomputable def X : List Entry := [spec_neutral.E, spec_operate.E]
noncomputable def I : List Inl := [⟨107, Try.f107, ⟨[], [(1000005, [2, 3, 4, 7, 8, 9, 10, 11, 12, 13, 14, 15, 16, 17, 18, 19, 20, 21, 22, 23, 24, 25, 26, 27, 28, 29, 30, 31, 32])], [], [], [], []⟩⟩]
theorem I_ok : ∀ i ∈ I, Try.prog.funcs[i.f]? = some i.fn ∧ (i.fn.name == "runtime.NumGoroutine") = false := by
  intro i hi
  simp only [I, List.mem_cons, List.not_mem_nil, or_false] at hi
  subst hi
  exact ⟨by kernel_rfl, by kernel_rfl⟩
noncomputable abbrev L0 (fuel n : Nat) (s : St) (k : Kont) := lAt Try.prog X I fuel true 0 false 107 (bodyOf Try.f107) [1, 1, 1, 0, 1, 0] n s k
noncomputable abbrev k0  (fuel : Nat) : Kont := (kAt Try.prog X I fuel true 0 false 107 (bodyOf Try.f107) [1, 1, 1, 0, 1, 0] [] (endK Try.prog Try.f107))
noncomputable def t0 (p0 : Int) (p1 : List Int) (x0q2 : Int) (x0q3 : Int) : St := ⟨[(.imm (.int .i64 p0)), (.imm (.ints .i64 p1)), .dead, .dead, .dead, (.imm (.int .i64 x0q2)), (.imm (.int .i64 x0q3)), .dead, .dead, .dead, .dead, .dead, .dead, .dead, .dead, .dead, .dead, .dead, .dead, .dead, .dead, .dead, .dead, .dead, .dead, .dead, .dead, .dead, .dead, .dead, .dead, .dead, .dead], hOf [], [], []⟩
theorem e (fuel : Nat) (p0 : Int) (p1 : List Int) : runF Try.prog X I 0 fuel 107 Try.f107 [.d (.int .i64 p0), .d (.ints .i64 p1)] =
  (bif ((((p1.length : Nat) : Int) : Int) == 0) then
  (bif opOk p0 then
  some ([.one ((.int .i64 (neuF p0)), false)], [])
  else
  none)
  else
  (idx (IntKind.wrap .i64 (((p1.length : Nat) : Int) - 1)) p1.length).bind fun j1 =>
  (p1[j1]?).bind fun v2 =>
  L0 fuel fuel (t0 p0 p1 v2 ((IntKind.wrap .i64 (((p1.length : Nat) : Int) - 2)))) (k0  fuel)) := by kernel_rfl
theorem s0 (fuel n0 : Nat) (p0 : Int) (p1 : List Int) (x0q2 : Int) (x0q3 : Int) : L0 fuel (n0 + 1) (t0 p0 p1 x0q2 x0q3) (k0  fuel) =
  (bif (decide ((x0q3 : Int) ≥ 0)) then
  (idx x0q3 p1.length).bind fun j7 =>
  (p1[j7]?).bind fun v8 =>
  L0 fuel n0 (t0 p0 p1 ((operF p0 v8 x0q2)) ((IntKind.wrap .i64 (x0q3 - 1)))) (k0  fuel)
  else
  some ([.one ((.int .i64 x0q2), false)], [])) := by kernel_rfl
end spec_fold
theorem spec_fold.ok_of (hX : ∀ E ∈ spec_fold.X, CallSpec Try.prog E) (h : ∀ (op : Int) (xs : List Int), (opOk op && decide (xs.length < 9223372036854775808)) = true → ∃ fuel, runF Try.prog spec_fold.X spec_fold.I 0 fuel 107 Try.f107 [.d (.int .i64 op), .d (.ints .i64 xs)] = some ([.one ((.int .i64 (redF op xs)), false)], [])) : CallSpec Try.prog spec_fold.E :=
  callSpec_of (d := 0) hX (by kernel_rfl) spec_fold.I_ok (by kernel_rfl) (by kernel_rfl) (by kernel_rfl) (fun _ _ _ _ h => by dsimp only [spec_fold.E] at h; cases h) (fun xs hp => by
    dsimp only [spec_fold.E] at hp ⊢
    split at hp
    · exact h _ _ hp
    · cases hp)
theorem spec_fold.ok : CallSpec Try.prog spec_fold.E := spec_fold.ok_of (by simp [spec_fold.X, spec_neutral.ok, spec_operate.ok]) fun op xs h => ⟨xs.length + 1, by
  simp only [Bool.and_eq_true, decide_eq_true_eq] at h
  rw [spec_fold.e, len0]
  by_cases h0 : xs.length = 0
  · have h0' := List.length_eq_zero_iff.mp h0
    subst h0'
    rw [decide_eq_true h0, h.1]
    simp only [cond_true, redF, neuV, h.1]
  · obtain ⟨k, hk⟩ : ∃ k, xs.length = k + 1 := ⟨xs.length - 1, by omega⟩
    have e1 : ((xs.length : Nat) : Int) - 1 = (k : Int) := by omega
    have hkl : k < xs.length := by omega
    rw [decide_eq_false h0, cond_false, wS (by omega) (by omega), wS (by omega) (by omega), e1, idx_nat hkl]
    simp only [Option.bind_some, getD_get hkl]
    rw [show ((xs.length : Nat) : Int) - 2 = (k : Int) - 1 - ((0 : Nat) : Int) by omega]
    refine run_loop (N := k) (fun n j acc => spec_fold.L0 (xs.length + 1) n (spec_fold.t0 op xs acc ((k : Int) - 1 - (j : Int))) (spec_fold.k0 (xs.length + 1))) (fun j acc => acc = redF op (xs.drop (k - j))) ?_ ?_ (xs.length + 1) 0 _ (by omega) (by omega) (by rw [Nat.sub_zero, redF_last (by omega)])
    · intro n acc ho
      rw [spec_fold.s0, decide_eq_false (by omega), ho, Nat.sub_self, List.drop_zero]
      rfl
    · intro n j acc hj ho
      obtain ⟨i, hi⟩ : ∃ i, k - j = i + 1 := ⟨k - j - 1, by omega⟩
      have hil : i < xs.length := by omega
      have e1 : (k : Int) - 1 - (j : Int) = (i : Int) := by omega
      rw [e1, spec_fold.s0, decide_eq_true (by omega), idx_nat hil, wS (by omega) (by omega)]
      simp only [cond_true, Option.bind_some, getD_get hil]
      refine ⟨_, ?_, by rw [show (k : Int) - 1 - ((j + 1 : Nat) : Int) = (i : Int) - 1 by omega]⟩
      rw [ho, hi, show k - (j + 1) = i by omega]
      exact (redF_drop (by omega)).symm⟩

namespace spec_InnerProduct
noncomputable def E : Entry := ⟨77, false, false, fun | [.d (.int .i64 f), .d (.int .i64 g), .d (.agg [(.ints .i64 sa), (.ints .i64 da)]), .d (.agg [(.ints .i64 sb), (.ints .i64 db)])] => decide (sa.length < 9223372036854775808) && decide (da.length < 9223372036854775808) && decide (sb.length < 9223372036854775808) && decide (db.length < 9223372036854775808) | _ => false, fun | [.d (.int .i64 f), .d (.int .i64 g), .d (.agg [(.ints .i64 sa), (.ints .i64 da)]), .d (.agg [(.ints .i64 sb), (.ints .i64 db)])] => ([.agg [((.ints .i64 (inS f g sa da sb db)), true), ((.ints .i64 (inD f g sa da sb db)), true)], .one ((.bool (inB f g sa da sb db)), false)], []) | _ => ([], []), fun _ => [], true, fun _ => none⟩
end spec_InnerProduct
namespace spec_InnerProduct
noncomputable def X : List Entry := [spec_validOp.E, spec_valid.E, spec_validShape.E, spec_volume.E, spec_lane.E, spec_vector.E, spec_combine.E, spec_fold.E, spec_make1.E]
noncomputable def I : List Inl := [⟨77, Try.f77, ⟨[102, 105, 110, 112, 113, 120], [(1000009, [2, 3, 4, 5, 9, 14, 15, 16, 17, 18, 19, 20, 21, 22, 23, 24, 25, 26, 27, 28, 29, 30, 31, 32, 33, 34, 35, 36, 37, 38, 39, 40, 41, 42, 43, 44, 45, 46, 47, 48, 49, 50, 51, 52, 53, 54, 55, 56, 57, 58, 59, 60, 61, 62, 63, 64, 65, 66, 67, 68, 69, 70, 71, 72, 73, 74, 75, 76, 77, 78, 79, 80, 81, 82, 83, 84, 85, 86, 87, 88, 89, 90, 91, 92, 93, 94, 95, 96, 97, 98, 99, 100, 101, 102, 103, 104, 105, 106, 107, 108, 109, 110, 111, 112, 113, 114, 115, 116, 117, 118, 119, 120]), (1000012, [2, 3, 4, 5, 9, 15, 16, 17, 18, 19, 20, 21, 22, 23, 24, 25, 26, 27, 28, 29, 30, 31, 32, 33, 34, 35, 36, 37, 38, 39, 40, 41, 42, 43, 44, 45, 46, 47, 48, 49, 50, 51, 52, 53, 54, 55, 56, 57, 58, 59, 60, 61, 62, 63, 64, 65, 66, 67, 68, 69, 70, 71, 72, 73, 74, 75, 76, 77, 78, 79, 80, 81, 82, 83, 84, 85, 86, 87, 88, 89, 90, 91, 92, 93, 94, 95, 96, 97, 98, 99, 100, 101, 102, 103, 104, 105, 106, 107, 108, 109, 110, 111, 112, 113, 114, 115, 116, 117, 118, 119, 120])], [(4, [7])], [(1, [0, 1, 2, 3, 4, 5, 6, 7, 8, 9, 10, 11, 12, 13, 14, 15, 16, 17, 18, 19, 20, 21, 22, 23, 24, 25, 26, 27, 28, 29, 30, 31, 33, 39, 32, 34, 35, 36, 37, 38, 40, 41, 42, 43, 44]), (4, [1, 3, 6, 7, 8, 2, 4, 0, 5, 9, 10])], [74, 75], []⟩⟩]
theorem I_ok : ∀ i ∈ I, Try.prog.funcs[i.f]? = some i.fn ∧ (i.fn.name == "runtime.NumGoroutine") = false := by
  intro i hi
  simp only [I, List.mem_cons, List.not_mem_nil, or_false] at hi
  subst hi
  exact ⟨by kernel_rfl, by kernel_rfl⟩
noncomputable abbrev L0 (fuel n : Nat) (s : St) (k : Kont) := lAt Try.prog X I fuel true 0 false 77 (bodyOf Try.f77) [1, 1, 1, 1, 1, 1, 0, 1, 0] n s k
noncomputable abbrev k0  (fuel : Nat) : Kont := (kAt Try.prog X I fuel true 0 false 77 (bodyOf Try.f77) [1, 1, 1, 1, 1, 1, 0, 1, 0] [] (endK Try.prog Try.f77))
noncomputable def t0 (p0 : Int) (p1 : Int) (p3q0 : List Int) (p3q1 : List Int) (p2q0 : List Int) (p2q1 : List Int) (cq6 : Nat × Nat) (cq5 : Nat × Nat) (x0q5 : Int) (x0q9 : List Int) : St := ⟨[(.imm (.int .i64 p0)), (.imm (.int .i64 p1)), .dead, .dead, .dead, .dead, (.ptr 1000000000 0 0), (.dptr [(.ints .i64 p3q0), (.ints .i64 p3q1)] 0), (.ptr 1000000001 0 0), .dead, (.imm (.int .i64 (IntKind.wrap .i64 (((p2q0.length : Nat) : Int) - 1)))), (.all 1000000002 1), (.all 1000000003 1), (.imm (.int .i64 x0q5)), .dead, .dead, .dead, .dead, .dead, .dead, .dead, .dead, .dead, .dead, .dead, .dead, .dead, .dead, .dead, .dead, .dead, .dead, .dead, .dead, .dead, .dead, .dead, .dead, .dead, .dead, .dead, .dead, .dead, .dead, .dead, .dead, .dead, .dead, .dead, .dead, .dead, .dead, .dead, .dead, .dead, .dead, .dead, .dead, .dead, .dead, .dead, .dead, .dead, .dead, .dead, .dead, .dead, .dead, .dead, .dead, .dead, .dead, .dead, .dead, .dead, .dead, .dead, .dead, .dead, .dead, .dead, .dead, .dead, .dead, .dead, .dead, .dead, .dead, .dead, .dead, .dead, .dead, .dead, .dead, .dead, .dead, .dead, .dead, .dead, .dead, .dead, .dead, .dead, .dead, .dead, .dead, .dead, .dead, .dead, .dead, .dead, .dead, .dead, .dead, .dead, .dead, .dead, .dead, .dead, .dead, .dead], hOf [(1000000000, (.box [(.imm (.ints .i64 p2q0)), (.imm (.ints .i64 p2q1))])), (1000000001, (.box [(.imm .nils), (.imm .nils)])), (1000000002, (.ints .i64 ((([] : List Int) ++ ((p2q0.drop cq6.1).take (cq6.2 - cq6.1))) ++ ((p3q0.drop cq5.1).take (cq5.2 - cq5.1))))), (1000000003, (.ints .i64 x0q9))], [], []⟩
noncomputable abbrev L1 (fuel n : Nat) (s : St) (k : Kont) := lAt Try.prog X I fuel true 0 false 77 (bodyOf Try.f77) [1, 1, 1, 1, 1, 1, 0, 1, 0, 0, 1, 0, 0, 1, 0] n s k
noncomputable abbrev k1 (n0 : Nat) (fuel : Nat) : Kont := (kAt Try.prog X I fuel true 0 false 77 (bodyOf Try.f77) [1, 1, 1, 1, 1, 1, 0, 1, 0, 0, 1, 0, 0, 1, 0] [n0] (endK Try.prog Try.f77))
noncomputable def t1 (p0 : Int) (p1 : Int) (p3q0 : List Int) (p3q1 : List Int) (p2q0 : List Int) (x0q5 : Int) (p2q1 : List Int) (cq6 : Nat × Nat) (cq5 : Nat × Nat) (x1q6 : Int) (x1q10 : List Int) : St := ⟨[(.imm (.int .i64 p0)), (.imm (.int .i64 p1)), .dead, .dead, .dead, .dead, (.ptr 1000000000 0 0), (.dptr [(.ints .i64 p3q0), (.ints .i64 p3q1)] 0), (.ptr 1000000001 0 0), .dead, (.imm (.int .i64 (IntKind.wrap .i64 (((p2q0.length : Nat) : Int) - 1)))), (.all 1000000002 1), (.all 1000000003 1), (.imm (.int .i64 x0q5)), (.imm (.int .i64 x1q6)), .dead, .dead, .dead, .dead, .dead, .dead, .dead, .dead, .dead, .dead, .dead, .dead, .dead, .dead, .dead, .dead, .dead, .dead, .dead, .dead, .dead, .dead, .dead, .dead, .dead, .dead, .dead, .dead, .dead, .dead, .dead, .dead, .dead, .dead, .dead, .dead, .dead, .dead, .dead, .dead, .dead, .dead, .dead, .dead, .dead, .dead, .dead, .dead, .dead, .dead, .dead, .dead, .dead, .dead, .dead, .dead, .dead, .dead, .dead, .dead, .dead, .dead, .dead, .dead, .dead, .dead, .dead, .dead, .dead, .dead, .dead, .dead, .dead, .dead, .dead, .dead, .dead, .dead, .dead, .dead, .dead, .dead, .dead, .dead, .dead, .dead, .dead, .dead, .dead, .dead, .dead, .dead, .dead, .dead, .dead, .dead, .dead, .dead, .dead, .dead, .dead, .dead, .dead, .dead, .dead, .dead], hOf [(1000000000, (.box [(.imm (.ints .i64 p2q0)), (.imm (.ints .i64 p2q1))])), (1000000001, (.box [(.imm .nils), (.imm .nils)])), (1000000002, (.ints .i64 ((([] : List Int) ++ ((p2q0.drop cq6.1).take (cq6.2 - cq6.1))) ++ ((p3q0.drop cq5.1).take (cq5.2 - cq5.1))))), (1000000003, (.ints .i64 x1q10))], [], []⟩
theorem e (fuel : Nat) (p0 : Int) (p1 : Int) (p2q0 : List Int) (p2q1 : List Int) (p3q0 : List Int) (p3q1 : List Int) : runF Try.prog X I 0 fuel 77 Try.f77 [.d (.int .i64 p0), .d (.int .i64 p1), .d (.agg [(.ints .i64 p2q0), (.ints .i64 p2q1)]), .d (.agg [(.ints .i64 p3q0), (.ints .i64 p3q1)])] =
  (bif (!(opOk p0)) then
  some ([.agg [((.ints .i64 []), true), ((.ints .i64 []), true)], .one ((.bool false), false)], [])
  else
  (bif (!(opOk p1)) then
  some ([.agg [((.ints .i64 []), true), ((.ints .i64 []), true)], .one ((.bool false), false)], [])
  else
  (bif decide (p2q0.length < 9223372036854775808) && decide (p2q1.length < 9223372036854775808) then
  (bif (!(validA p2q0 p2q1)) then
  some ([.agg [((.ints .i64 []), true), ((.ints .i64 []), true)], .one ((.bool false), false)], [])
  else
  (bif decide (p3q0.length < 9223372036854775808) && decide (p3q1.length < 9223372036854775808) then
  (bif (!(validA p3q0 p3q1)) then
  some ([.agg [((.ints .i64 []), true), ((.ints .i64 []), true)], .one ((.bool false), false)], [])
  else
  (bif ((((p2q0.length : Nat) : Int) : Int) == 0) then
  some ([.agg [((.ints .i64 []), true), ((.ints .i64 []), true)], .one ((.bool false), false)], [])
  else
  (bif ((((p3q0.length : Nat) : Int) : Int) == 0) then
  some ([.agg [((.ints .i64 []), true), ((.ints .i64 []), true)], .one ((.bool false), false)], [])
  else
  (idx (IntKind.wrap .i64 (((p2q0.length : Nat) : Int) - 1)) p2q0.length).bind fun j1 =>
  (p2q0[j1]?).bind fun v2 =>
  (idx 0 p3q0.length).bind fun j3 =>
  (p3q0[j3]?).bind fun v4 =>
  (bif ((v2 : Int) != v4) then
  some ([.agg [((.ints .i64 []), true), ((.ints .i64 []), true)], .one ((.bool false), false)], [])
  else
  (cutEnds p3q0.length (some (.imm (.int .i64 1))) (none)).bind fun cq5 =>
  (cutEnds p2q0.length (none) (some (.imm (.int .i64 (IntKind.wrap .i64 (((p2q0.length : Nat) : Int) - 1)))))).bind fun cq6 =>
  (bif fits (([] : List Int).length + ((p2q0.drop cq6.1).take (cq6.2 - cq6.1)).length) 8 then
  (bif fits ((([] : List Int) ++ ((p2q0.drop cq6.1).take (cq6.2 - cq6.1))).length + ((p3q0.drop cq5.1).take (cq5.2 - cq5.1)).length) 8 then
  (bif decide ((((([] : List Int) ++ ((p2q0.drop cq6.1).take (cq6.2 - cq6.1))) ++ ((p3q0.drop cq5.1).take (cq5.2 - cq5.1)))).length < 9223372036854775808) then
  (bif (!(validS (((([] : List Int) ++ ((p2q0.drop cq6.1).take (cq6.2 - cq6.1))) ++ ((p3q0.drop cq5.1).take (cq5.2 - cq5.1)))))) then
  some ([.agg [((.ints .i64 []), true), ((.ints .i64 []), true)], .one ((.bool false), false)], [])
  else
  L0 fuel fuel (t0 p0 p1 p3q0 p3q1 p2q0 p2q1 cq6 cq5 0 ([])) (k0  fuel))
  else
  none)
  else
  none)
  else
  none)))))
  else
  none))
  else
  none))) := by kernel_rfl
theorem s0 (fuel n0 : Nat) (p0 : Int) (p1 : Int) (p3q0 : List Int) (p3q1 : List Int) (p2q0 : List Int) (p2q1 : List Int) (cq6 : Nat × Nat) (cq5 : Nat × Nat) (x0q5 : Int) (x0q9 : List Int) : L0 fuel (n0 + 1) (t0 p0 p1 p3q0 p3q1 p2q0 p2q1 cq6 cq5 x0q5 x0q9) (k0  fuel) =
  (cutEnds p2q0.length (none) (some (.imm (.int .i64 (IntKind.wrap .i64 (((p2q0.length : Nat) : Int) - 1)))))).bind fun cq14 =>
  (bif decide ((((p2q0.drop cq14.1).take (cq14.2 - cq14.1))).length < 9223372036854775808) then
  (bif (decide ((x0q5 : Int) < (volW (((p2q0.drop cq14.1).take (cq14.2 - cq14.1)))))) then
  L1 fuel fuel (t1 p0 p1 p3q0 p3q1 p2q0 x0q5 p2q1 cq6 cq5 0 x0q9) (k1 n0 fuel)
  else
  (bif szB (((([] : List Int) ++ ((p2q0.drop cq6.1).take (cq6.2 - cq6.1))) ++ ((p3q0.drop cq5.1).take (cq5.2 - cq5.1)))) && szB x0q9 then
  some ([.agg [((.ints .i64 (((([] : List Int) ++ ((p2q0.drop cq6.1).take (cq6.2 - cq6.1))) ++ ((p3q0.drop cq5.1).take (cq5.2 - cq5.1))))), true), ((.ints .i64 x0q9), true)], .one ((.bool true), false)], [])
  else
  none))
  else
  none) := by kernel_rfl
theorem s1 (fuel n0 n1 : Nat) (p0 : Int) (p1 : Int) (p3q0 : List Int) (p3q1 : List Int) (p2q0 : List Int) (x0q5 : Int) (p2q1 : List Int) (cq6 : Nat × Nat) (cq5 : Nat × Nat) (x1q6 : Int) (x1q10 : List Int) : L1 fuel (n1 + 1) (t1 p0 p1 p3q0 p3q1 p2q0 x0q5 p2q1 cq6 cq5 x1q6 x1q10) (k1 n0 fuel) =
  (cutEnds p3q0.length (some (.imm (.int .i64 1))) (none)).bind fun cq16 =>
  (bif decide ((((p3q0.drop cq16.1).take (cq16.2 - cq16.1))).length < 9223372036854775808) then
  (bif (decide ((x1q6 : Int) < (volW (((p3q0.drop cq16.1).take (cq16.2 - cq16.1)))))) then
  (bif axB p2q0 p2q1 ((IntKind.wrap .i64 (((p2q0.length : Nat) : Int) - 1))) && laneB p2q0 ((IntKind.wrap .i64 (((p2q0.length : Nat) : Int) - 1))) x0q5 0 then
  (bif axB p3q0 p3q1 0 && laneB p3q0 0 0 x1q6 then
  (bif szB ((lnK p2q0 p2q1 ((IntKind.wrap .i64 (((p2q0.length : Nat) : Int) - 1))) (Int.toNat x0q5) (Int.toNat 0))) then
  (bif szB ((lnK p3q0 p3q1 0 (Int.toNat 0) (Int.toNat x1q6))) then
  (bif validA ([((((lnK p2q0 p2q1 ((IntKind.wrap .i64 (((p2q0.length : Nat) : Int) - 1))) (Int.toNat x0q5) (Int.toNat 0))).length : Nat) : Int)]) (((lnK p2q0 p2q1 ((IntKind.wrap .i64 (((p2q0.length : Nat) : Int) - 1))) (Int.toNat x0q5) (Int.toNat 0)))) && validA ([((((lnK p3q0 p3q1 0 (Int.toNat 0) (Int.toNat x1q6))).length : Nat) : Int)]) (((lnK p3q0 p3q1 0 (Int.toNat 0) (Int.toNat x1q6)))) && fitB ([((((lnK p2q0 p2q1 ((IntKind.wrap .i64 (((p2q0.length : Nat) : Int) - 1))) (Int.toNat x0q5) (Int.toNat 0))).length : Nat) : Int)]) ([((((lnK p3q0 p3q1 0 (Int.toNat 0) (Int.toNat x1q6))).length : Nat) : Int)]) then
  (bif opOk p0 && decide (((cD p1 ([((((lnK p2q0 p2q1 ((IntKind.wrap .i64 (((p2q0.length : Nat) : Int) - 1))) (Int.toNat x0q5) (Int.toNat 0))).length : Nat) : Int)]) (((lnK p2q0 p2q1 ((IntKind.wrap .i64 (((p2q0.length : Nat) : Int) - 1))) (Int.toNat x0q5) (Int.toNat 0)))) ([((((lnK p3q0 p3q1 0 (Int.toNat 0) (Int.toNat x1q6))).length : Nat) : Int)]) (((lnK p3q0 p3q1 0 (Int.toNat 0) (Int.toNat x1q6)))))).length < 9223372036854775808) then
  (bif fits (x1q10.length + ([(redF p0 ((cD p1 ([((((lnK p2q0 p2q1 ((IntKind.wrap .i64 (((p2q0.length : Nat) : Int) - 1))) (Int.toNat x0q5) (Int.toNat 0))).length : Nat) : Int)]) (((lnK p2q0 p2q1 ((IntKind.wrap .i64 (((p2q0.length : Nat) : Int) - 1))) (Int.toNat x0q5) (Int.toNat 0)))) ([((((lnK p3q0 p3q1 0 (Int.toNat 0) (Int.toNat x1q6))).length : Nat) : Int)]) (((lnK p3q0 p3q1 0 (Int.toNat 0) (Int.toNat x1q6)))))))] : List Int).length) 8 then
  L1 fuel n1 (t1 p0 p1 p3q0 p3q1 p2q0 x0q5 p2q1 cq6 cq5 ((IntKind.wrap .i64 (x1q6 + 1))) ((x1q10 ++ [(redF p0 ((cD p1 ([((((lnK p2q0 p2q1 ((IntKind.wrap .i64 (((p2q0.length : Nat) : Int) - 1))) (Int.toNat x0q5) (Int.toNat 0))).length : Nat) : Int)]) (((lnK p2q0 p2q1 ((IntKind.wrap .i64 (((p2q0.length : Nat) : Int) - 1))) (Int.toNat x0q5) (Int.toNat 0)))) ([((((lnK p3q0 p3q1 0 (Int.toNat 0) (Int.toNat x1q6))).length : Nat) : Int)]) (((lnK p3q0 p3q1 0 (Int.toNat 0) (Int.toNat x1q6)))))))]))) (k1 n0 fuel)
  else
  none)
  else
  none)
  else
  none)
  else
  none)
  else
  none)
  else
  none)
  else
  none)
  else
  L0 fuel n0 (t0 p0 p1 p3q0 p3q1 p2q0 p2q1 cq6 cq5 ((IntKind.wrap .i64 (x0q5 + 1))) x1q10) (k0  fuel))
  else
  none) := by kernel_rfl
end spec_InnerProduct
theorem spec_InnerProduct.ok_of (hX : ∀ E ∈ spec_InnerProduct.X, CallSpec Try.prog E) (h : ∀ (f : Int) (g : Int) (sa : List Int) (da : List Int) (sb : List Int) (db : List Int), (decide (sa.length < 9223372036854775808) && decide (da.length < 9223372036854775808) && decide (sb.length < 9223372036854775808) && decide (db.length < 9223372036854775808)) = true → ∃ fuel, runF Try.prog spec_InnerProduct.X spec_InnerProduct.I 0 fuel 77 Try.f77 [.d (.int .i64 f), .d (.int .i64 g), .d (.agg [(.ints .i64 sa), (.ints .i64 da)]), .d (.agg [(.ints .i64 sb), (.ints .i64 db)])] = some ([.agg [((.ints .i64 (inS f g sa da sb db)), true), ((.ints .i64 (inD f g sa da sb db)), true)], .one ((.bool (inB f g sa da sb db)), false)], [])) : CallSpec Try.prog spec_InnerProduct.E :=
  callSpec_of (d := 0) hX (by kernel_rfl) spec_InnerProduct.I_ok (by kernel_rfl) (by kernel_rfl) (by kernel_rfl) (fun _ _ _ _ h => by dsimp only [spec_InnerProduct.E] at h; cases h) (fun xs hp => by
    dsimp only [spec_InnerProduct.E] at hp ⊢
    split at hp
    · exact h _ _ _ _ _ _ hp
    · cases hp)
theorem spec_InnerProduct.inner (fuel n0 : Nat) (f g : Int) (sa da sb db : List Int) (hb : inB f g sa da sb db = true) (hf : 3600 < fuel) (c6 c5 : Nat × Nat) (i : Nat) (hi : i < befN sa (sa.length - 1)) :
    spec_InnerProduct.L1 fuel fuel (spec_InnerProduct.t1 f g sb db sa (i : Int) da c6 c5 0 ((inN f g sa da sb db).take (i * behN sb 0))) (spec_InnerProduct.k1 n0 fuel) = spec_InnerProduct.L0 fuel n0 (spec_InnerProduct.t0 f g sb db sa da c6 c5 ((IntKind.wrap .i64 ((i : Int) + 1))) ((inN f g sa da sb db).take ((i + 1) * behN sb 0))) (spec_InnerProduct.k0 fuel) := by
  obtain ⟨hA, hvs, hvol, h60⟩ := inB_A hb
  obtain ⟨a1, a2, a3, a4, a5, a6, a7⟩ := inA_inv hA
  simp only [inB, Bool.and_eq_true] at hb
  obtain ⟨ja, hja, hja2, hva, axa, hda, _⟩ := axB_inv a1
  obtain ⟨jb, hjb, hjb2, hvb, axb, hdb, _⟩ := axB_inv a2
  have hja3 : ja = sa.length - 1 := by omega
  have hjb3 : jb = 0 := by omega
  subst hja3
  subst hjb3
  have hr := axa.rank
  have hrb := axb.rank
  have hM := axb.beh_le
  have hLa := axa.len_le
  have hlN : (inN f g sa da sb db).length = befN sa (sa.length - 1) * behN sb 0 := by simp only [inN, tab_length, inSh_prod]
  have hprod := inSh_prod (sa := sa) (sb := sb)
  have hK : IntKind.wrap .i64 (((sa.length : Nat) : Int) - 1) = inK sa := by unfold inK; rw [wS (by omega) (by omega)]
  have c2 := cut_one (n := sb.length) (by omega)
  have hdr : (sb.drop 1).take (sb.length - 1) = sb.drop 1 := drop_take
  have hvd := axb.beh
  refine run_loop (N := behN sb 0) (fun n m out => spec_InnerProduct.L1 fuel n (spec_InnerProduct.t1 f g sb db sa (i : Int) da c6 c5 (m : Int) out) (spec_InnerProduct.k1 n0 fuel)) (fun m out => out = (inN f g sa da sb db).take (i * behN sb 0 + m)) ?_ ?_ fuel 0 _ (by omega) (by omega) rfl
  · intro n out ho
    rw [spec_InnerProduct.s1, c2]
    simp only [Option.bind_some, hdr]
    rw [lt_of (by simp only [List.length_drop]; omega), cond_true, hvd, dge (by omega), cond_false, ho, Nat.add_mul, Nat.one_mul]
  · intro n m out hm ho
    obtain ⟨e1, e2, e3⟩ := enc2 hi hm
    have hol : out.length = i * behN sb 0 + m := by rw [ho, take_len (by omega)]
    have hx : lnK sa da (inK sa) i 0 = inX sa da sb (i * behN sb 0 + m) := by rw [inX, e2]
    have hy : lnK sb db 0 0 m = inY sb db (i * behN sb 0 + m) := by rw [inY, e3]
    have l1 := inX_length (sa := sa) (da := da) (sb := sb) (n := i * behN sb 0 + m) a5
    have l2 := inY_length (sb := sb) (db := db) (n := i * behN sb 0 + m)
    have hl1 : laneB sa (inK sa) (i : Int) 0 = true := by
      simp only [laneB, a6, Int.toNat_natCast, a7, Bool.and_eq_true, decide_eq_true_eq]
      refine ⟨⟨⟨by omega, by omega⟩, by omega⟩, by omega⟩
    have hl2 : laneB sb 0 0 (m : Int) = true := by
      simp only [laneB, show (0 : Int).toNat = 0 from rfl, show befN sb 0 = 1 from rfl, Bool.and_eq_true, decide_eq_true_eq]
      refine ⟨⟨⟨by omega, by omega⟩, by omega⟩, by omega⟩
    obtain ⟨x1, x2, x3, x4, x5⟩ := inX_eq hA (n := i * behN sb 0 + m) (by omega)
    have v1 := lnD_valid hva hja2 (i := i) (m := 0) hi (by omega)
    have v2 := lnD_valid hvb hjb2 (i := 0) (m := m) (by rw [x5]; omega) hm
    rw [e2] at x1
    rw [e3] at x2
    rw [← x1] at v1
    rw [← x2] at v2
    have v1' : validA [(((inX sa da sb (i * behN sb 0 + m)).length : Nat) : Int)] (inX sa da sb (i * behN sb 0 + m)) = true := by rw [l1]; exact v1
    have v2' : validA [(((inY sb db (i * behN sb 0 + m)).length : Nat) : Int)] (inY sb db (i * behN sb 0 + m)) = true := by rw [l2]; exact v2
    have hfit : fitB [(((inX sa da sb (i * behN sb 0 + m)).length : Nat) : Int)] [(((inY sb db (i * behN sb 0 + m)).length : Nat) : Int)] = true := by
      rw [l1, l2, a3]
      simp [fitB]
    have hcd := cD_vec g (ys := inY sb db (i * behN sb 0 + m)) v1' (by omega)
    rw [spec_InnerProduct.s1, c2]
    simp only [Option.bind_some, hdr, hK, Int.toNat_natCast, show Int.toNat 0 = 0 from rfl]
    rw [lt_of (by simp only [List.length_drop]; omega), cond_true, hvd, dlt hm, cond_true, a1, a2, hl1, hl2, hx, hy, szB_of (by omega), szB_of (by omega), v1', v2', hfit, hcd, hb.1.1.1.1.1, lt_of (by rw [pwD_q2, tab_length]; omega), w1 (by omega)]
    simp only [Bool.and_self, cond_true]
    rw [fitsOk (by simp only [List.length_cons, List.length_nil]; omega), cond_true]
    refine ⟨_, ?_, rfl⟩
    rw [ho]
    refine take_push (by omega) ?_
    simp only [inN]
    rw [tab_getD (by omega)]
    rfl
theorem spec_InnerProduct.loop (fuel : Nat) (f g : Int) (sa da sb db : List Int) (hb : inB f g sa da sb db = true) (hf : 3600 < fuel) :
    spec_InnerProduct.L0 fuel fuel (spec_InnerProduct.t0 f g sb db sa da (0, sa.length - 1) (1, sb.length) 0 []) (spec_InnerProduct.k0 fuel) = some ([.agg [((.ints .i64 (inSh sa sb)), true), ((.ints .i64 (inN f g sa da sb db)), true)], .one ((.bool true), false)], []) := by
  obtain ⟨hA, hvs, hvol, h60⟩ := inB_A hb
  obtain ⟨a1, a2, a3, a4, a5, a6, a7⟩ := inA_inv hA
  obtain ⟨ja, hja, hja2, hva, axa, hda, _⟩ := axB_inv a1
  obtain ⟨jb, hjb, hjb2, hvb, axb, hdb, _⟩ := axB_inv a2
  have hja3 : ja = sa.length - 1 := by omega
  subst hja3
  have hr := axa.rank
  have hrb := axb.rank
  have hM := axa.bef_le
  have hK : IntKind.wrap .i64 (((sa.length : Nat) : Int) - 1) = ((sa.length - 1 : Nat) : Int) := by rw [wS (by omega) (by omega)]; omega
  have c1 : cutEnds sa.length none (some (.imm (.int .i64 ((sa.length - 1 : Nat) : Int)))) = some (0, sa.length - 1) := cut_hi (by omega)
  have hlN : (inN f g sa da sb db).length = befN sa (sa.length - 1) * behN sb 0 := by simp only [inN, tab_length, inSh_prod]
  have hprod := inSh_prod (sa := sa) (sb := sb)
  have htk : (sa.drop 0).take (sa.length - 1 - 0) = sa.take (sa.length - 1) := by rw [List.drop_zero, Nat.sub_zero]
  have hvt := axa.bef
  refine run_loop (N := befN sa (sa.length - 1)) (fun n i out => spec_InnerProduct.L0 fuel n (spec_InnerProduct.t0 f g sb db sa da (0, sa.length - 1) (1, sb.length) (i : Int) out) (spec_InnerProduct.k0 fuel)) (fun i out => out = (inN f g sa da sb db).take (i * behN sb 0)) ?_ ?_ fuel 0 _ (by omega) (by omega) (by simp)
  · intro n out ho
    rw [← hlN, List.take_length] at ho
    rw [spec_InnerProduct.s0, hK, c1]
    simp only [Option.bind_some, htk]
    rw [lt_of (by simp only [List.length_take]; omega), cond_true, hvt, dge (by omega), cond_false, List.nil_append, ← htk, in_parts, szB_of (by simp only [inSh, List.length_append, List.length_take, List.length_drop]; omega), szB_of (by rw [ho]; omega), ho]
    rfl
  · intro n i out hi ho
    rw [spec_InnerProduct.s0, hK, c1]
    simp only [Option.bind_some, htk]
    rw [lt_of (by simp only [List.length_take]; omega), cond_true, hvt, dlt hi, cond_true, ho, spec_InnerProduct.inner fuel n f g sa da sb db hb hf _ _ i hi, w1 (by omega)]
    exact ⟨_, rfl, rfl⟩
theorem spec_InnerProduct.ok : CallSpec Try.prog spec_InnerProduct.E := spec_InnerProduct.ok_of (by simp [spec_InnerProduct.X, spec_validOp.ok, spec_valid.ok, spec_validShape.ok, spec_volume.ok, spec_lane.ok, spec_vector.ok, spec_combine.ok, spec_fold.ok, spec_make1.ok]) fun f g sa da sb db h => by
  obtain ⟨F, hF⟩ : ∃ F : Nat, 3600 < F := ⟨3601, by omega⟩
  refine ⟨F, ?_⟩
  simp only [Bool.and_eq_true] at h
  rw [spec_InnerProduct.e, h.1.1.1, h.1.1.2, h.1.2, h.2]
  unfold inS inD
  cases h1 : opOk f with
  | false => simp only [inB, h1]; rfl
  | true =>
    cases h2 : opOk g with
    | false => simp only [inB, h1, h2]; rfl
    | true =>
      cases h3 : validA sa da with
      | false => simp only [inB, h1, h2, axB, h3]; rfl
      | true =>
        cases h4 : validA sb db with
        | false => simp only [inB, h1, h2, axB, h3, h4, Bool.false_and, Bool.and_false]; rfl
        | true =>
          have hr := (validS_inv (validA_inv h3).1).1
          have hrb := (validS_inv (validA_inv h4).1).1
          by_cases h5 : sa.length = 0
          · have : inB f g sa da sb db = false := by
              have : axOk sa (inK sa) = false := by simp only [axOk, inK]; simp; omega
              simp only [inB, axB, this, Bool.and_false, Bool.false_and]
            rw [this, h5]; rfl
          · have q5 : (((sa.length : Nat) : Int) == 0) = false := by rw [beq_eq_false_iff_ne]; omega
            by_cases h6 : sb.length = 0
            · have : inB f g sa da sb db = false := by
                have : axOk sb 0 = false := by rw [axOk, decide_eq_false (p := (0 : Int) < ((sb.length : Nat) : Int)) (by omega), Bool.and_false]
                simp only [inB, axB, this, Bool.and_false, Bool.false_and]
              rw [this, h6, q5]; rfl
            · have q6 : (((sb.length : Nat) : Int) == 0) = false := by rw [beq_eq_false_iff_ne]; omega
              have a1 : axB sa da (inK sa) = true := by
                rw [show inK sa = ((sa.length - 1 : Nat) : Int) by unfold inK; omega]; exact axB_of h3 (by omega)
              have a2 : axB sb db 0 = true := axB_of (k := 0) h4 (by omega)
              have axa := ax_of (validA_inv h3).1 (k := sa.length - 1) (by omega)
              have axb := ax_of (validA_inv h4).1 (k := 0) (by omega)
              have hK : IntKind.wrap .i64 (((sa.length : Nat) : Int) - 1) = ((sa.length - 1 : Nat) : Int) := by rw [wS (by omega) (by omega)]; omega
              have i0 : idx 0 sb.length = some 0 := idx_nat (j := 0) (by omega)
              have c1 : cutEnds sa.length none (some (.imm (.int .i64 ((sa.length - 1 : Nat) : Int)))) = some (0, sa.length - 1) := cut_hi (by omega)
              have c2 := cut_one (n := sb.length) (by omega)
              have g1 := getD_get (A := sa) (n := sa.length - 1) (by omega)
              have g2 := getD_get (A := sb) (n := 0) (by omega)
              rw [axa.len] at g1
              rw [axb.len] at g2
              rw [q5, q6, hK, idx_nat (j := sa.length - 1) (by omega), i0]
              simp only [Option.bind_some, g1, g2, c1, c2]
              by_cases h7 : lenN sa (sa.length - 1) = lenN sb 0
              · have hne : (((lenN sb 0 : Nat) : Int) != ((lenN sb 0 : Nat) : Int)) = false := by simp
                rw [h7, hne, fitsOk (by simp only [List.length_nil, List.length_take, List.length_drop]; omega), fitsOk (by simp only [List.length_nil, List.nil_append, List.length_take, List.length_drop]; omega), List.nil_append, in_parts, lt_of (by simp only [inSh, List.length_append, List.length_take, List.length_drop]; omega)]
                cases h8 : validS (inSh sa sb) with
                | false =>
                  have : inB f g sa da sb db = false := by simp only [inB, h8, Bool.and_false]
                  rw [this]; rfl
                | true =>
                  have hb : inB f g sa da sb db = true := by simp only [inB, h1, h2, a1, a2, h7, h8, decide_true, Bool.and_self]
                  rw [hb]
                  exact spec_InnerProduct.loop F f g sa da sb db hb hF
              · have hne : (((lenN sa (sa.length - 1) : Nat) : Int) != ((lenN sb 0 : Nat) : Int)) = true := by simp; omega
                have : inB f g sa da sb db = false := by simp only [inB, decide_eq_false h7, Bool.and_false, Bool.false_and]
                rw [hne, this]; rfl

namespace spec_SumProduct
noncomputable def E : Entry := ⟨35, false, false, fun | [.d (.agg [(.ints .i64 sa), (.ints .i64 da)]), .d (.agg [(.ints .i64 sb), (.ints .i64 db)])] => decide (sa.length < 9223372036854775808) && decide (da.length < 9223372036854775808) && decide (sb.length < 9223372036854775808) && decide (db.length < 9223372036854775808) | _ => false, fun | [.d (.agg [(.ints .i64 sa), (.ints .i64 da)]), .d (.agg [(.ints .i64 sb), (.ints .i64 db)])] => ([.agg [((.ints .i64 (inS 1 3 sa da sb db)), true), ((.ints .i64 (inD 1 3 sa da sb db)), true)], .one ((.bool (inB 1 3 sa da sb db)), false)], []) | _ => ([], []), fun _ => [], true, fun _ => none⟩
end spec_SumProduct
namespace spec_SumProduct
noncomputable def X : List Entry := [spec_InnerProduct.E]
noncomputable def I : List Inl := [⟨35, Try.f35, ⟨[8], [], [], [], [], []⟩⟩]
theorem I_ok : ∀ i ∈ I, Try.prog.funcs[i.f]? = some i.fn ∧ (i.fn.name == "runtime.NumGoroutine") = false := by
  intro i hi
  simp only [I, List.mem_cons, List.not_mem_nil, or_false] at hi
  subst hi
  exact ⟨by kernel_rfl, by kernel_rfl⟩
theorem e (fuel : Nat) (p0q0 : List Int) (p0q1 : List Int) (p1q0 : List Int) (p1q1 : List Int) : runF Try.prog X I 0 fuel 35 Try.f35 [.d (.agg [(.ints .i64 p0q0), (.ints .i64 p0q1)]), .d (.agg [(.ints .i64 p1q0), (.ints .i64 p1q1)])] =
  (bif decide (p0q0.length < 9223372036854775808) && decide (p0q1.length < 9223372036854775808) && decide (p1q0.length < 9223372036854775808) && decide (p1q1.length < 9223372036854775808) then
  some ([.agg [((.ints .i64 (inS 1 3 p0q0 p0q1 p1q0 p1q1)), true), ((.ints .i64 (inD 1 3 p0q0 p0q1 p1q0 p1q1)), true)], .one ((.bool (inB 1 3 p0q0 p0q1 p1q0 p1q1)), false)], [])
  else
  none) := by kernel_rfl
end spec_SumProduct
theorem spec_SumProduct.ok_of (hX : ∀ E ∈ spec_SumProduct.X, CallSpec Try.prog E) (h : ∀ (sa : List Int) (da : List Int) (sb : List Int) (db : List Int), (decide (sa.length < 9223372036854775808) && decide (da.length < 9223372036854775808) && decide (sb.length < 9223372036854775808) && decide (db.length < 9223372036854775808)) = true → ∃ fuel, runF Try.prog spec_SumProduct.X spec_SumProduct.I 0 fuel 35 Try.f35 [.d (.agg [(.ints .i64 sa), (.ints .i64 da)]), .d (.agg [(.ints .i64 sb), (.ints .i64 db)])] = some ([.agg [((.ints .i64 (inS 1 3 sa da sb db)), true), ((.ints .i64 (inD 1 3 sa da sb db)), true)], .one ((.bool (inB 1 3 sa da sb db)), false)], [])) : CallSpec Try.prog spec_SumProduct.E :=
  callSpec_of (d := 0) hX (by kernel_rfl) spec_SumProduct.I_ok (by kernel_rfl) (by kernel_rfl) (by kernel_rfl) (fun _ _ _ _ h => by dsimp only [spec_SumProduct.E] at h; cases h) (fun xs hp => by
    dsimp only [spec_SumProduct.E] at hp ⊢
    split at hp
    · exact h _ _ _ _ hp
    · cases hp)
theorem spec_SumProduct.ok : CallSpec Try.prog spec_SumProduct.E := spec_SumProduct.ok_of (by simp [spec_SumProduct.X, spec_InnerProduct.ok]) fun sa da sb db h => ⟨0, by
  rw [spec_SumProduct.e, h]
  rfl⟩

namespace spec_PowerOf
noncomputable def E : Entry := ⟨11, false, false, fun | [.d (.agg [(.ints .i64 sh), (.ints .i64 da)]), .d (.int .i64 n)] => decide (sh.length < 9223372036854775808) && decide (da.length < 9223372036854775808) | _ => false, fun | [.d (.agg [(.ints .i64 sh), (.ints .i64 da)]), .d (.int .i64 n)] => ([.agg [((.ints .i64 (pwS sh da n)), true), ((.ints .i64 (ppD sh da n)), true)], .one ((.bool (poOk sh da n)), false)], []) | _ => ([], []), fun _ => [], true, fun _ => none⟩
end spec_PowerOf
namespace spec_PowerOf
noncomputable def X : List Entry := [spec_isSquare.E, spec_inRange.E, spec_Identity.E, spec_SumProduct.E]
noncomputable def I : List Inl := [⟨11, Try.f11, ⟨[21, 30], [(1000005, [0, 3, 5, 8, 9, 10, 11, 12, 13, 14, 15, 16, 17, 18, 19, 20, 21, 22, 23, 24, 25, 26, 27, 28, 29, 30, 31, 32, 33])], [], [], [], []⟩⟩]
theorem I_ok : ∀ i ∈ I, Try.prog.funcs[i.f]? = some i.fn ∧ (i.fn.name == "runtime.NumGoroutine") = false := by
  intro i hi
  simp only [I, List.mem_cons, List.not_mem_nil, or_false] at hi
  subst hi
  exact ⟨by kernel_rfl, by kernel_rfl⟩
noncomputable abbrev L0 (fuel n : Nat) (s : St) (k : Kont) := lAt Try.prog X I fuel true 0 false 11 (bodyOf Try.f11) [1, 1, 1, 0, 1, 0] n s k
noncomputable abbrev k0  (fuel : Nat) : Kont := (kAt Try.prog X I fuel true 0 false 11 (bodyOf Try.f11) [1, 1, 1, 0, 1, 0] [] (endK Try.prog Try.f11))
noncomputable def t0 (p1 : Int) (p0q0 : List Int) (p0q1 : List Int) (x0q1 : Int) (x0q4 : List Int) (x0q5 : List Int) : St := ⟨[.dead, (.imm (.int .i64 p1)), (.ptr 1000000000 0 0), .dead, (.ptr 1000000001 0 0), .dead, (.ptr 1000000002 0 0), (.imm (.int .i64 x0q1)), .dead, .dead, .dead, .dead, .dead, .dead, .dead, .dead, .dead, .dead, .dead, .dead, .dead, .dead, .dead, .dead, .dead, .dead, .dead, .dead, .dead, .dead, .dead, .dead, .dead, .dead], hOf [(1000000000, (.box [(.imm (.ints .i64 p0q0)), (.imm (.ints .i64 p0q1))])), (1000000001, (.box [(.imm .nils), (.imm .nils)])), (1000000002, (.box [(.all 1000000003 1), (.all 1000000004 1)])), (1000000003, (.ints .i64 x0q4)), (1000000004, (.ints .i64 x0q5))], [], []⟩
theorem e (fuel : Nat) (p0q0 : List Int) (p0q1 : List Int) (p1 : Int) : runF Try.prog X I 0 fuel 11 Try.f11 [.d (.agg [(.ints .i64 p0q0), (.ints .i64 p0q1)]), .d (.int .i64 p1)] =
  (bif decide (p0q0.length < 9223372036854775808) && decide (p0q1.length < 9223372036854775808) then
  (bif (!(sqB p0q0 p0q1)) then
  some ([.agg [((.ints .i64 []), true), ((.ints .i64 []), true)], .one ((.bool false), false)], [])
  else
  (bif (!(decide (0 ≤ p1) && decide (p1 ≤ 5))) then
  some ([.agg [((.ints .i64 []), true), ((.ints .i64 []), true)], .one ((.bool false), false)], [])
  else
  (idx 0 p0q0.length).bind fun j1 =>
  (p0q0[j1]?).bind fun v2 =>
  L0 fuel fuel (t0 p1 p0q0 p0q1 0 ((idS v2)) ((idD v2))) (k0  fuel)))
  else
  none) := by kernel_rfl
theorem s0 (fuel n0 : Nat) (p1 : Int) (p0q0 : List Int) (p0q1 : List Int) (x0q1 : Int) (x0q4 : List Int) (x0q5 : List Int) : L0 fuel (n0 + 1) (t0 p1 p0q0 p0q1 x0q1 x0q4 x0q5) (k0  fuel) =
  (bif (decide ((x0q1 : Int) < p1)) then
  (bif decide (x0q4.length < 9223372036854775808) && decide (x0q5.length < 9223372036854775808) && decide (p0q0.length < 9223372036854775808) && decide (p0q1.length < 9223372036854775808) then
  L0 fuel n0 (t0 p1 p0q0 p0q1 ((IntKind.wrap .i64 (x0q1 + 1))) ((inS 1 3 x0q4 x0q5 p0q0 p0q1)) ((inD 1 3 x0q4 x0q5 p0q0 p0q1))) (k0  fuel)
  else
  none)
  else
  some ([.agg [((.ints .i64 x0q4), true), ((.ints .i64 x0q5), true)], .one ((.bool true), false)], [])) := by kernel_rfl
end spec_PowerOf
theorem spec_PowerOf.ok_of (hX : ∀ E ∈ spec_PowerOf.X, CallSpec Try.prog E) (h : ∀ (sh : List Int) (da : List Int) (n : Int), (decide (sh.length < 9223372036854775808) && decide (da.length < 9223372036854775808)) = true → ∃ fuel, runF Try.prog spec_PowerOf.X spec_PowerOf.I 0 fuel 11 Try.f11 [.d (.agg [(.ints .i64 sh), (.ints .i64 da)]), .d (.int .i64 n)] = some ([.agg [((.ints .i64 (pwS sh da n)), true), ((.ints .i64 (ppD sh da n)), true)], .one ((.bool (poOk sh da n)), false)], [])) : CallSpec Try.prog spec_PowerOf.E :=
  callSpec_of (d := 0) hX (by kernel_rfl) spec_PowerOf.I_ok (by kernel_rfl) (by kernel_rfl) (by kernel_rfl) (fun _ _ _ _ h => by dsimp only [spec_PowerOf.E] at h; cases h) (fun xs hp => by
    dsimp only [spec_PowerOf.E] at hp ⊢
    split at hp
    · exact h _ _ _ hp
    · cases hp)
theorem spec_PowerOf.ok : CallSpec Try.prog spec_PowerOf.E := spec_PowerOf.ok_of (by simp [spec_PowerOf.X, spec_isSquare.ok, spec_inRange.ok, spec_Identity.ok, spec_SumProduct.ok]) fun sh da n h => by
  obtain ⟨F, hF⟩ : ∃ F : Nat, 100 < F := ⟨101, by omega⟩
  refine ⟨F, ?_⟩
  rw [spec_PowerOf.e, h, cond_true]
  unfold pwS ppD poOk
  cases hb : sqB sh da with
  | false => rfl
  | true =>
    cases hp : decide (0 ≤ n) && decide (n ≤ 5) with
    | false => rfl
    | true =>
      simp only [Bool.and_eq_true, decide_eq_true_eq] at hp h
      obtain ⟨p, rfl⟩ : ∃ p : Nat, n = p := ⟨n.toNat, by omega⟩
      obtain ⟨k, hk, hsh, hl, hv, ha⟩ := sqB_inv hb
      have h4 := sq4 hk
      have hF2 := pow_facts hk hl hv hsh
      have ix : idx 0 sh.length = some 0 := by rw [hsh]; rfl
      have ig : sh[0]? = some (k : Int) := by rw [hsh]; rfl
      rw [ix]
      simp only [Option.bind_some, ig]
      rw [(idSD hk).1, (idSD hk).2]
      simp only [Bool.and_self, Bool.not_true, cond_false, cond_true, Int.toNat_natCast]
      refine run_loop (N := p) (fun m j (st : List Int × List Int) => spec_PowerOf.L0 F m (spec_PowerOf.t0 (p : Int) sh da (j : Int) st.1 st.2) (spec_PowerOf.k0 F)) (fun j st => st.1 = sh ∧ st.2 = powL sh da j) ?_ ?_ F 0 (_, _) (by omega) (by omega) ⟨hsh.symm, by rw [hsh]; rfl⟩
      · rintro m ⟨s1, s2⟩ ⟨e1, e2⟩
        simp only at e1 e2
        subst s1; subst s2
        rw [spec_PowerOf.s0, dge (by omega), cond_false]
      · rintro m j ⟨s1, s2⟩ hj ⟨e1, e2⟩
        simp only at e1 e2
        subst s1; subst s2
        obtain ⟨q1, q2, q3⟩ := hF2 j
        dsimp only
        rw [spec_PowerOf.s0, dlt hj, cond_true, w1 (by omega), lt_of (by omega), lt_of (by omega), lt_of (by omega)]
        refine ⟨(sh, powL sh da (j + 1)), ⟨rfl, rfl⟩, ?_⟩
        rw [q2, q3]
        rfl

namespace laws_equalInts
noncomputable def E : Entry := ⟨18, true, false, fun | [.d (.ints .i64 xs), .d (.ints .i64 ys)] => decide (xs.length < 9223372036854775808) && decide (ys.length < 9223372036854775808) | _ => false, fun | [.d (.ints .i64 xs), .d (.ints .i64 ys)] => ([.one ((.bool (decide (xs = ys))), false)], []) | _ => ([], []), fun _ => [], false, fun _ => none⟩
end laws_equalInts
namespace laws_equalInts
noncomputable def X : List Entry := []
noncomputable def I : List Inl := [⟨18, Try.f18, ⟨[], [(1000004, [2, 3, 4, 6, 7, 8, 9, 10, 11, 12, 13, 14, 15, 16, 17, 18, 19, 20, 21, 22, 23, 24, 25])], [], [(6, [0, 1, 4, 5, 2, 3, 6, 7, 8])], [], []⟩⟩]
theorem I_ok : ∀ i ∈ I, Try.prog.funcs[i.f]? = some i.fn ∧ (i.fn.name == "runtime.NumGoroutine") = false := by
  intro i hi
  simp only [I, List.mem_cons, List.not_mem_nil, or_false] at hi
  subst hi
  exact ⟨by kernel_rfl, by kernel_rfl⟩
noncomputable abbrev L0 (fuel n : Nat) (s : St) (k : Kont) := lAt Try.prog X I fuel true 0 false 18 (bodyOf Try.f18) [1, 1, 0, 1, 0] n s k
noncomputable abbrev k0  (fuel : Nat) : Kont := (kAt Try.prog X I fuel true 0 false 18 (bodyOf Try.f18) [1, 1, 0, 1, 0] [] (endK Try.prog Try.f18))
noncomputable def t0 (p0 : List Int) (p1 : List Int) (x0q2 : Int) : St := ⟨[(.imm (.ints .i64 p0)), (.imm (.ints .i64 p1)), .dead, .dead, .dead, (.imm (.int .i64 x0q2)), .dead, .dead, .dead, .dead, .dead, .dead, .dead, .dead, .dead, .dead, .dead, .dead, .dead, .dead, .dead, .dead, .dead, .dead, .dead, .dead], hOf [], [], []⟩
theorem e (fuel : Nat) (p0 : List Int) (p1 : List Int) : runF Try.prog X I 0 fuel 18 Try.f18 [.d (.ints .i64 p0), .d (.ints .i64 p1)] =
  (bif ((((p0.length : Nat) : Int) : Int) != ((p1.length : Nat) : Int)) then
  some ([.one ((.bool false), false)], [])
  else
  L0 fuel fuel (t0 p0 p1 0) (k0  fuel)) := by kernel_rfl
theorem s0 (fuel n0 : Nat) (p0 : List Int) (p1 : List Int) (x0q2 : Int) : L0 fuel (n0 + 1) (t0 p0 p1 x0q2) (k0  fuel) =
  (bif (decide ((x0q2 : Int) < ((p0.length : Nat) : Int))) then
  (idx x0q2 p0.length).bind fun j9 =>
  (p0[j9]?).bind fun v10 =>
  (idx x0q2 p1.length).bind fun j11 =>
  (p1[j11]?).bind fun v12 =>
  (bif ((v10 : Int) != v12) then
  some ([.one ((.bool false), false)], [])
  else
  L0 fuel n0 (t0 p0 p1 ((IntKind.wrap .i64 (x0q2 + 1)))) (k0  fuel))
  else
  some ([.one ((.bool true), false)], [])) := by kernel_rfl
end laws_equalInts
theorem laws_equalInts.ok_of (hX : ∀ E ∈ laws_equalInts.X, CallSpec Try.prog E) (h : ∀ (xs : List Int) (ys : List Int), (decide (xs.length < 9223372036854775808) && decide (ys.length < 9223372036854775808)) = true → ∃ fuel, runF Try.prog laws_equalInts.X laws_equalInts.I 0 fuel 18 Try.f18 [.d (.ints .i64 xs), .d (.ints .i64 ys)] = some ([.one ((.bool (decide (xs = ys))), false)], [])) : CallSpec Try.prog laws_equalInts.E :=
  callSpec_of (d := 0) hX (by kernel_rfl) laws_equalInts.I_ok (by kernel_rfl) (by kernel_rfl) (by kernel_rfl) (fun _ _ _ _ h => by dsimp only [laws_equalInts.E] at h; cases h) (fun xs hp => by
    dsimp only [laws_equalInts.E] at hp ⊢
    split at hp
    · exact h _ _ hp
    · cases hp)
theorem laws_equalInts.loop (fuel : Nat) (xs ys : List Int) (hl : xs.length = ys.length) (hx : xs.length < 9223372036854775808) : ∀ (m n j : Nat), xs.length - j = m → m < n → j ≤ xs.length →
    laws_equalInts.L0 fuel n (laws_equalInts.t0 xs ys (j : Int)) (laws_equalInts.k0 fuel) = some ([.one (.bool (decide (xs.drop j = ys.drop j)), false)], []) := by
  intro m
  induction m with
  | zero =>
    intro n j h1 h2 h3
    obtain ⟨n, rfl⟩ : ∃ n', n = n' + 1 := ⟨n - 1, by omega⟩
    have hj : ¬ j < xs.length := by omega
    rw [laws_equalInts.s0, dge hj, dropE hj, dropE (xs := ys) (by omega)]
    rfl
  | succ m ih =>
    intro n j h1 h2 h3
    obtain ⟨n, rfl⟩ : ∃ n', n = n' + 1 := ⟨n - 1, by omega⟩
    have hj : j < xs.length := by omega
    have hj2 : j < ys.length := by omega
    rw [laws_equalInts.s0, dlt hj, idx_nat hj, idx_nat hj2, w1 (by omega), dropS hj, dropS hj2]
    simp only [cond_true, Option.bind_some, getS hj, getS hj2]
    rw [ih n (j + 1) (by omega) (by omega) (by omega)]
    by_cases hv : xs[j] = ys[j]
    · rw [hv]
      simp only [bne_self_eq_false, cond_false, List.cons.injEq, true_and]
    · have : (xs[j] != ys[j]) = true := by simp [hv]
      rw [this]
      simp only [cond_true, List.cons.injEq, hv, false_and, decide_false]

theorem laws_equalInts.ok : CallSpec Try.prog laws_equalInts.E := laws_equalInts.ok_of (by simp [laws_equalInts.X]) fun xs ys h => by
  simp only [Bool.and_eq_true, decide_eq_true_eq] at h
  refine ⟨xs.length + 1, ?_⟩
  rw [laws_equalInts.e]
  by_cases hl : xs.length = ys.length
  · have := laws_equalInts.loop (xs.length + 1) xs ys hl h.1 xs.length (xs.length + 1) 0 (by omega) (by omega) (by omega)
    simp only [List.drop_zero] at this
    simp only [hl, bne_self_eq_false, cond_false]
    rw [← hl]
    exact this
  · have hne : xs ≠ ys := fun e => hl (e ▸ rfl)
    have : (((xs.length : Nat) : Int) != ((ys.length : Nat) : Int)) = true := by simp; omega
    rw [this]
    simp [hne]

namespace laws_equalArray
noncomputable def E : Entry := ⟨12, true, false, fun | [.d (.agg [(.ints .i64 sa), (.ints .i64 da)]), .d (.agg [(.ints .i64 sb), (.ints .i64 db)])] => decide (sa.length < 9223372036854775808) && decide (da.length < 9223372036854775808) && decide (sb.length < 9223372036854775808) && decide (db.length < 9223372036854775808) | _ => false, fun | [.d (.agg [(.ints .i64 sa), (.ints .i64 da)]), .d (.agg [(.ints .i64 sb), (.ints .i64 db)])] => ([.one ((.bool (decide (sa = sb) && decide (da = db))), false)], []) | _ => ([], []), fun _ => [], false, fun _ => none⟩
end laws_equalArray
namespace laws_equalArray
noncomputable def X : List Entry := [laws_equalInts.E]
noncomputable def I : List Inl := [⟨12, Try.f12, ⟨[], [], [], [], [], []⟩⟩]
theorem I_ok : ∀ i ∈ I, Try.prog.funcs[i.f]? = some i.fn ∧ (i.fn.name == "runtime.NumGoroutine") = false := by
  intro i hi
  simp only [I, List.mem_cons, List.not_mem_nil, or_false] at hi
  subst hi
  exact ⟨by kernel_rfl, by kernel_rfl⟩
theorem e (fuel : Nat) (p0q0 : List Int) (p0q1 : List Int) (p1q0 : List Int) (p1q1 : List Int) : runF Try.prog X I 0 fuel 12 Try.f12 [.d (.agg [(.ints .i64 p0q0), (.ints .i64 p0q1)]), .d (.agg [(.ints .i64 p1q0), (.ints .i64 p1q1)])] =
  (bif decide (p0q0.length < 9223372036854775808) && decide (p1q0.length < 9223372036854775808) then
  (bif (decide (p0q0 = p1q0)) then
  (bif decide (p0q1.length < 9223372036854775808) && decide (p1q1.length < 9223372036854775808) then
  some ([.one ((.bool (decide (p0q1 = p1q1))), false)], [])
  else
  none)
  else
  some ([.one ((.bool false), false)], []))
  else
  none) := by kernel_rfl
end laws_equalArray
theorem laws_equalArray.ok_of (hX : ∀ E ∈ laws_equalArray.X, CallSpec Try.prog E) (h : ∀ (sa : List Int) (da : List Int) (sb : List Int) (db : List Int), (decide (sa.length < 9223372036854775808) && decide (da.length < 9223372036854775808) && decide (sb.length < 9223372036854775808) && decide (db.length < 9223372036854775808)) = true → ∃ fuel, runF Try.prog laws_equalArray.X laws_equalArray.I 0 fuel 12 Try.f12 [.d (.agg [(.ints .i64 sa), (.ints .i64 da)]), .d (.agg [(.ints .i64 sb), (.ints .i64 db)])] = some ([.one ((.bool (decide (sa = sb) && decide (da = db))), false)], [])) : CallSpec Try.prog laws_equalArray.E :=
  callSpec_of (d := 0) hX (by kernel_rfl) laws_equalArray.I_ok (by kernel_rfl) (by kernel_rfl) (by kernel_rfl) (fun _ _ _ _ h => by dsimp only [laws_equalArray.E] at h; cases h) (fun xs hp => by
    dsimp only [laws_equalArray.E] at hp ⊢
    split at hp
    · exact h _ _ _ _ hp
    · cases hp)
theorem laws_equalArray.ok : CallSpec Try.prog laws_equalArray.E := laws_equalArray.ok_of (by simp [laws_equalArray.X, laws_equalInts.ok]) fun sa da sb db h => ⟨0, by
  simp only [Bool.and_eq_true, decide_eq_true_eq] at h
  obtain ⟨⟨⟨h1, h2⟩, h3⟩, h4⟩ := h
  rw [laws_equalArray.e]
  simp only [h1, h2, h3, h4, decide_true, Bool.and_self, cond_true]
  cases decide (sa = sb) <;> cases decide (da = db) <;> rfl⟩

namespace laws_FnPowerOf
noncomputable def E : Entry := ⟨3, true, false, fun | [.d (.ints .u8 bs)] => bytesB bs | _ => false, fun | [.d (.ints .u8 bs)] => ([.one ((.bool true), false)], []) | _ => ([], []), fun _ => [], false, fun _ => none⟩
end laws_FnPowerOf
namespace laws_FnPowerOf
noncomputable def X : List Entry := [spec_DrawPowerOf.E, impl_PowerOf.E, spec_PowerOf.E, laws_equalArray.E, impl_SumProduct.E]
noncomputable def I : List Inl := [⟨3, Try.f3, ⟨[18, 24, 30, 62, 68], [], [], [], [], []⟩⟩]
theorem I_ok : ∀ i ∈ I, Try.prog.funcs[i.f]? = some i.fn ∧ (i.fn.name == "runtime.NumGoroutine") = false := by
  intro i hi
  simp only [I, List.mem_cons, List.not_mem_nil, or_false] at hi
  subst hi
  exact ⟨by kernel_rfl, by kernel_rfl⟩
theorem e (fuel : Nat) (p0 : List Int) : runF Try.prog X I 0 fuel 3 Try.f3 [.d (.ints .u8 p0)] =
  (bif (decide ((((p0.length : Nat) : Int) : Int) > 1048576)) then
  some ([.one ((.bool true), false)], [])
  else
  (bif bytesB p0 then
  (bif decide (((asS (cutC p0) 0)).length < 9223372036854775808) && decide (((asD (cutC p0) 0)).length < 9223372036854775808) then
  (bif decide (((asS (cutC p0) 0)).length < 9223372036854775808) && decide (((asD (cutC p0) 0)).length < 9223372036854775808) then
  (bif decide (((pwS ((asS (cutC p0) 0)) ((asD (cutC p0) 0)) ((oneV (cutC p0) (asP (cutC p0) 0) powL5)))).length < 9223372036854775808) && decide (((ppD ((asS (cutC p0) 0)) ((asD (cutC p0) 0)) ((oneV (cutC p0) (asP (cutC p0) 0) powL5)))).length < 9223372036854775808) && decide (((pwS ((asS (cutC p0) 0)) ((asD (cutC p0) 0)) ((oneV (cutC p0) (asP (cutC p0) 0) powL5)))).length < 9223372036854775808) && decide (((ppD ((asS (cutC p0) 0)) ((asD (cutC p0) 0)) ((oneV (cutC p0) (asP (cutC p0) 0) powL5)))).length < 9223372036854775808) then
  (bif (!(decide (((pwS ((asS (cutC p0) 0)) ((asD (cutC p0) 0)) ((oneV (cutC p0) (asP (cutC p0) 0) powL5)))) = ((pwS ((asS (cutC p0) 0)) ((asD (cutC p0) 0)) ((oneV (cutC p0) (asP (cutC p0) 0) powL5))))) && decide (((ppD ((asS (cutC p0) 0)) ((asD (cutC p0) 0)) ((oneV (cutC p0) (asP (cutC p0) 0) powL5)))) = ((ppD ((asS (cutC p0) 0)) ((asD (cutC p0) 0)) ((oneV (cutC p0) (asP (cutC p0) 0) powL5))))))) then
  (bif decide (((pwS ((asS (cutC p0) 0)) ((asD (cutC p0) 0)) ((oneV (cutC p0) (asP (cutC p0) 0) powL5)))).length < 9223372036854775808) && decide (((ppD ((asS (cutC p0) 0)) ((asD (cutC p0) 0)) ((oneV (cutC p0) (asP (cutC p0) 0) powL5)))).length < 9223372036854775808) && decide (((pwS ((asS (cutC p0) 0)) ((asD (cutC p0) 0)) ((oneV (cutC p0) (asP (cutC p0) 0) powL5)))).length < 9223372036854775808) && decide (((ppD ((asS (cutC p0) 0)) ((asD (cutC p0) 0)) ((oneV (cutC p0) (asP (cutC p0) 0) powL5)))).length < 9223372036854775808) then
  (bif (decide (((pwS ((asS (cutC p0) 0)) ((asD (cutC p0) 0)) ((oneV (cutC p0) (asP (cutC p0) 0) powL5)))) = ((pwS ((asS (cutC p0) 0)) ((asD (cutC p0) 0)) ((oneV (cutC p0) (asP (cutC p0) 0) powL5))))) && decide (((ppD ((asS (cutC p0) 0)) ((asD (cutC p0) 0)) ((oneV (cutC p0) (asP (cutC p0) 0) powL5)))) = ((ppD ((asS (cutC p0) 0)) ((asD (cutC p0) 0)) ((oneV (cutC p0) (asP (cutC p0) 0) powL5)))))) then
  some ([.one ((.bool ((poOk ((asS (cutC p0) 0)) ((asD (cutC p0) 0)) ((oneV (cutC p0) (asP (cutC p0) 0) powL5))) == (poOk ((asS (cutC p0) 0)) ((asD (cutC p0) 0)) ((oneV (cutC p0) (asP (cutC p0) 0) powL5))))), false)], [])
  else
  some ([.one ((.bool false), false)], []))
  else
  none)
  else
  (bif (!((poOk ((asS (cutC p0) 0)) ((asD (cutC p0) 0)) ((oneV (cutC p0) (asP (cutC p0) 0) powL5))) == (poOk ((asS (cutC p0) 0)) ((asD (cutC p0) 0)) ((oneV (cutC p0) (asP (cutC p0) 0) powL5))))) then
  (bif decide (((pwS ((asS (cutC p0) 0)) ((asD (cutC p0) 0)) ((oneV (cutC p0) (asP (cutC p0) 0) powL5)))).length < 9223372036854775808) && decide (((ppD ((asS (cutC p0) 0)) ((asD (cutC p0) 0)) ((oneV (cutC p0) (asP (cutC p0) 0) powL5)))).length < 9223372036854775808) && decide (((pwS ((asS (cutC p0) 0)) ((asD (cutC p0) 0)) ((oneV (cutC p0) (asP (cutC p0) 0) powL5)))).length < 9223372036854775808) && decide (((ppD ((asS (cutC p0) 0)) ((asD (cutC p0) 0)) ((oneV (cutC p0) (asP (cutC p0) 0) powL5)))).length < 9223372036854775808) then
  (bif (decide (((pwS ((asS (cutC p0) 0)) ((asD (cutC p0) 0)) ((oneV (cutC p0) (asP (cutC p0) 0) powL5)))) = ((pwS ((asS (cutC p0) 0)) ((asD (cutC p0) 0)) ((oneV (cutC p0) (asP (cutC p0) 0) powL5))))) && decide (((ppD ((asS (cutC p0) 0)) ((asD (cutC p0) 0)) ((oneV (cutC p0) (asP (cutC p0) 0) powL5)))) = ((ppD ((asS (cutC p0) 0)) ((asD (cutC p0) 0)) ((oneV (cutC p0) (asP (cutC p0) 0) powL5)))))) then
  some ([.one ((.bool ((poOk ((asS (cutC p0) 0)) ((asD (cutC p0) 0)) ((oneV (cutC p0) (asP (cutC p0) 0) powL5))) == (poOk ((asS (cutC p0) 0)) ((asD (cutC p0) 0)) ((oneV (cutC p0) (asP (cutC p0) 0) powL5))))), false)], [])
  else
  some ([.one ((.bool false), false)], []))
  else
  none)
  else
  (bif (!(poOk ((asS (cutC p0) 0)) ((asD (cutC p0) 0)) ((oneV (cutC p0) (asP (cutC p0) 0) powL5)))) then
  (bif decide (((pwS ((asS (cutC p0) 0)) ((asD (cutC p0) 0)) ((oneV (cutC p0) (asP (cutC p0) 0) powL5)))).length < 9223372036854775808) && decide (((ppD ((asS (cutC p0) 0)) ((asD (cutC p0) 0)) ((oneV (cutC p0) (asP (cutC p0) 0) powL5)))).length < 9223372036854775808) && decide (((pwS ((asS (cutC p0) 0)) ((asD (cutC p0) 0)) ((oneV (cutC p0) (asP (cutC p0) 0) powL5)))).length < 9223372036854775808) && decide (((ppD ((asS (cutC p0) 0)) ((asD (cutC p0) 0)) ((oneV (cutC p0) (asP (cutC p0) 0) powL5)))).length < 9223372036854775808) then
  (bif (decide (((pwS ((asS (cutC p0) 0)) ((asD (cutC p0) 0)) ((oneV (cutC p0) (asP (cutC p0) 0) powL5)))) = ((pwS ((asS (cutC p0) 0)) ((asD (cutC p0) 0)) ((oneV (cutC p0) (asP (cutC p0) 0) powL5))))) && decide (((ppD ((asS (cutC p0) 0)) ((asD (cutC p0) 0)) ((oneV (cutC p0) (asP (cutC p0) 0) powL5)))) = ((ppD ((asS (cutC p0) 0)) ((asD (cutC p0) 0)) ((oneV (cutC p0) (asP (cutC p0) 0) powL5)))))) then
  some ([.one ((.bool ((poOk ((asS (cutC p0) 0)) ((asD (cutC p0) 0)) ((oneV (cutC p0) (asP (cutC p0) 0) powL5))) == (poOk ((asS (cutC p0) 0)) ((asD (cutC p0) 0)) ((oneV (cutC p0) (asP (cutC p0) 0) powL5))))), false)], [])
  else
  some ([.one ((.bool false), false)], []))
  else
  none)
  else
  (bif (((oneV (cutC p0) (asP (cutC p0) 0) powL5) : Int) == 5) then
  (bif decide (((pwS ((asS (cutC p0) 0)) ((asD (cutC p0) 0)) ((oneV (cutC p0) (asP (cutC p0) 0) powL5)))).length < 9223372036854775808) && decide (((ppD ((asS (cutC p0) 0)) ((asD (cutC p0) 0)) ((oneV (cutC p0) (asP (cutC p0) 0) powL5)))).length < 9223372036854775808) && decide (((pwS ((asS (cutC p0) 0)) ((asD (cutC p0) 0)) ((oneV (cutC p0) (asP (cutC p0) 0) powL5)))).length < 9223372036854775808) && decide (((ppD ((asS (cutC p0) 0)) ((asD (cutC p0) 0)) ((oneV (cutC p0) (asP (cutC p0) 0) powL5)))).length < 9223372036854775808) then
  (bif (decide (((pwS ((asS (cutC p0) 0)) ((asD (cutC p0) 0)) ((oneV (cutC p0) (asP (cutC p0) 0) powL5)))) = ((pwS ((asS (cutC p0) 0)) ((asD (cutC p0) 0)) ((oneV (cutC p0) (asP (cutC p0) 0) powL5))))) && decide (((ppD ((asS (cutC p0) 0)) ((asD (cutC p0) 0)) ((oneV (cutC p0) (asP (cutC p0) 0) powL5)))) = ((ppD ((asS (cutC p0) 0)) ((asD (cutC p0) 0)) ((oneV (cutC p0) (asP (cutC p0) 0) powL5)))))) then
  some ([.one ((.bool ((poOk ((asS (cutC p0) 0)) ((asD (cutC p0) 0)) ((oneV (cutC p0) (asP (cutC p0) 0) powL5))) == (poOk ((asS (cutC p0) 0)) ((asD (cutC p0) 0)) ((oneV (cutC p0) (asP (cutC p0) 0) powL5))))), false)], [])
  else
  some ([.one ((.bool false), false)], []))
  else
  none)
  else
  (bif decide (((asS (cutC p0) 0)).length < 9223372036854775808) && decide (((asD (cutC p0) 0)).length < 9223372036854775808) then
  (bif decide (((pwS ((asS (cutC p0) 0)) ((asD (cutC p0) 0)) ((oneV (cutC p0) (asP (cutC p0) 0) powL5)))).length < 9223372036854775808) && decide (((ppD ((asS (cutC p0) 0)) ((asD (cutC p0) 0)) ((oneV (cutC p0) (asP (cutC p0) 0) powL5)))).length < 9223372036854775808) && decide (((asS (cutC p0) 0)).length < 9223372036854775808) && decide (((asD (cutC p0) 0)).length < 9223372036854775808) then
  (bif (poOk ((asS (cutC p0) 0)) ((asD (cutC p0) 0)) ((IntKind.wrap .i64 ((oneV (cutC p0) (asP (cutC p0) 0) powL5) + 1)))) then
  (bif (inB 1 3 ((pwS ((asS (cutC p0) 0)) ((asD (cutC p0) 0)) ((oneV (cutC p0) (asP (cutC p0) 0) powL5)))) ((ppD ((asS (cutC p0) 0)) ((asD (cutC p0) 0)) ((oneV (cutC p0) (asP (cutC p0) 0) powL5)))) ((asS (cutC p0) 0)) ((asD (cutC p0) 0))) then
  (bif decide (((pwS ((asS (cutC p0) 0)) ((asD (cutC p0) 0)) ((IntKind.wrap .i64 ((oneV (cutC p0) (asP (cutC p0) 0) powL5) + 1))))).length < 9223372036854775808) && decide (((ppD ((asS (cutC p0) 0)) ((asD (cutC p0) 0)) ((IntKind.wrap .i64 ((oneV (cutC p0) (asP (cutC p0) 0) powL5) + 1))))).length < 9223372036854775808) && decide (((inS 1 3 ((pwS ((asS (cutC p0) 0)) ((asD (cutC p0) 0)) ((oneV (cutC p0) (asP (cutC p0) 0) powL5)))) ((ppD ((asS (cutC p0) 0)) ((asD (cutC p0) 0)) ((oneV (cutC p0) (asP (cutC p0) 0) powL5)))) ((asS (cutC p0) 0)) ((asD (cutC p0) 0)))).length < 9223372036854775808) && decide (((inD 1 3 ((pwS ((asS (cutC p0) 0)) ((asD (cutC p0) 0)) ((oneV (cutC p0) (asP (cutC p0) 0) powL5)))) ((ppD ((asS (cutC p0) 0)) ((asD (cutC p0) 0)) ((oneV (cutC p0) (asP (cutC p0) 0) powL5)))) ((asS (cutC p0) 0)) ((asD (cutC p0) 0)))).length < 9223372036854775808) then
  some ([.one ((.bool (decide (((pwS ((asS (cutC p0) 0)) ((asD (cutC p0) 0)) ((IntKind.wrap .i64 ((oneV (cutC p0) (asP (cutC p0) 0) powL5) + 1))))) = ((inS 1 3 ((pwS ((asS (cutC p0) 0)) ((asD (cutC p0) 0)) ((oneV (cutC p0) (asP (cutC p0) 0) powL5)))) ((ppD ((asS (cutC p0) 0)) ((asD (cutC p0) 0)) ((oneV (cutC p0) (asP (cutC p0) 0) powL5)))) ((asS (cutC p0) 0)) ((asD (cutC p0) 0))))) && decide (((ppD ((asS (cutC p0) 0)) ((asD (cutC p0) 0)) ((IntKind.wrap .i64 ((oneV (cutC p0) (asP (cutC p0) 0) powL5) + 1))))) = ((inD 1 3 ((pwS ((asS (cutC p0) 0)) ((asD (cutC p0) 0)) ((oneV (cutC p0) (asP (cutC p0) 0) powL5)))) ((ppD ((asS (cutC p0) 0)) ((asD (cutC p0) 0)) ((oneV (cutC p0) (asP (cutC p0) 0) powL5)))) ((asS (cutC p0) 0)) ((asD (cutC p0) 0))))))), false)], [])
  else
  none)
  else
  some ([.one ((.bool false), false)], []))
  else
  some ([.one ((.bool false), false)], []))
  else
  none)
  else
  none)))))
  else
  none)
  else
  none)
  else
  none)
  else
  none)) := by kernel_rfl
end laws_FnPowerOf
theorem laws_FnPowerOf.ok_of (hX : ∀ E ∈ laws_FnPowerOf.X, CallSpec Try.prog E) (h : ∀ (bs : List Int), (bytesB bs) = true → ∃ fuel, runF Try.prog laws_FnPowerOf.X laws_FnPowerOf.I 0 fuel 3 Try.f3 [.d (.ints .u8 bs)] = some ([.one ((.bool true), false)], [])) : CallSpec Try.prog laws_FnPowerOf.E :=
  callSpec_of (d := 0) hX (by kernel_rfl) laws_FnPowerOf.I_ok (by kernel_rfl) (by kernel_rfl) (by kernel_rfl) (fun _ _ _ _ h => by dsimp only [laws_FnPowerOf.E] at h; cases h) (fun xs hp => by
    dsimp only [laws_FnPowerOf.E] at hp ⊢
    split at hp
    · exact h _ hp
    · cases hp)
theorem laws_FnPowerOf.ok : CallSpec Try.prog laws_FnPowerOf.E := laws_FnPowerOf.ok_of (by simp [laws_FnPowerOf.X, spec_DrawPowerOf.ok, impl_PowerOf.ok, spec_PowerOf.ok, laws_equalArray.ok, impl_SumProduct.ok]) fun bs h => by
  obtain ⟨F, hF⟩ : ∃ F : Nat, 4000 < F := ⟨4001, by omega⟩
  refine ⟨F, ?_⟩
  rw [laws_FnPowerOf.e]
  by_cases hl : ((bs.length : Nat) : Int) > 1048576
  · rw [decide_eq_true hl]; rfl
  rw [decide_eq_false hl, cond_false, h, cond_true]
  have r0 := cut_ok h (p := 0) (by omega) (by omega)
  obtain ⟨a1, a2, a3, a4⟩ := as_bd r0 (by omega)
  obtain ⟨sh, hsh⟩ : ∃ x, asS (cutC bs) 0 = x := ⟨_, rfl⟩
  obtain ⟨da, hda⟩ : ∃ x, asD (cutC bs) 0 = x := ⟨_, rfl⟩
  rw [hsh] at a1
  rw [hda] at a2
  have g1 := lt_of (xs := sh) (by omega)
  have g2 := lt_of (xs := da) (by omega)
  have r1 := rd_le (q := asP (cutC bs) 0) r0 (by omega) (by omega)
  have hnm : oneV (cutC bs) (asP (cutC bs) 0) powL5 ∈ powL5 := oneV_mem r1 (by simp [powL5]) (by simp [powL5])
  obtain ⟨n, hn⟩ : ∃ x, oneV (cutC bs) (asP (cutC bs) 0) powL5 = x := ⟨_, rfl⟩
  rw [hn] at hnm
  have hnb : -1 ≤ n ∧ n ≤ 6 := by
    simp only [powL5, List.mem_cons, List.not_mem_nil, or_false] at hnm
    omega
  simp only [hsh, hda, hn]
  have w := pp_len sh da n
  have g3 := lt_of (xs := pwS sh da n) (by omega)
  have g4 := lt_of (xs := ppD sh da n) (by omega)
  cases hb : poOk sh da n with
  | false => simp only [Bool.and_self, Bool.and_true, Bool.true_and, cond_true, cond_false, Bool.not_true, Bool.not_false, bne_self_eq_false, beq_self_eq_true, decide_true, eq_self, g1, g2, g3, g4]
  | true =>
    obtain ⟨p, k, rfl, hp, hk, rfl, hl, hv, hq, hvp⟩ := poOk_inv hb
    have hF := pow_facts hk hl hv rfl
    have hS : ∀ q : Nat, q ≤ 5 → poOk [(k : Int), (k : Int)] da (q : Int) = true ∧ pwS [(k : Int), (k : Int)] da (q : Int) = [(k : Int), (k : Int)] ∧ ppD [(k : Int), (k : Int)] da (q : Int) = powL [(k : Int), (k : Int)] da q := fun q hq5 => by
      have h1 : poOk [(k : Int), (k : Int)] da (q : Int) = true := by simp [poOk, hq]; omega
      exact ⟨h1, by simp only [pwS, h1, cond_true], by simp only [ppD, h1, cond_true, Int.toNat_natCast]⟩
    obtain ⟨_, p1, p2⟩ := hS p hp
    rw [p1] at g3
    rw [p2] at g4
    by_cases h5 : p = 5
    · subst h5
      have e5 : ((((5 : Nat) : Int) : Int) == 5) = true := rfl
      rw [p1, p2, e5]
      simp only [Bool.and_self, Bool.and_true, Bool.true_and, cond_true, cond_false, Bool.not_true, Bool.not_false, bne_self_eq_false, beq_self_eq_true, decide_true, eq_self, g1, g2, g3, g4]
    · have e5 : (((p : Int) : Int) == 5) = false := beq_eq_false_iff_ne.2 (by omega)
      obtain ⟨q0, q1, q2⟩ := hS (p + 1) (by omega)
      obtain ⟨⟨f1, f2, f3, f4⟩, f5, f6⟩ := hF p
      have hin := inB_sq hk f1 hv
      have g5 := lt_of (xs := powL [(k : Int), (k : Int)] da (p + 1)) (by have := (hF (p + 1)).1.2.2.2; omega)
      rw [p1, p2, e5, w1 (by omega), q0, q1, q2, hin, f5, f6]
      simp only [Bool.and_self, Bool.and_true, Bool.true_and, cond_true, cond_false, Bool.not_true, Bool.not_false, bne_self_eq_false, beq_self_eq_true, decide_true, eq_self, g1, g2, g3, g4, g5]

namespace spec_smallNum
noncomputable def E : Entry := ⟨79, false, false, fun | [.box [(.ints .u8 bs), (.int .i64 p)]] => rdOk bs p | _ => false, fun | [.box [(.ints .u8 bs), (.int .i64 p)]] => ([.one ((.int .i64 (oneV bs p smallL)), false)], [[(.ints .u8 bs), (.int .i64 (p + 1))]]) | _ => ([], []), fun _ => [], false, fun _ => none⟩
end spec_smallNum
namespace spec_smallNum
noncomputable def X : List Entry := [spec_reader_one.E]
noncomputable def I : List Inl := [⟨79, Try.f79, ⟨[], [], [], [], [4], []⟩⟩]
theorem I_ok : ∀ i ∈ I, Try.prog.funcs[i.f]? = some i.fn ∧ (i.fn.name == "runtime.NumGoroutine") = false := by
  intro i hi
  simp only [I, List.mem_cons, List.not_mem_nil, or_false] at hi
  subst hi
  exact ⟨by kernel_rfl, by kernel_rfl⟩
theorem e (fuel : Nat) (p0q0 : List Int) (p0q1 : Int) : runF Try.prog X I 0 fuel 79 Try.f79 [.box [(.ints .u8 p0q0), (.int .i64 p0q1)]] =
  (bif rdOk p0q0 p0q1 && decide (0 < ((([0, 1, 2, 3, (-1), 5, (-2), 4] : List Int)) : List Int).length) && decide (((([0, 1, 2, 3, (-1), 5, (-2), 4] : List Int)) : List Int).length ≤ 1048576) then
  some ([.one ((.int .i64 (oneV p0q0 p0q1 (([0, 1, 2, 3, (-1), 5, (-2), 4] : List Int)))), false)], [[(.ints .u8 p0q0), (.int .i64 (p0q1 + 1))]])
  else
  none) := by kernel_rfl
end spec_smallNum
theorem spec_smallNum.ok_of (hX : ∀ E ∈ spec_smallNum.X, CallSpec Try.prog E) (h : ∀ (bs : List Int) (p : Int), (rdOk bs p) = true → ∃ fuel, runF Try.prog spec_smallNum.X spec_smallNum.I 0 fuel 79 Try.f79 [.box [(.ints .u8 bs), (.int .i64 p)]] = some ([.one ((.int .i64 (oneV bs p smallL)), false)], [[(.ints .u8 bs), (.int .i64 (p + 1))]])) : CallSpec Try.prog spec_smallNum.E :=
  callSpec_of (d := 0) hX (by kernel_rfl) spec_smallNum.I_ok (by kernel_rfl) (by kernel_rfl) (by kernel_rfl) (fun _ _ _ _ h => by dsimp only [spec_smallNum.E] at h; cases h) (fun xs hp => by
    dsimp only [spec_smallNum.E] at hp ⊢
    split at hp
    · exact h _ _ hp
    · cases hp)
theorem spec_smallNum.ok : CallSpec Try.prog spec_smallNum.E := spec_smallNum.ok_of (by simp [spec_smallNum.X, spec_reader_one.ok]) fun bs p h => ⟨0, by
  rw [spec_smallNum.e, h]
  rfl⟩

namespace spec_anyVector
noncomputable def E : Entry := ⟨37, false, false, fun | [.box [(.ints .u8 bs), (.int .i64 p)]] => rdOk bs p && decide ((p : Int) ≤ 900000) | _ => false, fun | [.box [(.ints .u8 bs), (.int .i64 p)]] => ([.agg [((.ints .i64 (avS bs p)), false), ((.ints .i64 (avD bs p)), false)]], [[(.ints .u8 bs), (.int .i64 (avP bs p))]]) | _ => ([], []), fun _ => [], false, fun _ => none⟩
end spec_anyVector
namespace spec_anyVector
noncomputable def X : List Entry := [spec_reader_pick.E, spec_anyArray.E, spec_reader_one.E, spec_smallNum.E, spec_vector.E]
noncomputable def I : List Inl := [⟨37, Try.f37, ⟨[9], [(1000005, [1, 5, 6, 7, 8, 9, 10, 11, 12, 13, 14, 15, 16, 17, 18, 19, 20, 21, 22, 23, 24])], [], [], [12], []⟩⟩]
theorem I_ok : ∀ i ∈ I, Try.prog.funcs[i.f]? = some i.fn ∧ (i.fn.name == "runtime.NumGoroutine") = false := by
  intro i hi
  simp only [I, List.mem_cons, List.not_mem_nil, or_false] at hi
  subst hi
  exact ⟨by kernel_rfl, by kernel_rfl⟩
noncomputable abbrev L0 (fuel n : Nat) (s : St) (k : Kont) := lAt Try.prog X I fuel false 0 false 37 (bodyOf Try.f37) [1, 1, 1, 0, 1, 0] n s k
noncomputable abbrev k0  (fuel : Nat) : Kont := (kAt Try.prog X I fuel false 0 false 37 (bodyOf Try.f37) [1, 1, 1, 0, 1, 0] [] (endK Try.prog Try.f37))
noncomputable def t0 (p0q0 : List Int) (x0q0 : Int) (x0q2 : Int) (x0q3 : List Int) : St := ⟨[(.ptr 1000000000 0 0), .dead, (.ptr 1000000001 0 0), (.all 1000000002 1), (.imm (.int .i64 x0q0)), .dead, .dead, .dead, .dead, .dead, .dead, .dead, .dead, .dead, .dead, .dead, .dead, .dead, .dead, .dead, .dead, .dead, .dead, .dead, .dead], hOf [(1000000000, (.box [(.imm (.ints .u8 p0q0)), (.imm (.int .i64 x0q2))])), (1000000001, (.box [(.imm .nils), (.imm .nils)])), (1000000002, (.ints .i64 x0q3))], [(.ptr 1000000000 0 0)], []⟩
theorem e (fuel : Nat) (p0q0 : List Int) (p0q1 : Int) : runF Try.prog X I 0 fuel 37 Try.f37 [.box [(.ints .u8 p0q0), (.int .i64 p0q1)]] =
  (bif rdOk p0q0 p0q1 && decide ((10 : Int) ≤ 1048576) then
  (bif (((pickV p0q0 p0q1 10) : Int) == 0) then
  (bif rdOk p0q0 ((p0q1 + 1)) && decide ((((p0q1 + 1)) : Int) ≤ 1000000) then
  some ([.agg [((.ints .i64 (aArS p0q0 ((p0q1 + 1)))), false), ((.ints .i64 (aArD p0q0 ((p0q1 + 1)))), false)]], [[(.ints .u8 p0q0), (.int .i64 (aArP p0q0 ((p0q1 + 1))))]])
  else
  none)
  else
  (bif rdOk p0q0 ((p0q1 + 1)) && decide (0 < ((([4, 5, 3, 6, 2, 1, 0, 9] : List Int)) : List Int).length) && decide (((([4, 5, 3, 6, 2, 1, 0, 9] : List Int)) : List Int).length ≤ 1048576) then
  L0 fuel fuel (t0 p0q0 ((oneV p0q0 ((p0q1 + 1)) (([4, 5, 3, 6, 2, 1, 0, 9] : List Int)))) ((((p0q1 + 1)) + 1)) ([])) (k0  fuel)
  else
  none))
  else
  none) := by kernel_rfl
theorem s0 (fuel n0 : Nat) (p0q0 : List Int) (x0q0 : Int) (x0q2 : Int) (x0q3 : List Int) : L0 fuel (n0 + 1) (t0 p0q0 x0q0 x0q2 x0q3) (k0  fuel) =
  (bif (decide ((x0q0 : Int) > 0)) then
  (bif rdOk p0q0 x0q2 then
  (bif fits (x0q3.length + ([(oneV p0q0 x0q2 smallL)] : List Int).length) 8 then
  L0 fuel n0 (t0 p0q0 ((IntKind.wrap .i64 (x0q0 - 1))) ((x0q2 + 1)) ((x0q3 ++ [(oneV p0q0 x0q2 smallL)]))) (k0  fuel)
  else
  none)
  else
  none)
  else
  (bif szB x0q3 then
  some ([.agg [((.ints .i64 [((x0q3.length : Nat) : Int)]), false), ((.ints .i64 x0q3), false)]], [[(.ints .u8 p0q0), (.int .i64 x0q2)]])
  else
  none)) := by kernel_rfl
end spec_anyVector
theorem spec_anyVector.ok_of (hX : ∀ E ∈ spec_anyVector.X, CallSpec Try.prog E) (h : ∀ (bs : List Int) (p : Int), (rdOk bs p && decide ((p : Int) ≤ 900000)) = true → ∃ fuel, runF Try.prog spec_anyVector.X spec_anyVector.I 0 fuel 37 Try.f37 [.box [(.ints .u8 bs), (.int .i64 p)]] = some ([.agg [((.ints .i64 (avS bs p)), false), ((.ints .i64 (avD bs p)), false)]], [[(.ints .u8 bs), (.int .i64 (avP bs p))]])) : CallSpec Try.prog spec_anyVector.E :=
  callSpec_of (d := 0) hX (by kernel_rfl) spec_anyVector.I_ok (by kernel_rfl) (by kernel_rfl) (by kernel_rfl) (fun _ _ _ _ h => by dsimp only [spec_anyVector.E] at h; cases h) (fun xs hp => by
    dsimp only [spec_anyVector.E] at hp ⊢
    split at hp
    · exact h _ _ hp
    · cases hp)
theorem spec_anyVector.ok : CallSpec Try.prog spec_anyVector.E := spec_anyVector.ok_of (by simp [spec_anyVector.X, spec_reader_pick.ok, spec_anyArray.ok, spec_reader_one.ok, spec_smallNum.ok, spec_vector.ok]) fun bs p h => by
  obtain ⟨F, hF⟩ : ∃ F : Nat, 1000 < F := ⟨1001, by omega⟩
  refine ⟨F, ?_⟩
  simp only [Bool.and_eq_true, decide_eq_true_eq] at h
  have r1 := rd_le (q := p + 1) h.1 (by omega) (by omega)
  rw [spec_anyVector.e, h.1, r1, decide_eq_true (p := p + 1 ≤ 1000000) (by omega)]
  unfold avS avD avP avC
  cases pickV bs p 10 == 0 with
  | true => rfl
  | false =>
    obtain ⟨n1, n2⟩ := avN_bd h.1 h.2
    have hlen : (avV bs p).length = avN bs p := tab_length _ _
    have hz : (decide (0 < ([4, 5, 3, 6, 2, 1, 0, 9] : List Int).length) && decide (([4, 5, 3, 6, 2, 1, 0, 9] : List Int).length ≤ 1048576)) = true := rfl
    simp only [cond_false]
    rw [n2]
    show (bif (true && decide (0 < ([4, 5, 3, 6, 2, 1, 0, 9] : List Int).length) && decide (([4, 5, 3, 6, 2, 1, 0, 9] : List Int).length ≤ 1048576)) then _ else none) = _
    rw [show (true && decide (0 < ([4, 5, 3, 6, 2, 1, 0, 9] : List Int).length) && decide (([4, 5, 3, 6, 2, 1, 0, 9] : List Int).length ≤ 1048576)) = true from rfl, cond_true]
    refine run_loop (N := avN bs p) (fun n j (st : Int × Int × List Int) => spec_anyVector.L0 F n (spec_anyVector.t0 bs st.1 st.2.1 st.2.2) (spec_anyVector.k0 F)) (fun j st => st.1 = ((avN bs p - j : Nat) : Int) ∧ st.2.1 = p + 1 + 1 + ((j : Nat) : Int) ∧ st.2.2 = (avV bs p).take j) ?_ ?_ F 0 (_, p + 1 + 1, []) (by omega) (by omega) ⟨rfl, by simp, by simp⟩
    · rintro n ⟨c, q, out⟩ ⟨e0, e1, e2⟩
      simp only at e0 e1 e2
      rw [← hlen, List.take_length] at e2
      subst e0
      subst e1
      subst e2
      dsimp only
      rw [spec_anyVector.s0, decide_eq_false (by omega), cond_false, szB_of (by omega), hlen]
      rfl
    · rintro n j ⟨c, q, out⟩ hj ⟨e0, e1, e2⟩
      simp only at e0 e1 e2
      subst e0
      subst e1
      have hol : out.length = j := by rw [e2, take_len (by omega)]
      have r2 := rd_le (q := p + 1 + 1 + ((j : Nat) : Int)) h.1 (by omega) (by omega)
      rw [spec_anyVector.s0, decide_eq_true (by omega), cond_true, r2, cond_true, fitsOk (by simp only [List.length_cons, List.length_nil]; omega), cond_true]
      refine ⟨(((avN bs p - (j + 1) : Nat) : Int), p + 1 + 1 + ((j + 1 : Nat) : Int), out ++ [oneV bs (p + 1 + 1 + ((j : Nat) : Int)) smallL]), ⟨rfl, rfl, ?_⟩, ?_⟩
      · simp only
        rw [e2]
        refine take_push (by omega) ?_
        simp only [avV]
        rw [tab_getD hj]
      · rw [wS (by omega) (by omega), show ((avN bs p - j : Nat) : Int) - 1 = ((avN bs p - (j + 1) : Nat) : Int) by omega, show p + 1 + 1 + ((j + 1 : Nat) : Int) = p + 1 + 1 + ((j : Nat) : Int) + 1 by omega]

namespace spec_DrawWindowsOf
noncomputable def E : Entry := ⟨14, false, false, fun | [.d (.ints .u8 bs)] => bytesB bs | _ => false, fun | [.d (.ints .u8 bs)] => ([.agg [((.ints .i64 (avS (cutC bs) 0)), false), ((.ints .i64 (avD (cutC bs) 0)), false)], .one ((.int .i64 (dWn (cutC bs))), false)], []) | _ => ([], []), fun _ => [], true, fun _ => none⟩
end spec_DrawWindowsOf
namespace spec_DrawWindowsOf
noncomputable def X : List Entry := [spec_newReader.E, spec_anyVector.E, spec_reader_pick.E]
noncomputable def I : List Inl := [⟨14, Try.f14, ⟨[9], [], [(3, [5])], [], [10], []⟩⟩]
theorem I_ok : ∀ i ∈ I, Try.prog.funcs[i.f]? = some i.fn ∧ (i.fn.name == "runtime.NumGoroutine") = false := by
  intro i hi
  simp only [I, List.mem_cons, List.not_mem_nil, or_false] at hi
  subst hi
  exact ⟨by kernel_rfl, by kernel_rfl⟩
theorem e (fuel : Nat) (p0 : List Int) : runF Try.prog X I 0 fuel 14 Try.f14 [.d (.ints .u8 p0)] =
  (bif rdOk ((cutC p0)) 0 && decide ((0 : Int) ≤ 900000) then
  (bif rdOk (((cutC p0))) ((avP ((cutC p0)) 0)) && decide ((((IntKind.wrap .i64 ((((avD ((cutC p0)) 0).length : Nat) : Int) + 4))) : Int) ≤ 1048576) then
  some ([.agg [((.ints .i64 (avS ((cutC p0)) 0)), false), ((.ints .i64 (avD ((cutC p0)) 0)), false)], .one ((.int .i64 (IntKind.wrap .i64 ((pickV (((cutC p0))) ((avP ((cutC p0)) 0)) ((IntKind.wrap .i64 ((((avD ((cutC p0)) 0).length : Nat) : Int) + 4)))) - 1))), false)], [])
  else
  none)
  else
  none) := by kernel_rfl
end spec_DrawWindowsOf
theorem spec_DrawWindowsOf.ok_of (hX : ∀ E ∈ spec_DrawWindowsOf.X, CallSpec Try.prog E) (h : ∀ (bs : List Int), (bytesB bs) = true → ∃ fuel, runF Try.prog spec_DrawWindowsOf.X spec_DrawWindowsOf.I 0 fuel 14 Try.f14 [.d (.ints .u8 bs)] = some ([.agg [((.ints .i64 (avS (cutC bs) 0)), false), ((.ints .i64 (avD (cutC bs) 0)), false)], .one ((.int .i64 (dWn (cutC bs))), false)], [])) : CallSpec Try.prog spec_DrawWindowsOf.E :=
  callSpec_of (d := 0) hX (by kernel_rfl) spec_DrawWindowsOf.I_ok (by kernel_rfl) (by kernel_rfl) (by kernel_rfl) (fun _ _ _ _ h => by dsimp only [spec_DrawWindowsOf.E] at h; cases h) (fun xs hp => by
    dsimp only [spec_DrawWindowsOf.E] at hp ⊢
    split at hp
    · exact h _ hp
    · cases hp)
theorem spec_DrawWindowsOf.ok : CallSpec Try.prog spec_DrawWindowsOf.E := spec_DrawWindowsOf.ok_of (by simp [spec_DrawWindowsOf.X, spec_newReader.ok, spec_anyVector.ok, spec_reader_pick.ok]) fun bs h => ⟨0, by
  have r0 := cut_ok h (p := 0) (by omega) (by omega)
  obtain ⟨a1, a2, a3, a4⟩ := av_bd r0 (by omega)
  have r1 := rd_le (q := avP (cutC bs) 0) r0 (by omega) (by omega)
  have hw : IntKind.wrap .i64 ((((avD (cutC bs) 0).length : Nat) : Int) + 4) = ((avD (cutC bs) 0).length : Int) + 4 := wS (by omega) (by omega)
  have hb := pick_bd (n := ((avD (cutC bs) 0).length : Int) + 4) r1 (by omega)
  rw [spec_DrawWindowsOf.e, r0, r1, hw, decide_eq_true (p := ((avD (cutC bs) 0).length : Int) + 4 ≤ 1048576) (by omega), wS (x := pickV (cutC bs) (avP (cutC bs) 0) (((avD (cutC bs) 0).length : Int) + 4) - 1) (by omega) (by omega)]
  rfl⟩

namespace impl_isVector
noncomputable def E : Entry := ⟨49, true, false, fun | [.d (.agg [(.ints .i64 sh), (.ints .i64 da)])] => decide (sh.length < 9223372036854775808) && decide (da.length < 9223372036854775808) | _ => false, fun | [.d (.agg [(.ints .i64 sh), (.ints .i64 da)])] => ([.one ((.bool (vcB sh da)), false)], []) | _ => ([], []), fun _ => [], false, fun _ => none⟩
end impl_isVector
namespace impl_isVector
noncomputable def X : List Entry := [impl_ValidArray.E]
noncomputable def I : List Inl := [⟨49, Try.f49, ⟨[], [], [], [], [], []⟩⟩]
theorem I_ok : ∀ i ∈ I, Try.prog.funcs[i.f]? = some i.fn ∧ (i.fn.name == "runtime.NumGoroutine") = false := by
  intro i hi
  simp only [I, List.mem_cons, List.not_mem_nil, or_false] at hi
  subst hi
  exact ⟨by kernel_rfl, by kernel_rfl⟩
theorem e (fuel : Nat) (p0q0 : List Int) (p0q1 : List Int) : runF Try.prog X I 0 fuel 49 Try.f49 [.d (.agg [(.ints .i64 p0q0), (.ints .i64 p0q1)])] =
  (bif decide (p0q0.length < 9223372036854775808) && decide (p0q1.length < 9223372036854775808) then
  (bif (validA p0q0 p0q1) then
  some ([.one ((.bool ((((p0q0.length : Nat) : Int) : Int) == 1)), false)], [])
  else
  some ([.one ((.bool false), false)], []))
  else
  none) := by kernel_rfl
end impl_isVector
theorem impl_isVector.ok_of (hX : ∀ E ∈ impl_isVector.X, CallSpec Try.prog E) (h : ∀ (sh : List Int) (da : List Int), (decide (sh.length < 9223372036854775808) && decide (da.length < 9223372036854775808)) = true → ∃ fuel, runF Try.prog impl_isVector.X impl_isVector.I 0 fuel 49 Try.f49 [.d (.agg [(.ints .i64 sh), (.ints .i64 da)])] = some ([.one ((.bool (vcB sh da)), false)], [])) : CallSpec Try.prog impl_isVector.E :=
  callSpec_of (d := 0) hX (by kernel_rfl) impl_isVector.I_ok (by kernel_rfl) (by kernel_rfl) (by kernel_rfl) (fun _ _ _ _ h => by dsimp only [impl_isVector.E] at h; cases h) (fun xs hp => by
    dsimp only [impl_isVector.E] at hp ⊢
    split at hp
    · exact h _ _ hp
    · cases hp)
theorem impl_isVector.ok : CallSpec Try.prog impl_isVector.E := impl_isVector.ok_of (by simp [impl_isVector.X, impl_ValidArray.ok]) fun sh da h => ⟨0, by
  rw [impl_isVector.e, h]
  unfold vcB
  cases validA sh da with
  | false => rfl
  | true =>
    rw [show ((((sh.length : Nat) : Int)) == 1) = decide (sh.length = 1) by by_cases h : sh.length = 1 <;> simp [h]; omega]
    rfl⟩

namespace impl_WindowsOf
noncomputable def E : Entry := ⟨15, false, false, fun | [.d (.agg [(.ints .i64 sh), (.ints .i64 da)]), .d (.int .i64 n)] => decide (sh.length < 9223372036854775808) && decide (da.length < 9223372036854775808) | _ => false, fun | [.d (.agg [(.ints .i64 sh), (.ints .i64 da)]), .d (.int .i64 n)] => ([.agg [((.ints .i64 (wiS sh da n)), true), ((.ints .i64 (wiD sh da n)), true)], .one ((.bool (wiB sh da n)), false)], []) | _ => ([], []), fun _ => [], true, fun _ => none⟩
end impl_WindowsOf
namespace impl_WindowsOf
noncomputable def X : List Entry := [impl_isVector.E, impl_layoutOf_j.E]
noncomputable def I : List Inl := [⟨15, Try.f15, ⟨[11, 22], [(1, [0, 1, 5, 6, 7, 8, 9, 10, 11, 12, 13, 14, 15, 16, 17, 18, 19, 20, 21, 22, 23, 24]), (4, [0, 1, 2, 5, 7, 8, 9, 10, 11, 12, 13, 14, 15, 16, 17, 18, 19, 20, 21, 22, 23, 24])], [(4, [6, 3])], [], [], []⟩⟩, ⟨39, Try.f39, ⟨[], [(1000005, [0, 3, 4, 5, 7, 8, 9, 10, 11, 12, 13, 14, 15, 16, 17, 18, 19, 20, 21, 22, 23, 24, 25, 26, 27, 28, 29, 30, 33, 34, 35, 36, 37, 38, 39, 40, 41, 42, 43, 44, 45, 46])], [], [], [], []⟩⟩, ⟨40, Try.f40, ⟨[12], [(1000006, [2, 3, 5, 6, 7, 9, 10, 11, 12, 13, 14, 15, 16, 17, 18, 19, 20, 21, 24, 25, 26, 27, 28, 29, 30, 31, 32, 33, 34, 35])], [], [], [], []⟩⟩, ⟨41, Try.f41, ⟨[], [], [], [(1, [1, 6, 0, 2, 3, 4, 5, 7, 8, 9, 10, 11])], [], []⟩⟩]
theorem I_ok : ∀ i ∈ I, Try.prog.funcs[i.f]? = some i.fn ∧ (i.fn.name == "runtime.NumGoroutine") = false := by
  intro i hi
  simp only [I, List.mem_cons, List.not_mem_nil, or_false] at hi
  rcases hi with rfl | rfl | rfl | rfl
  all_goals exact ⟨by kernel_rfl, by kernel_rfl⟩
noncomputable abbrev L0 (fuel n : Nat) (s : St) (k : Kont) := lAt Try.prog X I fuel true 3 false 39 (bodyOf Try.f39) [1, 1, 1, 0, 1, 0] n s k
noncomputable abbrev k0  (fuel : Nat) : Kont := (kAt Try.prog X I fuel true 3 false 39 (bodyOf Try.f39) [1, 1, 1, 0, 1, 0] [] (endFn Try.prog Try.f39 25 (kOp Try.prog X I fuel true 4 15 (cAt (bodyOf Try.f15) [1, 0]) 2 (kAt Try.prog X I fuel true 4 false 15 (bodyOf Try.f15) [1, 0] [] (endK Try.prog Try.f15)))))
noncomputable def t0 (p1 : Int) (p0q1 : List Int) (p0q0 : List Int) (x0q2 : Int) (x0q8 : List D) : St := ⟨[.dead, (.imm (.int .i64 p1)), (.ptr 1000000003 0 0), .dead, .dead, .dead, (.all 1000000004 1), .dead, .dead, .dead, .dead, .dead, .dead, .dead, .dead, .dead, .dead, .dead, .dead, .dead, .dead, .dead, .dead, .dead, .dead, .dead, .dead, .dead, .dead, .dead, .dead, (.imm (.int .i64 (((List.replicate ((IntKind.wrap .i64 ((IntKind.wrap .i64 (((p0q1.length : Nat) : Int) + 1)) - p1))).toNat (D.ints .i64 [])).length : Nat) : Int))), (.imm (.int .i64 x0q2)), .dead, .dead, .dead, .dead, .dead, .dead, .dead, .dead, .dead, .dead, .dead, .dead, .dead, .dead], hOf [(1000000000, (.box [(.imm (.ints .i64 p0q0)), (.imm (.ints .i64 p0q1))])), (1000000001, (.box [(.imm (.int .i64 p1))])), (1000000002, (.box [(.imm .nils), (.imm .nils)])), (1000000003, (.box [(.imm (.ints .i64 p0q0)), (.imm (.ints .i64 p0q1))])), (1000000004, (.ds 1 x0q8))], [.dead, .dead, (.ptr 1000000000 0 0), (.ptr 1000000001 0 0), (.ptr 1000000002 0 0), .dead, .dead, .dead, .dead, (.agg [(.imm (.ints .i64 p0q0)), (.imm (.ints .i64 p0q1))]), (.imm (.int .i64 p1)), .dead, .dead, .dead, .dead, .dead, .dead, .dead, .dead, .dead, .dead, .dead, .dead, .dead, .dead, (.tup [])], []⟩
noncomputable abbrev L1 (fuel n : Nat) (s : St) (k : Kont) := lAt Try.prog X I fuel true 3 false 40 (bodyOf Try.f40) [1, 1, 1, 1, 0, 1, 0] n s k
noncomputable abbrev k1  (fuel : Nat) : Kont := (kAt Try.prog X I fuel true 3 false 40 (bodyOf Try.f40) [1, 1, 1, 1, 0, 1, 0] [] (endFn Try.prog Try.f40 25 (kOp Try.prog X I fuel true 4 15 (cAt (bodyOf Try.f15) [1, 1, 1, 0]) 5 (kAt Try.prog X I fuel true 4 false 15 (bodyOf Try.f15) [1, 1, 1, 0] [] (endK Try.prog Try.f15)))))
noncomputable def t1 (p1 : Int) (x0q8 : List D) (x1q2 : Int) (x1q4 : List Int) : St := ⟨[(.all 1000000001 1), (.clo 41 [(.ptr 1000000002 0 0), (.dptr [(.int .i64 p1)] 0)]), .dead, .dead, (.ptr 1000000003 0 0), .dead, .dead, .dead, (.all 1000000004 1), .dead, .dead, .dead, .dead, .dead, .dead, .dead, .dead, .dead, .dead, .dead, .dead, .dead, (.imm (.int .i64 (((List.replicate ((volW ([((x0q8.length : Nat) : Int), p1]))).toNat (0 : Int)).length : Nat) : Int))), (.imm (.int .i64 x1q2)), .dead, .dead, .dead, .dead, .dead, .dead, .dead, .dead, .dead, .dead, .dead, .dead], hOf [(1000000000, (.box [(.imm .nils), (.imm .nils)])), (1000000001, (.ints .i64 [((x0q8.length : Nat) : Int), p1])), (1000000002, (.box [(.all 1000000005 1)])), (1000000003, (.box [(.imm .nils), (.imm .nils)])), (1000000004, (.ints .i64 x1q4)), (1000000005, (.ds 1 x0q8))], [.dead, .dead, .dead, (.dptr [(.int .i64 p1)] 0), (.ptr 1000000000 0 0), .dead, (.ptr 1000000002 0 0), .dead, .dead, .dead, .dead, .dead, .dead, .dead, .dead, .dead, .dead, (.all 1000000005 1), (.imm (.int .i64 ((x0q8.length : Nat) : Int))), (.imm (.int .i64 p1)), (.all 1000000001 1), (.clo 41 [(.ptr 1000000002 0 0), (.dptr [(.int .i64 p1)] 0)]), .dead, .dead, .dead, (.tup [])], []⟩
theorem e (fuel : Nat) (p0q0 : List Int) (p0q1 : List Int) (p1 : Int) : runF Try.prog X I 4 fuel 15 Try.f15 [.d (.agg [(.ints .i64 p0q0), (.ints .i64 p0q1)]), .d (.int .i64 p1)] =
  (bif decide (p0q0.length < 9223372036854775808) && decide (p0q1.length < 9223372036854775808) then
  (bif (!(vcB p0q0 p0q1)) then
  some ([.agg [((.ints .i64 []), true), ((.ints .i64 []), true)], .one ((.bool false), false)], [])
  else
  (bif (decide ((p1 : Int) < 1)) then
  some ([.agg [((.ints .i64 []), true), ((.ints .i64 []), true)], .one ((.bool false), false)], [])
  else
  (bif (decide ((p1 : Int) > (IntKind.wrap .i64 (((p0q1.length : Nat) : Int) + 1)))) then
  some ([.agg [((.ints .i64 []), true), ((.ints .i64 []), true)], .one ((.bool false), false)], [])
  else
  (bif decide (0 ≤ ((IntKind.wrap .i64 ((IntKind.wrap .i64 (((p0q1.length : Nat) : Int) + 1)) - p1)) : Int)) && decide (((IntKind.wrap .i64 ((IntKind.wrap .i64 (((p0q1.length : Nat) : Int) + 1)) - p1)) : Int) ≤ (IntKind.wrap .i64 ((IntKind.wrap .i64 (((p0q1.length : Nat) : Int) + 1)) - p1))) && decide (((IntKind.wrap .i64 ((IntKind.wrap .i64 (((p0q1.length : Nat) : Int) + 1)) - p1)) : Int) ≤ 1152921504606846976) && decide (((24 : Nat) : Int) * (IntKind.wrap .i64 ((IntKind.wrap .i64 (((p0q1.length : Nat) : Int) + 1)) - p1)) ≤ 281474976710656) then
  L0 fuel fuel (t0 p1 p0q1 p0q0 0 ((List.replicate ((IntKind.wrap .i64 ((IntKind.wrap .i64 (((p0q1.length : Nat) : Int) + 1)) - p1))).toNat (D.ints .i64 [])))) (k0  fuel)
  else
  none))))
  else
  none) := by kernel_rfl
theorem s0 (fuel n0 : Nat) (p1 : Int) (p0q1 : List Int) (p0q0 : List Int) (x0q2 : Int) (x0q8 : List D) : L0 fuel (n0 + 1) (t0 p1 p0q1 p0q0 x0q2 x0q8) (k0  fuel) =
  (bif (decide ((x0q2 : Int) < (((List.replicate ((IntKind.wrap .i64 ((IntKind.wrap .i64 (((p0q1.length : Nat) : Int) + 1)) - p1))).toNat (D.ints .i64 [])).length : Nat) : Int))) then
  (cutEnds p0q1.length (some (.imm (.int .i64 x0q2))) (some (.imm (.int .i64 (IntKind.wrap .i64 (x0q2 + p1)))))).bind fun cq30 =>
  (idx x0q2 x0q8.length).bind fun j31 =>
  (bif decide (j31 < x0q8.length) then
  L0 fuel n0 (t0 p1 p0q1 p0q0 ((IntKind.wrap .i64 (x0q2 + 1))) ((x0q8.set j31 (.ints .i64 ((p0q1.drop cq30.1).take (cq30.2 - cq30.1)))))) (k0  fuel)
  else
  none)
  else
  (bif decide (([((x0q8.length : Nat) : Int), p1]).length < 9223372036854775808) then
  (bif validS ([((x0q8.length : Nat) : Int), p1]) then
  (bif decide (0 ≤ ((volW ([((x0q8.length : Nat) : Int), p1])) : Int)) && decide (((volW ([((x0q8.length : Nat) : Int), p1])) : Int) ≤ (volW ([((x0q8.length : Nat) : Int), p1]))) && decide (((volW ([((x0q8.length : Nat) : Int), p1])) : Int) ≤ 1152921504606846976) && decide (((8 : Nat) : Int) * (volW ([((x0q8.length : Nat) : Int), p1])) ≤ 281474976710656) then
  L1 fuel fuel (t1 p1 x0q8 0 ((List.replicate ((volW ([((x0q8.length : Nat) : Int), p1]))).toNat (0 : Int)))) (k1  fuel)
  else
  none)
  else
  some ([.agg [((.ints .i64 []), true), ((.ints .i64 []), true)], .one ((.bool false), false)], []))
  else
  none)) := by kernel_rfl
theorem s1 (fuel n1 : Nat) (p1 : Int) (x0q8 : List D) (x1q2 : Int) (x1q4 : List Int) : L1 fuel (n1 + 1) (t1 p1 x0q8 x1q2 x1q4) (k1  fuel) =
  (bif (decide ((x1q2 : Int) < (((List.replicate ((volW ([((x0q8.length : Nat) : Int), p1]))).toNat (0 : Int)).length : Nat) : Int))) then
  (bif decide ((p1 : Int) = 0) then
  none
  else
  (idx (IntKind.wrap .i64 (Int.tdiv x1q2 p1)) x0q8.length).bind fun j37 =>
  (getI .i64 x0q8 j37).bind fun v38 =>
  (bif decide ((p1 : Int) = 0) then
  none
  else
  (idx (Int.tmod x1q2 p1) v38.length).bind fun j39 =>
  (v38[j39]?).bind fun v40 =>
  (idx x1q2 x1q4.length).bind fun j41 =>
  (bif decide (j41 < x1q4.length) then
  L1 fuel n1 (t1 p1 x0q8 ((IntKind.wrap .i64 (x1q2 + 1))) ((x1q4.set j41 v40))) (k1  fuel)
  else
  none)))
  else
  some ([.agg [((.ints .i64 [((x0q8.length : Nat) : Int), p1]), true), ((.ints .i64 x1q4), true)], .one ((.bool true), false)], [])) := by kernel_rfl
end impl_WindowsOf
theorem impl_WindowsOf.ok_of (hX : ∀ E ∈ impl_WindowsOf.X, CallSpec Try.prog E) (h : ∀ (sh : List Int) (da : List Int) (n : Int), (decide (sh.length < 9223372036854775808) && decide (da.length < 9223372036854775808)) = true → ∃ fuel, runF Try.prog impl_WindowsOf.X impl_WindowsOf.I 4 fuel 15 Try.f15 [.d (.agg [(.ints .i64 sh), (.ints .i64 da)]), .d (.int .i64 n)] = some ([.agg [((.ints .i64 (wiS sh da n)), true), ((.ints .i64 (wiD sh da n)), true)], .one ((.bool (wiB sh da n)), false)], [])) : CallSpec Try.prog impl_WindowsOf.E :=
  callSpec_of (d := 4) hX (by kernel_rfl) impl_WindowsOf.I_ok (by kernel_rfl) (by kernel_rfl) (by kernel_rfl) (fun _ _ _ _ h => by dsimp only [impl_WindowsOf.E] at h; cases h) (fun xs hp => by
    dsimp only [impl_WindowsOf.E] at hp ⊢
    split at hp
    · exact h _ _ _ hp
    · cases hp)
theorem impl_WindowsOf.ok : CallSpec Try.prog impl_WindowsOf.E := impl_WindowsOf.ok_of (by simp [impl_WindowsOf.X, impl_isVector.ok, impl_layoutOf_j.ok]) fun sh da n h => by
  obtain ⟨F, hF⟩ : ∃ F : Nat, 4000 < F := ⟨4001, by omega⟩
  refine ⟨F, ?_⟩
  rw [impl_WindowsOf.e, h, cond_true]
  cases hb : vcB sh da with
  | false => simp only [wiS, wiD, wiB, wiK, hb]; rfl
  | true =>
    obtain ⟨_, _, hl, _⟩ := vcB_inv hb
    by_cases hn1 : n < 1
    · have hK : wiK sh da n = false := by simp [wiK]; omega
      rw [decide_eq_true hn1]
      simp only [wiS, wiD, wiB, hK]; rfl
    by_cases hn2 : n > ((da.length + 1 : Nat) : Int)
    · have hK : wiK sh da n = false := by simp [wiK]; omega
      rw [decide_eq_false hn1, w1 (by omega), decide_eq_true hn2]
      simp only [wiS, wiD, wiB, hK]; rfl
    have hK : wiK sh da n = true := by simp [wiK, hb]; omega
    obtain ⟨k, rfl, k1, k2, _⟩ := wiK_inv hK
    have eC := wiC k2 hl
    have eW := w1 (j := da.length) (by omega)
    rw [decide_eq_false hn1, eW, decide_eq_false hn2]
    rw [eW] at eC
    rw [eC]
    have hXl := wiL_length da k
    simp only [Bool.not_true, cond_false]
    rw [decide_eq_true (p := (0:Int) ≤ ((da.length + 1 - k : Nat) : Int)) (by omega), decide_eq_true (p := ((da.length + 1 - k : Nat) : Int) ≤ ((da.length + 1 - k : Nat) : Int)) (by omega), decide_eq_true (p := ((da.length + 1 - k : Nat) : Int) ≤ 1152921504606846976) (by omega), decide_eq_true (p := ((24 : Nat) : Int) * ((da.length + 1 - k : Nat) : Int) ≤ 281474976710656) (by omega)]
    simp only [Bool.and_self, cond_true, Int.toNat_natCast]
    refine run_loop (N := da.length + 1 - k) (fun m j xs => impl_WindowsOf.L0 F m (impl_WindowsOf.t0 (k : Int) da sh (j : Int) xs) (impl_WindowsOf.k0 F)) (fun j xs => xs = partX (wiL da k) j) ?_ ?_ F 0 _ (by omega) (by omega) (by rw [partX_zero, hXl])
    · intro m xs hI
      rw [show partX (wiL da k) (da.length + 1 - k) = dL (wiL da k) by rw [← hXl]; exact partX_all _] at hI
      subst hI
      rw [impl_WindowsOf.s0, eW, eC]
      simp only [Int.toNat_natCast, List.length_replicate]
      rw [dge (by omega), cond_false]
      have hdl : (dL (wiL da k)).length = da.length + 1 - k := by rw [dL_length, hXl]
      simp only [hdl]
      rw [lt_of (by simp), cond_true]
      cases hs : validS ([((da.length + 1 - k : Nat) : Int), (k : Int)] : List Int) with
      | false =>
        have hB : wiB sh da (k : Int) = false := by simp only [wiB, hK, wiSh, Int.toNat_natCast, hs, Bool.and_false]
        simp only [wiS, wiD, hB]
        rfl
      | true =>
        have hB : wiB sh da (k : Int) = true := by simp only [wiB, hK, wiSh, Int.toNat_natCast, hs, Bool.and_self]
        have hvo := wi_vol (da := da) (n := k) (by unfold wiSh; rw [Int.toNat_natCast]; exact hs)
        have hvo1 := hvo.1
        unfold wiSh at hvo1
        rw [Int.toNat_natCast] at hvo1
        rw [hvo1]
        have hA := wiN_length da k
        rw [mkOk (by omega) (by omega), cond_true, cond_true, Int.toNat_natCast]
        simp only [wiS, wiD, hB, wiSh, Int.toNat_natCast]
        refine run_loop (N := (da.length + 1 - k) * k) (fun m2 i out => impl_WindowsOf.L1 F m2 (impl_WindowsOf.t1 (k : Int) (dL (wiL da k)) (i : Int) out) (impl_WindowsOf.k1 F)) (fun i out => out = part (wiN da k) i) ?_ ?_ F 0 _ (by omega) (by omega) (by rw [part_zero, hA])
        · intro m2 out hI
          have hall := part_all (wiN da k)
          rw [hA] at hall
          rw [hall] at hI
          rw [impl_WindowsOf.s1]
          simp only [hdl, hvo1, Int.toNat_natCast, List.length_replicate]
          rw [dge (by omega), cond_false, hI]
          rfl
        · intro m2 i out hi hI
          have hol : out.length = (da.length + 1 - k) * k := by rw [hI, part_length (by omega), hA]
          have hq : i / k < da.length + 1 - k := Nat.div_lt_of_lt_mul (by rw [Nat.mul_comm]; exact hi)
          have hm : i % k < k := Nat.mod_lt _ (by omega)
          have hwl := wpL_length (da := da) (n := k) (i := i / k) (by omega)
          have ed : Int.tdiv (i : Int) (k : Int) = ((i / k : Nat) : Int) := rfl
          have hg : (wpL da k (i / k))[i % k]? = some (da.getD (i / k + i % k) 0) := by
            rw [wpL_tab (by omega), tab_get hm]
          rw [impl_WindowsOf.s1]
          simp only [hdl, hvo1, Int.toNat_natCast, List.length_replicate]
          rw [dlt hi, cond_true, decide_eq_false (p := (k : Int) = 0) (by omega), cond_false, ed, wN (n := i / k) (by omega), idx_nat hq, tmodN, w1 (by omega)]
          simp only [Option.bind_some, getI_dL, wiL_get' hq, cond_false]
          rw [hwl, idx_nat hm, idx_nat (j := i) (by omega)]
          simp only [Option.bind_some, hg]
          rw [decide_eq_true (by omega), cond_true]
          refine ⟨_, ?_, rfl⟩
          rw [hI, part_set (by omega)]
          simp only [wiN]
          rw [tab_getD hi]
    · intro m j xs hj hI
      have hle : xs.length = da.length + 1 - k := by rw [hI, partX_length (by omega), hXl]
      rw [impl_WindowsOf.s0, eW, eC]
      simp only [Int.toNat_natCast, List.length_replicate]
      rw [dlt hj, cond_true, w1 (by omega), wAdd (by omega), cut_both (by omega) (by omega), idx_nat (by omega)]
      simp only [Option.bind_some]
      rw [decide_eq_true (by omega), cond_true, show (da.drop j).take (j + k - j) = wpL da k j by rw [Nat.add_sub_cancel_left]; rfl]
      exact ⟨_, by rw [hI, wiX_set (by omega)], rfl⟩

namespace spec_isVector
noncomputable def E : Entry := ⟨42, true, false, fun | [.d (.agg [(.ints .i64 sh), (.ints .i64 da)])] => decide (sh.length < 9223372036854775808) && decide (da.length < 9223372036854775808) | _ => false, fun | [.d (.agg [(.ints .i64 sh), (.ints .i64 da)])] => ([.one ((.bool (vcB sh da)), false)], []) | _ => ([], []), fun _ => [], false, fun _ => none⟩
end spec_isVector
namespace spec_isVector
noncomputable def X : List Entry := [spec_valid.E]
noncomputable def I : List Inl := [⟨42, Try.f42, ⟨[], [], [], [], [], []⟩⟩]
theorem I_ok : ∀ i ∈ I, Try.prog.funcs[i.f]? = some i.fn ∧ (i.fn.name == "runtime.NumGoroutine") = false := by
  intro i hi
  simp only [I, List.mem_cons, List.not_mem_nil, or_false] at hi
  subst hi
  exact ⟨by kernel_rfl, by kernel_rfl⟩
theorem e (fuel : Nat) (p0q0 : List Int) (p0q1 : List Int) : runF Try.prog X I 0 fuel 42 Try.f42 [.d (.agg [(.ints .i64 p0q0), (.ints .i64 p0q1)])] =
  (bif decide (p0q0.length < 9223372036854775808) && decide (p0q1.length < 9223372036854775808) then
  (bif (validA p0q0 p0q1) then
  some ([.one ((.bool ((((p0q0.length : Nat) : Int) : Int) == 1)), false)], [])
  else
  some ([.one ((.bool false), false)], []))
  else
  none) := by kernel_rfl
end spec_isVector
theorem spec_isVector.ok_of (hX : ∀ E ∈ spec_isVector.X, CallSpec Try.prog E) (h : ∀ (sh : List Int) (da : List Int), (decide (sh.length < 9223372036854775808) && decide (da.length < 9223372036854775808)) = true → ∃ fuel, runF Try.prog spec_isVector.X spec_isVector.I 0 fuel 42 Try.f42 [.d (.agg [(.ints .i64 sh), (.ints .i64 da)])] = some ([.one ((.bool (vcB sh da)), false)], [])) : CallSpec Try.prog spec_isVector.E :=
  callSpec_of (d := 0) hX (by kernel_rfl) spec_isVector.I_ok (by kernel_rfl) (by kernel_rfl) (by kernel_rfl) (fun _ _ _ _ h => by dsimp only [spec_isVector.E] at h; cases h) (fun xs hp => by
    dsimp only [spec_isVector.E] at hp ⊢
    split at hp
    · exact h _ _ hp
    · cases hp)
theorem spec_isVector.ok : CallSpec Try.prog spec_isVector.E := spec_isVector.ok_of (by simp [spec_isVector.X, spec_valid.ok]) fun sh da h => ⟨0, by
  rw [spec_isVector.e, h]
  unfold vcB
  cases validA sh da with
  | false => rfl
  | true =>
    rw [show ((((sh.length : Nat) : Int)) == 1) = decide (sh.length = 1) by by_cases h : sh.length = 1 <;> simp [h]; omega]
    rfl⟩

namespace spec_WindowsOf
noncomputable def E : Entry := ⟨16, false, false, fun | [.d (.agg [(.ints .i64 sh), (.ints .i64 da)]), .d (.int .i64 n)] => decide (sh.length < 9223372036854775808) && decide (da.length < 9223372036854775808) | _ => false, fun | [.d (.agg [(.ints .i64 sh), (.ints .i64 da)]), .d (.int .i64 n)] => ([.agg [((.ints .i64 (wiS sh da n)), true), ((.ints .i64 (wiD sh da n)), true)], .one ((.bool (wiB sh da n)), false)], []) | _ => ([], []), fun _ => [], true, fun _ => none⟩
end spec_WindowsOf
namespace spec_WindowsOf
noncomputable def X : List Entry := [spec_isVector.E, spec_inRange.E, spec_validShape.E, spec_make1.E]
noncomputable def I : List Inl := [⟨16, Try.f16, ⟨[53], [(1000006, [0, 3, 5, 9, 10, 11, 12, 13, 14, 15, 16, 17, 18, 19, 20, 21, 22, 23, 24, 25, 26, 27, 28, 29, 30, 31, 32, 33, 34, 35, 36, 37, 38, 39, 40, 41, 42, 43, 44, 45, 46, 47, 48, 49, 50, 51, 52, 53])], [], [], [45, 51], []⟩⟩]
theorem I_ok : ∀ i ∈ I, Try.prog.funcs[i.f]? = some i.fn ∧ (i.fn.name == "runtime.NumGoroutine") = false := by
  intro i hi
  simp only [I, List.mem_cons, List.not_mem_nil, or_false] at hi
  subst hi
  exact ⟨by kernel_rfl, by kernel_rfl⟩
noncomputable abbrev L0 (fuel n : Nat) (s : St) (k : Kont) := lAt Try.prog X I fuel true 0 false 16 (bodyOf Try.f16) [1, 1, 1, 1, 0, 1, 0] n s k
noncomputable abbrev k0  (fuel : Nat) : Kont := (kAt Try.prog X I fuel true 0 false 16 (bodyOf Try.f16) [1, 1, 1, 1, 0, 1, 0] [] (endK Try.prog Try.f16))
noncomputable def t0 (p1 : Int) (p0q1 : List Int) (p0q0 : List Int) (x0q2 : Int) (x0q5 : List Int) : St := ⟨[.dead, (.imm (.int .i64 p1)), (.ptr 1000000000 0 0), .dead, (.ptr 1000000001 0 0), .dead, (.imm (.int .i64 (IntKind.wrap .i64 ((IntKind.wrap .i64 (((p0q1.length : Nat) : Int) - p1)) + 1)))), (.all 1000000002 1), (.imm (.int .i64 x0q2)), .dead, .dead, .dead, .dead, .dead, .dead, .dead, .dead, .dead, .dead, .dead, .dead, .dead, .dead, .dead, .dead, .dead, .dead, .dead, .dead, .dead, .dead, .dead, .dead, .dead, .dead, .dead, .dead, .dead, .dead, .dead, .dead, .dead, .dead, .dead, .dead, .dead, .dead, .dead, .dead, .dead, .dead, .dead, .dead, .dead], hOf [(1000000000, (.box [(.imm (.ints .i64 p0q0)), (.imm (.ints .i64 p0q1))])), (1000000001, (.box [(.imm .nils), (.imm .nils)])), (1000000002, (.ints .i64 x0q5))], [], []⟩
theorem e (fuel : Nat) (p0q0 : List Int) (p0q1 : List Int) (p1 : Int) : runF Try.prog X I 0 fuel 16 Try.f16 [.d (.agg [(.ints .i64 p0q0), (.ints .i64 p0q1)]), .d (.int .i64 p1)] =
  (bif decide (p0q0.length < 9223372036854775808) && decide (p0q1.length < 9223372036854775808) then
  (bif (!(vcB p0q0 p0q1)) then
  some ([.agg [((.ints .i64 []), true), ((.ints .i64 []), true)], .one ((.bool false), false)], [])
  else
  (bif (!(decide (1 ≤ p1) && decide (p1 ≤ ((IntKind.wrap .i64 (((p0q1.length : Nat) : Int) + 1)))))) then
  some ([.agg [((.ints .i64 []), true), ((.ints .i64 []), true)], .one ((.bool false), false)], [])
  else
  L0 fuel fuel (t0 p1 p0q1 p0q0 0 ([])) (k0  fuel)))
  else
  none) := by kernel_rfl
theorem s0 (fuel n0 : Nat) (p1 : Int) (p0q1 : List Int) (p0q0 : List Int) (x0q2 : Int) (x0q5 : List Int) : L0 fuel (n0 + 1) (t0 p1 p0q1 p0q0 x0q2 x0q5) (k0  fuel) =
  (bif (decide ((x0q2 : Int) < (IntKind.wrap .i64 ((IntKind.wrap .i64 (((p0q1.length : Nat) : Int) - p1)) + 1)))) then
  (cutEnds p0q1.length (some (.imm (.int .i64 x0q2))) (some (.imm (.int .i64 (IntKind.wrap .i64 (x0q2 + p1)))))).bind fun cq3 =>
  (bif fits (x0q5.length + ((p0q1.drop cq3.1).take (cq3.2 - cq3.1)).length) 8 then
  L0 fuel n0 (t0 p1 p0q1 p0q0 ((IntKind.wrap .i64 (x0q2 + 1))) ((x0q5 ++ ((p0q1.drop cq3.1).take (cq3.2 - cq3.1))))) (k0  fuel)
  else
  none)
  else
  (bif decide ((([(IntKind.wrap .i64 ((IntKind.wrap .i64 (((p0q1.length : Nat) : Int) - p1)) + 1)), p1] : List Int)).length < 9223372036854775808) then
  (bif (!(validS (([(IntKind.wrap .i64 ((IntKind.wrap .i64 (((p0q1.length : Nat) : Int) - p1)) + 1)), p1] : List Int)))) then
  some ([.agg [((.ints .i64 []), true), ((.ints .i64 []), true)], .one ((.bool false), false)], [])
  else
  (bif szB (([(IntKind.wrap .i64 ((IntKind.wrap .i64 (((p0q1.length : Nat) : Int) - p1)) + 1)), p1] : List Int)) && szB x0q5 then
  some ([.agg [((.ints .i64 (([(IntKind.wrap .i64 ((IntKind.wrap .i64 (((p0q1.length : Nat) : Int) - p1)) + 1)), p1] : List Int))), true), ((.ints .i64 x0q5), true)], .one ((.bool true), false)], [])
  else
  none))
  else
  none)) := by kernel_rfl
end spec_WindowsOf
theorem spec_WindowsOf.ok_of (hX : ∀ E ∈ spec_WindowsOf.X, CallSpec Try.prog E) (h : ∀ (sh : List Int) (da : List Int) (n : Int), (decide (sh.length < 9223372036854775808) && decide (da.length < 9223372036854775808)) = true → ∃ fuel, runF Try.prog spec_WindowsOf.X spec_WindowsOf.I 0 fuel 16 Try.f16 [.d (.agg [(.ints .i64 sh), (.ints .i64 da)]), .d (.int .i64 n)] = some ([.agg [((.ints .i64 (wiS sh da n)), true), ((.ints .i64 (wiD sh da n)), true)], .one ((.bool (wiB sh da n)), false)], [])) : CallSpec Try.prog spec_WindowsOf.E :=
  callSpec_of (d := 0) hX (by kernel_rfl) spec_WindowsOf.I_ok (by kernel_rfl) (by kernel_rfl) (by kernel_rfl) (fun _ _ _ _ h => by dsimp only [spec_WindowsOf.E] at h; cases h) (fun xs hp => by
    dsimp only [spec_WindowsOf.E] at hp ⊢
    split at hp
    · exact h _ _ _ hp
    · cases hp)
theorem spec_WindowsOf.ok : CallSpec Try.prog spec_WindowsOf.E := spec_WindowsOf.ok_of (by simp [spec_WindowsOf.X, spec_isVector.ok, spec_inRange.ok, spec_validShape.ok, spec_make1.ok]) fun sh da n h => by
  obtain ⟨F, hF⟩ : ∃ F : Nat, 100 < F := ⟨101, by omega⟩
  refine ⟨F, ?_⟩
  rw [spec_WindowsOf.e, h, cond_true]
  cases hb : vcB sh da with
  | false => simp only [wiS, wiD, wiB, wiK, hb]; rfl
  | true =>
    obtain ⟨_, _, hl, _⟩ := vcB_inv hb
    rw [w1 (by omega)]
    cases hn : decide (1 ≤ n) && decide (n ≤ ((da.length + 1 : Nat) : Int)) with
    | false => simp only [wiS, wiD, wiB, wiK, hb, hn]; rfl
    | true =>
      have hK : wiK sh da n = true := by simp only [wiK, hb, hn, Bool.and_self]
      obtain ⟨k, rfl, k1, k2, _⟩ := wiK_inv hK
      have hbd := wi_bd k2 hl
      have eR : IntKind.wrap .i64 (IntKind.wrap .i64 (((da.length : Nat) : Int) - (k : Int)) + 1) = ((da.length + 1 - k : Nat) : Int) := by
        rw [wS (x := ((da.length : Nat) : Int) - (k : Int)) (by omega) (by omega), wS (by omega) (by omega)]; omega
      simp only [Bool.not_true, cond_false]
      refine run_loop (N := da.length + 1 - k) (fun m j out => spec_WindowsOf.L0 F m (spec_WindowsOf.t0 (k : Int) da sh (j : Int) out) (spec_WindowsOf.k0 F)) (fun j out => out = tab (j * k) fun i => da.getD (i / k + i % k) 0) ?_ ?_ F 0 [] (by omega) (by omega) (by simp [tab])
      · rintro m out rfl
        rw [spec_WindowsOf.s0, eR, dge (by omega), cond_false, lt_of (by simp)]
        cases hs : validS ([((da.length + 1 - k : Nat) : Int), (k : Int)] : List Int) with
        | false =>
          have hB : wiB sh da (k : Int) = false := by simp only [wiB, hK, wiSh, Int.toNat_natCast, hs, Bool.and_false]
          simp only [wiS, wiD, hB]
          rfl
        | true =>
          have hB : wiB sh da (k : Int) = true := by simp only [wiB, hK, wiSh, Int.toNat_natCast, hs, Bool.and_self]
          rw [szB_of (by simp), szB_of (by rw [tab_length]; omega)]
          simp only [wiS, wiD, hB, wiSh, wiN, Int.toNat_natCast]
          rfl
      · rintro m j out hj rfl
        have hjl : (j + 1) * k ≤ (da.length + 1 - k) * k := Nat.mul_le_mul (by omega) (Nat.le_refl _)
        have hjl2 : (j + 1) * k = j * k + k := Nat.succ_mul _ _
        rw [spec_WindowsOf.s0, eR, dlt hj, cond_true, w1 (by omega), wAdd (by omega), cut_both (by omega) (by omega)]
        simp only [Option.bind_some]
        have ew : (da.drop j).take (j + k - j) = wpL da k j := by rw [Nat.add_sub_cancel_left]; rfl
        rw [ew, fitsOk (by rw [tab_length, wpL_length (by omega)]; omega), cond_true]
        exact ⟨_, wi_push k1 (by omega), rfl⟩

namespace impl_copyList
noncomputable def E : Entry := ⟨46, false, false, fun | [.d (.ints .i64 xs)] => szB xs | _ => false, fun | [.d (.ints .i64 xs)] => ([.one ((.ints .i64 xs), true)], []) | _ => ([], []), fun _ => [], true, fun _ => none⟩
end impl_copyList
namespace impl_copyList
noncomputable def X : List Entry := []
noncomputable def I : List Inl := [⟨46, Try.f46, ⟨[], [], [], [], [], []⟩⟩]
theorem I_ok : ∀ i ∈ I, Try.prog.funcs[i.f]? = some i.fn ∧ (i.fn.name == "runtime.NumGoroutine") = false := by
  intro i hi
  simp only [I, List.mem_cons, List.not_mem_nil, or_false] at hi
  subst hi
  exact ⟨by kernel_rfl, by kernel_rfl⟩
theorem e (fuel : Nat) (p0 : List Int) : runF Try.prog X I 0 fuel 46 Try.f46 [.d (.ints .i64 p0)] =
  (bif decide (0 ≤ (((p0.length : Nat) : Int) : Int)) && decide ((((p0.length : Nat) : Int) : Int) ≤ ((p0.length : Nat) : Int)) && decide ((((p0.length : Nat) : Int) : Int) ≤ 1152921504606846976) && decide (((8 : Nat) : Int) * ((p0.length : Nat) : Int) ≤ 281474976710656) then
  some ([.one ((.ints .i64 (copyL (List.replicate (((p0.length : Nat) : Int)).toNat (0 : Int)) 0 (List.replicate (((p0.length : Nat) : Int)).toNat (0 : Int)).length p0)), true)], [])
  else
  none) := by kernel_rfl
end impl_copyList
theorem impl_copyList.ok_of (hX : ∀ E ∈ impl_copyList.X, CallSpec Try.prog E) (h : ∀ (xs : List Int), (szB xs) = true → ∃ fuel, runF Try.prog impl_copyList.X impl_copyList.I 0 fuel 46 Try.f46 [.d (.ints .i64 xs)] = some ([.one ((.ints .i64 xs), true)], [])) : CallSpec Try.prog impl_copyList.E :=
  callSpec_of (d := 0) hX (by kernel_rfl) impl_copyList.I_ok (by kernel_rfl) (by kernel_rfl) (by kernel_rfl) (fun _ _ _ _ h => by dsimp only [impl_copyList.E] at h; cases h) (fun xs hp => by
    dsimp only [impl_copyList.E] at hp ⊢
    split at hp
    · exact h _ hp
    · cases hp)
theorem impl_copyList.ok : CallSpec Try.prog impl_copyList.E := impl_copyList.ok_of (by simp [impl_copyList.X]) fun xs h => ⟨0, by
  have hx := szB_le h
  rw [impl_copyList.e, mkOk (by omega) (by omega)]
  simp only [cond_true, Int.toNat_natCast, copyL_all]⟩

namespace impl_CellOf
noncomputable def E : Entry := ⟨17, false, false, fun | [.d (.agg [(.ints .i64 sh), (.ints .i64 da)]), .d (.int .i64 n)] => decide (sh.length < 9223372036854775808) && decide (da.length < 9223372036854775808) | _ => false, fun | [.d (.agg [(.ints .i64 sh), (.ints .i64 da)]), .d (.int .i64 n)] => ([.agg [((.ints .i64 (ceS sh da n)), true), ((.ints .i64 (ceD sh da n)), true)], .one ((.bool (ceB sh da n)), false)], []) | _ => ([], []), fun _ => [], true, fun _ => none⟩
end impl_CellOf
namespace impl_CellOf
noncomputable def X : List Entry := [impl_axisLength.E, impl_copyList.E]
noncomputable def I : List Inl := [⟨17, Try.f17, ⟨[34, 45], [], [], [(5, [0, 4, 6, 7, 8, 9, 10, 11, 12, 1, 2, 5, 13, 3, 14, 15, 16, 17])], [], []⟩⟩]
theorem I_ok : ∀ i ∈ I, Try.prog.funcs[i.f]? = some i.fn ∧ (i.fn.name == "runtime.NumGoroutine") = false := by
  intro i hi
  simp only [I, List.mem_cons, List.not_mem_nil, or_false] at hi
  subst hi
  exact ⟨by kernel_rfl, by kernel_rfl⟩
theorem e (fuel : Nat) (p0q0 : List Int) (p0q1 : List Int) (p1 : Int) : runF Try.prog X I 0 fuel 17 Try.f17 [.d (.agg [(.ints .i64 p0q0), (.ints .i64 p0q1)]), .d (.int .i64 p1)] =
  (bif decide (p0q0.length < 9223372036854775808) && decide (p0q1.length < 9223372036854775808) then
  (bif (!(axB p0q0 p0q1 0)) then
  some ([.agg [((.ints .i64 []), true), ((.ints .i64 []), true)], .one ((.bool false), false)], [])
  else
  (bif (decide ((p1 : Int) < 0)) then
  some ([.agg [((.ints .i64 []), true), ((.ints .i64 []), true)], .one ((.bool false), false)], [])
  else
  (bif (decide ((p1 : Int) ≥ (axL p0q0 p0q1 0))) then
  some ([.agg [((.ints .i64 []), true), ((.ints .i64 []), true)], .one ((.bool false), false)], [])
  else
  (bif decide (((axL p0q0 p0q1 0) : Int) = 0) then
  none
  else
  (cutEnds p0q0.length (some (.imm (.int .i64 1))) (none)).bind fun cq1 =>
  (cutEnds p0q1.length (some (.imm (.int .i64 (IntKind.wrap .i64 (p1 * (IntKind.wrap .i64 (Int.tdiv ((p0q1.length : Nat) : Int) (axL p0q0 p0q1 0)))))))) (some (.imm (.int .i64 (IntKind.wrap .i64 ((IntKind.wrap .i64 (p1 + 1)) * (IntKind.wrap .i64 (Int.tdiv ((p0q1.length : Nat) : Int) (axL p0q0 p0q1 0))))))))).bind fun cq2 =>
  (bif szB (((p0q0.drop cq1.1).take (cq1.2 - cq1.1))) then
  (bif szB (((p0q1.drop cq2.1).take (cq2.2 - cq2.1))) then
  some ([.agg [((.ints .i64 (((p0q0.drop cq1.1).take (cq1.2 - cq1.1)))), true), ((.ints .i64 (((p0q1.drop cq2.1).take (cq2.2 - cq2.1)))), true)], .one ((.bool true), false)], [])
  else
  none)
  else
  none)))))
  else
  none) := by kernel_rfl
end impl_CellOf
theorem impl_CellOf.ok_of (hX : ∀ E ∈ impl_CellOf.X, CallSpec Try.prog E) (h : ∀ (sh : List Int) (da : List Int) (n : Int), (decide (sh.length < 9223372036854775808) && decide (da.length < 9223372036854775808)) = true → ∃ fuel, runF Try.prog impl_CellOf.X impl_CellOf.I 0 fuel 17 Try.f17 [.d (.agg [(.ints .i64 sh), (.ints .i64 da)]), .d (.int .i64 n)] = some ([.agg [((.ints .i64 (ceS sh da n)), true), ((.ints .i64 (ceD sh da n)), true)], .one ((.bool (ceB sh da n)), false)], [])) : CallSpec Try.prog impl_CellOf.E :=
  callSpec_of (d := 0) hX (by kernel_rfl) impl_CellOf.I_ok (by kernel_rfl) (by kernel_rfl) (by kernel_rfl) (fun _ _ _ _ h => by dsimp only [impl_CellOf.E] at h; cases h) (fun xs hp => by
    dsimp only [impl_CellOf.E] at hp ⊢
    split at hp
    · exact h _ _ _ hp
    · cases hp)
theorem impl_CellOf.ok : CallSpec Try.prog impl_CellOf.E := impl_CellOf.ok_of (by simp [impl_CellOf.X, impl_axisLength.ok, impl_copyList.ok]) fun sh da n h => ⟨0, by
  rw [impl_CellOf.e, h]
  unfold ceS ceD
  cases hb : axB sh da 0 with
  | false =>
    have : ceB sh da n = false := by simp only [ceB, hb, Bool.false_and]
    rw [this]; rfl
  | true =>
    obtain ⟨hj, hv, ax, hd, hl⟩ := axB_zero hb
    have hr := ax.rank
    have hL := ax.len_le
    have hM := ax.le
    rw [hl]
    simp only [cond_true, Bool.not_true, cond_false]
    cases hc : ceB sh da n with
    | false =>
      simp only [ceB, hb, Bool.true_and] at hc
      by_cases h0 : 0 ≤ n
      · rw [decide_eq_true h0, Bool.true_and, decide_eq_false_iff_not] at hc
        rw [decide_eq_false (p := n < 0) (by omega), decide_eq_true (p := n ≥ ((lenN sh 0 : Nat) : Int)) (by omega)]; rfl
      · rw [decide_eq_true (p := n < 0) (by omega)]; rfl
    | true =>
      obtain ⟨j, rfl, hj2, _, hle⟩ := ceB_inv hc
      have hle2 : j * behN sh 0 ≤ (j + 1) * behN sh 0 := Nat.mul_le_mul_right _ (by omega)
      have hlen := validA_len hv
      have e1 : IntKind.wrap .i64 ((j : Int) + 1) = ((j + 1 : Nat) : Int) := w1 (by omega)
      have e2 : da.length / lenN sh 0 = behN sh 0 := by rw [hd, Nat.mul_comm]; exact Nat.mul_div_cancel _ (by omega)
      have e3 : behN sh 0 ≤ da.length := by rw [← e2]; exact Nat.div_le_self _ _
      rw [decide_eq_false (p := (j : Int) < 0) (by omega), decide_eq_false (p := (j : Int) ≥ ((lenN sh 0 : Nat) : Int)) (by omega), decide_eq_false (p := ((lenN sh 0 : Nat) : Int) = 0) (by omega)]
      simp only [cond_false]
      rw [cut_one hj, tdivN, e2, wN (n := behN sh 0) (by omega), e1, wMul (by omega), wMul (by omega), cut_both hle2 (by omega)]
      simp only [Option.bind_some, drop_take, ce_cut]
      rw [szB_of (by simp; omega), szB_of (by simp; omega)]
      rfl⟩

namespace laws_FnWindowsOf
noncomputable def E : Entry := ⟨4, true, false, fun | [.d (.ints .u8 bs)] => bytesB bs | _ => false, fun | [.d (.ints .u8 bs)] => ([.one ((.bool true), false)], []) | _ => ([], []), fun _ => [], false, fun _ => none⟩
end laws_FnWindowsOf
namespace laws_FnWindowsOf
noncomputable def X : List Entry := [spec_DrawWindowsOf.E, impl_WindowsOf.E, spec_WindowsOf.E, laws_equalArray.E, impl_CellOf.E, laws_equalInts.E]
noncomputable def I : List Inl := [⟨4, Try.f4, ⟨[19, 25, 31, 66, 86], [(1000009, [0, 1, 2, 6, 7, 8, 10, 11, 12, 13, 14, 15, 16, 17, 18, 19, 20, 21, 22, 23, 24, 25, 26, 27, 28, 29, 30, 31, 32, 33, 34, 35, 36, 37, 38, 39, 40, 41, 42, 43, 44, 45, 46, 47, 48, 49, 50, 51, 52, 53, 54, 55, 56, 57, 58, 59, 60, 61, 62, 63, 64, 65, 66, 67, 68, 69, 70, 71, 72, 73, 74, 75, 76, 77, 78, 79, 80, 81, 82, 83, 84, 85, 86, 87, 88, 89, 90, 91, 92, 93, 94, 95, 96, 97, 98, 99, 100, 101, 102, 103, 104, 105, 106, 107, 108, 109, 110])], [], [(12, [0, 1, 2, 3, 5, 7, 8, 9, 10, 4, 6, 11, 12, 13, 14]), (15, [0, 4, 7, 1, 2, 3, 5, 6, 8, 9, 10, 11, 12, 13, 14, 15, 17, 16, 18, 19, 20, 21, 22])], [], []⟩⟩]
theorem I_ok : ∀ i ∈ I, Try.prog.funcs[i.f]? = some i.fn ∧ (i.fn.name == "runtime.NumGoroutine") = false := by
  intro i hi
  simp only [I, List.mem_cons, List.not_mem_nil, or_false] at hi
  subst hi
  exact ⟨by kernel_rfl, by kernel_rfl⟩
noncomputable abbrev L0 (fuel n : Nat) (s : St) (k : Kont) := lAt Try.prog X I fuel true 0 false 4 (bodyOf Try.f4) [1, 1, 1, 1, 1, 1, 0, 1, 0] n s k
noncomputable abbrev k0  (fuel : Nat) : Kont := (kAt Try.prog X I fuel true 0 false 4 (bodyOf Try.f4) [1, 1, 1, 1, 1, 1, 0, 1, 0] [] (endK Try.prog Try.f4))
noncomputable def t0 (p0 : List Int) (x0q1 : Int) : St := ⟨[.dead, .dead, .dead, (.ptr 1000000000 0 0), (.imm (.int .i64 (dWn (cutC p0)))), (.ptr 1000000001 0 0), .dead, .dead, .dead, (.imm (.int .i64 x0q1)), .dead, .dead, .dead, .dead, .dead, .dead, .dead, .dead, .dead, .dead, .dead, .dead, .dead, .dead, .dead, .dead, .dead, .dead, .dead, .dead, .dead, .dead, .dead, .dead, .dead, .dead, .dead, .dead, .dead, .dead, .dead, .dead, .dead, .dead, .dead, .dead, .dead, .dead, .dead, .dead, .dead, .dead, .dead, .dead, .dead, .dead, .dead, .dead, .dead, .dead, .dead, .dead, .dead, .dead, .dead, .dead, .dead, .dead, .dead, .dead, .dead, .dead, .dead, .dead, .dead, .dead, .dead, .dead, .dead, .dead, .dead, .dead, .dead, .dead, .dead, .dead, .dead, .dead, .dead, .dead, .dead, .dead, .dead, .dead, .dead, .dead, .dead, .dead, .dead, .dead, .dead, .dead, .dead, .dead, .dead, .dead, .dead, .dead, .dead, .dead, .dead], hOf [(1000000000, (.box [(.imm (.ints .i64 (avS (cutC p0) 0))), (.imm (.ints .i64 (avD (cutC p0) 0)))])), (1000000001, (.box [(.all 1000000002 1), (.all 1000000003 1)])), (1000000002, (.ints .i64 (wiS ((avS (cutC p0) 0)) ((avD (cutC p0) 0)) ((dWn (cutC p0)))))), (1000000003, (.ints .i64 (wiD ((avS (cutC p0) 0)) ((avD (cutC p0) 0)) ((dWn (cutC p0))))))], [], []⟩
theorem e (fuel : Nat) (p0 : List Int) : runF Try.prog X I 0 fuel 4 Try.f4 [.d (.ints .u8 p0)] =
  (bif (decide ((((p0.length : Nat) : Int) : Int) > 1048576)) then
  some ([.one ((.bool true), false)], [])
  else
  (bif bytesB p0 then
  (bif decide (((avS (cutC p0) 0)).length < 9223372036854775808) && decide (((avD (cutC p0) 0)).length < 9223372036854775808) then
  (bif decide (((avS (cutC p0) 0)).length < 9223372036854775808) && decide (((avD (cutC p0) 0)).length < 9223372036854775808) then
  (bif decide (((wiS ((avS (cutC p0) 0)) ((avD (cutC p0) 0)) ((dWn (cutC p0))))).length < 9223372036854775808) && decide (((wiD ((avS (cutC p0) 0)) ((avD (cutC p0) 0)) ((dWn (cutC p0))))).length < 9223372036854775808) && decide (((wiS ((avS (cutC p0) 0)) ((avD (cutC p0) 0)) ((dWn (cutC p0))))).length < 9223372036854775808) && decide (((wiD ((avS (cutC p0) 0)) ((avD (cutC p0) 0)) ((dWn (cutC p0))))).length < 9223372036854775808) then
  (bif (!(decide (((wiS ((avS (cutC p0) 0)) ((avD (cutC p0) 0)) ((dWn (cutC p0))))) = ((wiS ((avS (cutC p0) 0)) ((avD (cutC p0) 0)) ((dWn (cutC p0)))))) && decide (((wiD ((avS (cutC p0) 0)) ((avD (cutC p0) 0)) ((dWn (cutC p0))))) = ((wiD ((avS (cutC p0) 0)) ((avD (cutC p0) 0)) ((dWn (cutC p0)))))))) then
  (bif decide (((wiS ((avS (cutC p0) 0)) ((avD (cutC p0) 0)) ((dWn (cutC p0))))).length < 9223372036854775808) && decide (((wiD ((avS (cutC p0) 0)) ((avD (cutC p0) 0)) ((dWn (cutC p0))))).length < 9223372036854775808) && decide (((wiS ((avS (cutC p0) 0)) ((avD (cutC p0) 0)) ((dWn (cutC p0))))).length < 9223372036854775808) && decide (((wiD ((avS (cutC p0) 0)) ((avD (cutC p0) 0)) ((dWn (cutC p0))))).length < 9223372036854775808) then
  (bif (decide (((wiS ((avS (cutC p0) 0)) ((avD (cutC p0) 0)) ((dWn (cutC p0))))) = ((wiS ((avS (cutC p0) 0)) ((avD (cutC p0) 0)) ((dWn (cutC p0)))))) && decide (((wiD ((avS (cutC p0) 0)) ((avD (cutC p0) 0)) ((dWn (cutC p0))))) = ((wiD ((avS (cutC p0) 0)) ((avD (cutC p0) 0)) ((dWn (cutC p0))))))) then
  some ([.one ((.bool ((wiB ((avS (cutC p0) 0)) ((avD (cutC p0) 0)) ((dWn (cutC p0)))) == (wiB ((avS (cutC p0) 0)) ((avD (cutC p0) 0)) ((dWn (cutC p0)))))), false)], [])
  else
  some ([.one ((.bool false), false)], []))
  else
  none)
  else
  (bif (!((wiB ((avS (cutC p0) 0)) ((avD (cutC p0) 0)) ((dWn (cutC p0)))) == (wiB ((avS (cutC p0) 0)) ((avD (cutC p0) 0)) ((dWn (cutC p0)))))) then
  (bif decide (((wiS ((avS (cutC p0) 0)) ((avD (cutC p0) 0)) ((dWn (cutC p0))))).length < 9223372036854775808) && decide (((wiD ((avS (cutC p0) 0)) ((avD (cutC p0) 0)) ((dWn (cutC p0))))).length < 9223372036854775808) && decide (((wiS ((avS (cutC p0) 0)) ((avD (cutC p0) 0)) ((dWn (cutC p0))))).length < 9223372036854775808) && decide (((wiD ((avS (cutC p0) 0)) ((avD (cutC p0) 0)) ((dWn (cutC p0))))).length < 9223372036854775808) then
  (bif (decide (((wiS ((avS (cutC p0) 0)) ((avD (cutC p0) 0)) ((dWn (cutC p0))))) = ((wiS ((avS (cutC p0) 0)) ((avD (cutC p0) 0)) ((dWn (cutC p0)))))) && decide (((wiD ((avS (cutC p0) 0)) ((avD (cutC p0) 0)) ((dWn (cutC p0))))) = ((wiD ((avS (cutC p0) 0)) ((avD (cutC p0) 0)) ((dWn (cutC p0))))))) then
  some ([.one ((.bool ((wiB ((avS (cutC p0) 0)) ((avD (cutC p0) 0)) ((dWn (cutC p0)))) == (wiB ((avS (cutC p0) 0)) ((avD (cutC p0) 0)) ((dWn (cutC p0)))))), false)], [])
  else
  some ([.one ((.bool false), false)], []))
  else
  none)
  else
  (bif (!(wiB ((avS (cutC p0) 0)) ((avD (cutC p0) 0)) ((dWn (cutC p0))))) then
  (bif decide (((wiS ((avS (cutC p0) 0)) ((avD (cutC p0) 0)) ((dWn (cutC p0))))).length < 9223372036854775808) && decide (((wiD ((avS (cutC p0) 0)) ((avD (cutC p0) 0)) ((dWn (cutC p0))))).length < 9223372036854775808) && decide (((wiS ((avS (cutC p0) 0)) ((avD (cutC p0) 0)) ((dWn (cutC p0))))).length < 9223372036854775808) && decide (((wiD ((avS (cutC p0) 0)) ((avD (cutC p0) 0)) ((dWn (cutC p0))))).length < 9223372036854775808) then
  (bif (decide (((wiS ((avS (cutC p0) 0)) ((avD (cutC p0) 0)) ((dWn (cutC p0))))) = ((wiS ((avS (cutC p0) 0)) ((avD (cutC p0) 0)) ((dWn (cutC p0)))))) && decide (((wiD ((avS (cutC p0) 0)) ((avD (cutC p0) 0)) ((dWn (cutC p0))))) = ((wiD ((avS (cutC p0) 0)) ((avD (cutC p0) 0)) ((dWn (cutC p0))))))) then
  some ([.one ((.bool ((wiB ((avS (cutC p0) 0)) ((avD (cutC p0) 0)) ((dWn (cutC p0)))) == (wiB ((avS (cutC p0) 0)) ((avD (cutC p0) 0)) ((dWn (cutC p0)))))), false)], [])
  else
  some ([.one ((.bool false), false)], []))
  else
  none)
  else
  L0 fuel fuel (t0 p0 0) (k0  fuel))))
  else
  none)
  else
  none)
  else
  none)
  else
  none)) := by kernel_rfl
theorem s0 (fuel n0 : Nat) (p0 : List Int) (x0q1 : Int) : L0 fuel (n0 + 1) (t0 p0 x0q1) (k0  fuel) =
  (idx 0 (wiS ((avS (cutC p0) 0)) ((avD (cutC p0) 0)) ((dWn (cutC p0)))).length).bind fun j11 =>
  ((wiS ((avS (cutC p0) 0)) ((avD (cutC p0) 0)) ((dWn (cutC p0))))[j11]?).bind fun v12 =>
  (bif (decide ((x0q1 : Int) < v12)) then
  (bif decide (((wiS ((avS (cutC p0) 0)) ((avD (cutC p0) 0)) ((dWn (cutC p0))))).length < 9223372036854775808) && decide (((wiD ((avS (cutC p0) 0)) ((avD (cutC p0) 0)) ((dWn (cutC p0))))).length < 9223372036854775808) then
  (bif (!(ceB ((wiS ((avS (cutC p0) 0)) ((avD (cutC p0) 0)) ((dWn (cutC p0))))) ((wiD ((avS (cutC p0) 0)) ((avD (cutC p0) 0)) ((dWn (cutC p0))))) x0q1)) then
  some ([.one ((.bool false), false)], [])
  else
  (cutEnds (avD (cutC p0) 0).length (some (.imm (.int .i64 x0q1))) (some (.imm (.int .i64 (IntKind.wrap .i64 (x0q1 + (dWn (cutC p0)))))))).bind fun cq13 =>
  (bif decide (((ceD ((wiS ((avS (cutC p0) 0)) ((avD (cutC p0) 0)) ((dWn (cutC p0))))) ((wiD ((avS (cutC p0) 0)) ((avD (cutC p0) 0)) ((dWn (cutC p0))))) x0q1)).length < 9223372036854775808) && decide (((((avD (cutC p0) 0).drop cq13.1).take (cq13.2 - cq13.1))).length < 9223372036854775808) then
  (bif (!(decide (((ceD ((wiS ((avS (cutC p0) 0)) ((avD (cutC p0) 0)) ((dWn (cutC p0))))) ((wiD ((avS (cutC p0) 0)) ((avD (cutC p0) 0)) ((dWn (cutC p0))))) x0q1)) = ((((avD (cutC p0) 0).drop cq13.1).take (cq13.2 - cq13.1)))))) then
  some ([.one ((.bool false), false)], [])
  else
  L0 fuel n0 (t0 p0 ((IntKind.wrap .i64 (x0q1 + 1)))) (k0  fuel))
  else
  none))
  else
  none)
  else
  (bif decide (((avS (cutC p0) 0)).length < 9223372036854775808) && decide (((avD (cutC p0) 0)).length < 9223372036854775808) then
  (idx 0 (wiS ((avS (cutC p0) 0)) ((avD (cutC p0) 0)) ((dWn (cutC p0)))).length).bind fun j14 =>
  ((wiS ((avS (cutC p0) 0)) ((avD (cutC p0) 0)) ((dWn (cutC p0))))[j14]?).bind fun v15 =>
  (bif ((v15 : Int) == (IntKind.wrap .i64 ((IntKind.wrap .i64 ((((avD (cutC p0) 0).length : Nat) : Int) - (dWn (cutC p0)))) + 1))) then
  (bif (!(wiB ((avS (cutC p0) 0)) ((avD (cutC p0) 0)) 1)) then
  some ([.one ((.bool true), false)], [])
  else
  (bif decide (((wiD ((avS (cutC p0) 0)) ((avD (cutC p0) 0)) 1)).length < 9223372036854775808) && decide (((avD (cutC p0) 0)).length < 9223372036854775808) then
  some ([.one ((.bool (decide (((wiD ((avS (cutC p0) 0)) ((avD (cutC p0) 0)) 1)) = ((avD (cutC p0) 0))))), false)], [])
  else
  none))
  else
  some ([.one ((.bool false), false)], []))
  else
  none)) := by kernel_rfl
end laws_FnWindowsOf
theorem laws_FnWindowsOf.ok_of (hX : ∀ E ∈ laws_FnWindowsOf.X, CallSpec Try.prog E) (h : ∀ (bs : List Int), (bytesB bs) = true → ∃ fuel, runF Try.prog laws_FnWindowsOf.X laws_FnWindowsOf.I 0 fuel 4 Try.f4 [.d (.ints .u8 bs)] = some ([.one ((.bool true), false)], [])) : CallSpec Try.prog laws_FnWindowsOf.E :=
  callSpec_of (d := 0) hX (by kernel_rfl) laws_FnWindowsOf.I_ok (by kernel_rfl) (by kernel_rfl) (by kernel_rfl) (fun _ _ _ _ h => by dsimp only [laws_FnWindowsOf.E] at h; cases h) (fun xs hp => by
    dsimp only [laws_FnWindowsOf.E] at hp ⊢
    split at hp
    · exact h _ hp
    · cases hp)
theorem laws_FnWindowsOf.ok : CallSpec Try.prog laws_FnWindowsOf.E := laws_FnWindowsOf.ok_of (by simp [laws_FnWindowsOf.X, spec_DrawWindowsOf.ok, impl_WindowsOf.ok, spec_WindowsOf.ok, laws_equalArray.ok, impl_CellOf.ok, laws_equalInts.ok]) fun bs h => by
  obtain ⟨F, hF⟩ : ∃ F : Nat, 4000 < F := ⟨4001, by omega⟩
  refine ⟨F, ?_⟩
  rw [laws_FnWindowsOf.e]
  by_cases hl : ((bs.length : Nat) : Int) > 1048576
  · rw [decide_eq_true hl]; rfl
  rw [decide_eq_false hl, cond_false, h, cond_true]
  have r0 := cut_ok h (p := 0) (by omega) (by omega)
  obtain ⟨a1, a2, a3, a4⟩ := av_bd r0 (by omega)
  have hsm : vcB (avS (cutC bs) 0) (avD (cutC bs) 0) = true → (avD (cutC bs) 0).length ≤ 20 := fun h => av_small r0 h
  obtain ⟨sh, hsh⟩ : ∃ x, avS (cutC bs) 0 = x := ⟨_, rfl⟩
  obtain ⟨da, hda⟩ : ∃ x, avD (cutC bs) 0 = x := ⟨_, rfl⟩
  obtain ⟨n, hn⟩ : ∃ x, dWn (cutC bs) = x := ⟨_, rfl⟩
  rw [hsh] at a1
  rw [hda] at a2
  rw [hsh, hda] at hsm
  have g1 := lt_of (xs := sh) (by omega)
  have g2 := lt_of (xs := da) (by omega)
  have w := wi_len sh da n
  have g3 := lt_of (xs := wiS sh da n) (by omega)
  have g4 := lt_of (xs := wiD sh da n) (by omega)
  simp only [hsh, hda, hn]
  cases hb : wiB sh da n with
  | false => simp only [Bool.and_self, Bool.and_true, Bool.true_and, cond_true, cond_false, Bool.not_true, Bool.not_false, bne_self_eq_false, beq_self_eq_true, decide_true, eq_self, g1, g2, g3, g4]
  | true =>
    obtain ⟨k, rfl, k1, k2, hvc, e1, e2, hvw⟩ := wiB_eq hb
    have hl := hsm hvc
    simp only [Bool.and_self, Bool.and_true, Bool.true_and, cond_true, cond_false, Bool.not_true, Bool.not_false, bne_self_eq_false, beq_self_eq_true, decide_true, eq_self, g1, g2, g3, g4]
    have ix : idx 0 (wiS sh da (k : Int)).length = some 0 := by rw [e1]; rfl
    have ig : (wiS sh da (k : Int))[0]? = some ((da.length + 1 - k : Nat) : Int) := by rw [e1]; rfl
    refine run_loop (N := da.length + 1 - k) (fun m i (_ : Unit) => laws_FnWindowsOf.L0 F m (laws_FnWindowsOf.t0 bs (i : Int)) (laws_FnWindowsOf.k0 F)) (fun _ _ => True) ?_ ?_ F 0 () (by omega) (by omega) trivial
    · intro m _ _
      have eR : IntKind.wrap .i64 (IntKind.wrap .i64 (((da.length : Nat) : Int) - (k : Int)) + 1) = ((da.length + 1 - k : Nat) : Int) := by
        rw [wS (x := ((da.length : Nat) : Int) - (k : Int)) (by omega) (by omega), wS (by omega) (by omega)]; omega
      rw [laws_FnWindowsOf.s0]
      simp only [hsh, hda, hn]
      rw [ix]
      simp only [Option.bind_some, ig]
      rw [dge (by omega), cond_false, eR]
      have w1 := wi_len sh da 1
      have g5 := lt_of (xs := wiD sh da 1) (by omega)
      have g5' := lt_of (xs := wiS sh da 1) (by omega)
      cases h1 : wiB sh da 1 with
      | false => simp only [Bool.and_self, Bool.and_true, Bool.true_and, cond_true, cond_false, Bool.not_true, Bool.not_false, bne_self_eq_false, beq_self_eq_true, decide_true, eq_self, g1, g2, g3, g4, g5, g5', h1]
      | true =>
        obtain ⟨k', q0, _, _, _, _, q2, _⟩ := wiB_eq h1
        have : k' = 1 := by omega
        subst this
        rw [wi_one] at q2
        simp only [Bool.and_self, Bool.and_true, Bool.true_and, cond_true, cond_false, Bool.not_true, Bool.not_false, bne_self_eq_false, beq_self_eq_true, decide_true, eq_self, g1, g2, g3, g4, g5, g5', h1, q2]
    · intro m i _ hi _
      refine ⟨(), trivial, ?_⟩
      obtain ⟨c1, c2⟩ := wi_cell hb hi
      have hwl := wpL_length (da := da) (n := k) (i := i) (by omega)
      rw [laws_FnWindowsOf.s0]
      simp only [hsh, hda, hn]
      rw [ix]
      simp only [Option.bind_some, ig]
      rw [dlt hi, cond_true, wAdd (by omega), cut_both (by omega) (by omega)]
      simp only [Option.bind_some]
      rw [show (da.drop i).take (i + k - i) = wpL da k i by rw [Nat.add_sub_cancel_left]; rfl, c1, c2, w1 (by omega)]
      have g6 := lt_of (xs := wpL da k i) (by omega)
      simp only [Bool.and_self, Bool.and_true, Bool.true_and, cond_true, cond_false, Bool.not_true, Bool.not_false, bne_self_eq_false, beq_self_eq_true, decide_true, eq_self, g1, g2, g3, g4, g6]

namespace laws_FnWindowsOfWhole
noncomputable def E : Entry := ⟨5, true, false, fun | [.d (.ints .u8 bs)] => bytesB bs | _ => false, fun | [.d (.ints .u8 bs)] => ([.one ((.bool true), false)], []) | _ => ([], []), fun _ => [], false, fun _ => none⟩
end laws_FnWindowsOfWhole
namespace laws_FnWindowsOfWhole
noncomputable def X : List Entry := [spec_DrawWindowsOf.E, impl_WindowsOf.E, spec_WindowsOf.E, laws_equalArray.E, laws_equalInts.E]
noncomputable def I : List Inl := [⟨5, Try.f5, ⟨[18, 24, 30, 65, 74], [], [], [], [], []⟩⟩]
theorem I_ok : ∀ i ∈ I, Try.prog.funcs[i.f]? = some i.fn ∧ (i.fn.name == "runtime.NumGoroutine") = false := by
  intro i hi
  simp only [I, List.mem_cons, List.not_mem_nil, or_false] at hi
  subst hi
  exact ⟨by kernel_rfl, by kernel_rfl⟩
theorem e (fuel : Nat) (p0 : List Int) : runF Try.prog X I 0 fuel 5 Try.f5 [.d (.ints .u8 p0)] =
  (bif (decide ((((p0.length : Nat) : Int) : Int) > 1048576)) then
  some ([.one ((.bool true), false)], [])
  else
  (bif bytesB p0 then
  (bif decide (((avS (cutC p0) 0)).length < 9223372036854775808) && decide (((avD (cutC p0) 0)).length < 9223372036854775808) then
  (bif decide (((avS (cutC p0) 0)).length < 9223372036854775808) && decide (((avD (cutC p0) 0)).length < 9223372036854775808) then
  (bif decide (((wiS ((avS (cutC p0) 0)) ((avD (cutC p0) 0)) ((dWn (cutC p0))))).length < 9223372036854775808) && decide (((wiD ((avS (cutC p0) 0)) ((avD (cutC p0) 0)) ((dWn (cutC p0))))).length < 9223372036854775808) && decide (((wiS ((avS (cutC p0) 0)) ((avD (cutC p0) 0)) ((dWn (cutC p0))))).length < 9223372036854775808) && decide (((wiD ((avS (cutC p0) 0)) ((avD (cutC p0) 0)) ((dWn (cutC p0))))).length < 9223372036854775808) then
  (bif (!(decide (((wiS ((avS (cutC p0) 0)) ((avD (cutC p0) 0)) ((dWn (cutC p0))))) = ((wiS ((avS (cutC p0) 0)) ((avD (cutC p0) 0)) ((dWn (cutC p0)))))) && decide (((wiD ((avS (cutC p0) 0)) ((avD (cutC p0) 0)) ((dWn (cutC p0))))) = ((wiD ((avS (cutC p0) 0)) ((avD (cutC p0) 0)) ((dWn (cutC p0)))))))) then
  (bif decide (((wiS ((avS (cutC p0) 0)) ((avD (cutC p0) 0)) ((dWn (cutC p0))))).length < 9223372036854775808) && decide (((wiD ((avS (cutC p0) 0)) ((avD (cutC p0) 0)) ((dWn (cutC p0))))).length < 9223372036854775808) && decide (((wiS ((avS (cutC p0) 0)) ((avD (cutC p0) 0)) ((dWn (cutC p0))))).length < 9223372036854775808) && decide (((wiD ((avS (cutC p0) 0)) ((avD (cutC p0) 0)) ((dWn (cutC p0))))).length < 9223372036854775808) then
  (bif (decide (((wiS ((avS (cutC p0) 0)) ((avD (cutC p0) 0)) ((dWn (cutC p0))))) = ((wiS ((avS (cutC p0) 0)) ((avD (cutC p0) 0)) ((dWn (cutC p0)))))) && decide (((wiD ((avS (cutC p0) 0)) ((avD (cutC p0) 0)) ((dWn (cutC p0))))) = ((wiD ((avS (cutC p0) 0)) ((avD (cutC p0) 0)) ((dWn (cutC p0))))))) then
  some ([.one ((.bool ((wiB ((avS (cutC p0) 0)) ((avD (cutC p0) 0)) ((dWn (cutC p0)))) == (wiB ((avS (cutC p0) 0)) ((avD (cutC p0) 0)) ((dWn (cutC p0)))))), false)], [])
  else
  some ([.one ((.bool false), false)], []))
  else
  none)
  else
  (bif (!((wiB ((avS (cutC p0) 0)) ((avD (cutC p0) 0)) ((dWn (cutC p0)))) == (wiB ((avS (cutC p0) 0)) ((avD (cutC p0) 0)) ((dWn (cutC p0)))))) then
  (bif decide (((wiS ((avS (cutC p0) 0)) ((avD (cutC p0) 0)) ((dWn (cutC p0))))).length < 9223372036854775808) && decide (((wiD ((avS (cutC p0) 0)) ((avD (cutC p0) 0)) ((dWn (cutC p0))))).length < 9223372036854775808) && decide (((wiS ((avS (cutC p0) 0)) ((avD (cutC p0) 0)) ((dWn (cutC p0))))).length < 9223372036854775808) && decide (((wiD ((avS (cutC p0) 0)) ((avD (cutC p0) 0)) ((dWn (cutC p0))))).length < 9223372036854775808) then
  (bif (decide (((wiS ((avS (cutC p0) 0)) ((avD (cutC p0) 0)) ((dWn (cutC p0))))) = ((wiS ((avS (cutC p0) 0)) ((avD (cutC p0) 0)) ((dWn (cutC p0)))))) && decide (((wiD ((avS (cutC p0) 0)) ((avD (cutC p0) 0)) ((dWn (cutC p0))))) = ((wiD ((avS (cutC p0) 0)) ((avD (cutC p0) 0)) ((dWn (cutC p0))))))) then
  some ([.one ((.bool ((wiB ((avS (cutC p0) 0)) ((avD (cutC p0) 0)) ((dWn (cutC p0)))) == (wiB ((avS (cutC p0) 0)) ((avD (cutC p0) 0)) ((dWn (cutC p0)))))), false)], [])
  else
  some ([.one ((.bool false), false)], []))
  else
  none)
  else
  (bif (!(wiB ((avS (cutC p0) 0)) ((avD (cutC p0) 0)) ((dWn (cutC p0))))) then
  (bif decide (((wiS ((avS (cutC p0) 0)) ((avD (cutC p0) 0)) ((dWn (cutC p0))))).length < 9223372036854775808) && decide (((wiD ((avS (cutC p0) 0)) ((avD (cutC p0) 0)) ((dWn (cutC p0))))).length < 9223372036854775808) && decide (((wiS ((avS (cutC p0) 0)) ((avD (cutC p0) 0)) ((dWn (cutC p0))))).length < 9223372036854775808) && decide (((wiD ((avS (cutC p0) 0)) ((avD (cutC p0) 0)) ((dWn (cutC p0))))).length < 9223372036854775808) then
  (bif (decide (((wiS ((avS (cutC p0) 0)) ((avD (cutC p0) 0)) ((dWn (cutC p0))))) = ((wiS ((avS (cutC p0) 0)) ((avD (cutC p0) 0)) ((dWn (cutC p0)))))) && decide (((wiD ((avS (cutC p0) 0)) ((avD (cutC p0) 0)) ((dWn (cutC p0))))) = ((wiD ((avS (cutC p0) 0)) ((avD (cutC p0) 0)) ((dWn (cutC p0))))))) then
  some ([.one ((.bool ((wiB ((avS (cutC p0) 0)) ((avD (cutC p0) 0)) ((dWn (cutC p0)))) == (wiB ((avS (cutC p0) 0)) ((avD (cutC p0) 0)) ((dWn (cutC p0)))))), false)], [])
  else
  some ([.one ((.bool false), false)], []))
  else
  none)
  else
  (bif (((((avD (cutC p0) 0).length : Nat) : Int) : Int) == 0) then
  (bif decide (((wiS ((avS (cutC p0) 0)) ((avD (cutC p0) 0)) ((dWn (cutC p0))))).length < 9223372036854775808) && decide (((wiD ((avS (cutC p0) 0)) ((avD (cutC p0) 0)) ((dWn (cutC p0))))).length < 9223372036854775808) && decide (((wiS ((avS (cutC p0) 0)) ((avD (cutC p0) 0)) ((dWn (cutC p0))))).length < 9223372036854775808) && decide (((wiD ((avS (cutC p0) 0)) ((avD (cutC p0) 0)) ((dWn (cutC p0))))).length < 9223372036854775808) then
  (bif (decide (((wiS ((avS (cutC p0) 0)) ((avD (cutC p0) 0)) ((dWn (cutC p0))))) = ((wiS ((avS (cutC p0) 0)) ((avD (cutC p0) 0)) ((dWn (cutC p0)))))) && decide (((wiD ((avS (cutC p0) 0)) ((avD (cutC p0) 0)) ((dWn (cutC p0))))) = ((wiD ((avS (cutC p0) 0)) ((avD (cutC p0) 0)) ((dWn (cutC p0))))))) then
  some ([.one ((.bool ((wiB ((avS (cutC p0) 0)) ((avD (cutC p0) 0)) ((dWn (cutC p0)))) == (wiB ((avS (cutC p0) 0)) ((avD (cutC p0) 0)) ((dWn (cutC p0)))))), false)], [])
  else
  some ([.one ((.bool false), false)], []))
  else
  none)
  else
  (bif decide (((avS (cutC p0) 0)).length < 9223372036854775808) && decide (((avD (cutC p0) 0)).length < 9223372036854775808) then
  (bif decide (((avS (cutC p0) 0)).length < 9223372036854775808) && decide (((avD (cutC p0) 0)).length < 9223372036854775808) then
  (bif (wiB ((avS (cutC p0) 0)) ((avD (cutC p0) 0)) ((((avD (cutC p0) 0).length : Nat) : Int))) then
  (bif decide (((wiD ((avS (cutC p0) 0)) ((avD (cutC p0) 0)) ((((avD (cutC p0) 0).length : Nat) : Int)))).length < 9223372036854775808) && decide (((avD (cutC p0) 0)).length < 9223372036854775808) then
  (bif (decide (((wiD ((avS (cutC p0) 0)) ((avD (cutC p0) 0)) ((((avD (cutC p0) 0).length : Nat) : Int)))) = ((avD (cutC p0) 0)))) then
  (bif (wiB ((avS (cutC p0) 0)) ((avD (cutC p0) 0)) ((IntKind.wrap .i64 ((((avD (cutC p0) 0).length : Nat) : Int) + 1)))) then
  (idx 0 (wiS ((avS (cutC p0) 0)) ((avD (cutC p0) 0)) ((IntKind.wrap .i64 ((((avD (cutC p0) 0).length : Nat) : Int) + 1)))).length).bind fun j1 =>
  ((wiS ((avS (cutC p0) 0)) ((avD (cutC p0) 0)) ((IntKind.wrap .i64 ((((avD (cutC p0) 0).length : Nat) : Int) + 1))))[j1]?).bind fun v2 =>
  some ([.one ((.bool ((v2 : Int) == 0)), false)], [])
  else
  some ([.one ((.bool false), false)], []))
  else
  some ([.one ((.bool false), false)], []))
  else
  none)
  else
  some ([.one ((.bool false), false)], []))
  else
  none)
  else
  none)))))
  else
  none)
  else
  none)
  else
  none)
  else
  none)) := by kernel_rfl
end laws_FnWindowsOfWhole
theorem laws_FnWindowsOfWhole.ok_of (hX : ∀ E ∈ laws_FnWindowsOfWhole.X, CallSpec Try.prog E) (h : ∀ (bs : List Int), (bytesB bs) = true → ∃ fuel, runF Try.prog laws_FnWindowsOfWhole.X laws_FnWindowsOfWhole.I 0 fuel 5 Try.f5 [.d (.ints .u8 bs)] = some ([.one ((.bool true), false)], [])) : CallSpec Try.prog laws_FnWindowsOfWhole.E :=
  callSpec_of (d := 0) hX (by kernel_rfl) laws_FnWindowsOfWhole.I_ok (by kernel_rfl) (by kernel_rfl) (by kernel_rfl) (fun _ _ _ _ h => by dsimp only [laws_FnWindowsOfWhole.E] at h; cases h) (fun xs hp => by
    dsimp only [laws_FnWindowsOfWhole.E] at hp ⊢
    split at hp
    · exact h _ hp
    · cases hp)
theorem laws_FnWindowsOfWhole.ok : CallSpec Try.prog laws_FnWindowsOfWhole.E := laws_FnWindowsOfWhole.ok_of (by simp [laws_FnWindowsOfWhole.X, spec_DrawWindowsOf.ok, impl_WindowsOf.ok, spec_WindowsOf.ok, laws_equalArray.ok, laws_equalInts.ok]) fun bs h => by
  obtain ⟨F, hF⟩ : ∃ F : Nat, 4000 < F := ⟨4001, by omega⟩
  refine ⟨F, ?_⟩
  rw [laws_FnWindowsOfWhole.e]
  by_cases hl : ((bs.length : Nat) : Int) > 1048576
  · rw [decide_eq_true hl]; rfl
  rw [decide_eq_false hl, cond_false, h, cond_true]
  have r0 := cut_ok h (p := 0) (by omega) (by omega)
  obtain ⟨a1, a2, a3, a4⟩ := av_bd r0 (by omega)
  have hsm : vcB (avS (cutC bs) 0) (avD (cutC bs) 0) = true → (avD (cutC bs) 0).length ≤ 20 := fun h => av_small r0 h
  obtain ⟨sh, hsh⟩ : ∃ x, avS (cutC bs) 0 = x := ⟨_, rfl⟩
  obtain ⟨da, hda⟩ : ∃ x, avD (cutC bs) 0 = x := ⟨_, rfl⟩
  obtain ⟨n, hn⟩ : ∃ x, dWn (cutC bs) = x := ⟨_, rfl⟩
  rw [hsh] at a1
  rw [hda] at a2
  rw [hsh, hda] at hsm
  have g1 := lt_of (xs := sh) (by omega)
  have g2 := lt_of (xs := da) (by omega)
  have w := wi_len sh da n
  have g3 := lt_of (xs := wiS sh da n) (by omega)
  have g4 := lt_of (xs := wiD sh da n) (by omega)
  simp only [hsh, hda, hn]
  cases hb : wiB sh da n with
  | false => simp only [Bool.and_self, Bool.and_true, Bool.true_and, cond_true, cond_false, Bool.not_true, Bool.not_false, bne_self_eq_false, beq_self_eq_true, decide_true, eq_self, g1, g2, g3, g4]
  | true =>
    obtain ⟨k, rfl, k1, k2, hvc, e1, e2, hvw⟩ := wiB_eq hb
    have hl := hsm hvc
    by_cases h0 : da.length = 0
    · have e0 : ((((da.length : Nat) : Int) : Int) == 0) = true := by rw [beq_iff_eq]; omega
      simp only [Bool.and_self, Bool.and_true, Bool.true_and, cond_true, cond_false, Bool.not_true, Bool.not_false, bne_self_eq_false, beq_self_eq_true, decide_true, eq_self, g1, g2, g3, g4, e0]
    · obtain ⟨b1, b2, b3⟩ := wiB_of (k := da.length) hvc (by omega) (by omega) (by omega) (by rw [Nat.add_sub_cancel_left, Nat.one_mul]; omega)
      obtain ⟨d1, d2, d3⟩ := wiB_of (k := da.length + 1) hvc (by omega) (by omega) (by omega) (by rw [Nat.sub_self, Nat.zero_mul]; omega)
      rw [wi_whole (by omega)] at b3
      have e0 : ((((da.length : Nat) : Int) : Int) == 0) = false := beq0 (by omega)
      have ix : idx 0 (wiS sh da ((da.length + 1 : Nat) : Int)).length = some 0 := by rw [d2]; rfl
      have ig : (wiS sh da ((da.length + 1 : Nat) : Int))[0]? = some 0 := by rw [d2, Nat.sub_self]; rfl
      rw [w1 (by omega), b1, b3, d1, ix]
      simp only [Option.bind_some, ig]
      simp only [Bool.and_self, Bool.and_true, Bool.true_and, cond_true, cond_false, Bool.not_true, Bool.not_false, bne_self_eq_false, beq_self_eq_true, decide_true, eq_self, g1, g2, g3, g4, e0]

end Go.Ab
